/- PathItems, walked. -/
import Derived.Test.YtkbnglcpcehaiaaDoorZPtS0
namespace Go.Proofs.YtkbnglcpcehaiaaDoor
open Go Go.RowKit Go.Shelf
set_option linter.unusedSimpArgs false
set_option linter.unusedVariables false
set_option maxRecDepth 100000

theorem itX_back (x : Cr) : crG (itX x) = x := by
  obtain ⟨g, b⟩ := x
  have h : shX (itX (g, b)).l = true := rfl
  rw [crG_yes (x := itX (g, b)) (y := itU g.toNat) (z := itB b) h rfl]
  have e1 : UInt32.ofNat ((itU g.toNat).n.toNat) = g := by
    show UInt32.ofNat (((g.toNat : Nat) : Int).toNat) = g
    rw [Int.toNat_natCast]
    exact UInt32.ofNat_toNat
  have e2 : ((itB b).n == 1) = b := by cases b <;> rfl
  rw [e1, e2]

theorem guP_back (bk : Bool) (xs : List Cr) (h : xs.length ≤ 64) : guP (itP bk xs) = (bk, xs) := by
  have hl : (itP bk xs).l = itB bk :: xs.map itX := rfl
  unfold guP
  rw [hl, if_neg (by simp; omega)]
  have e2 : ((itB bk).n == 1) = bk := by cases bk <;> rfl
  simp only [List.drop_succ_cons, List.drop_zero, List.map_map, e2, Prod.mk.injEq, true_and]
  have e3 : (crG ∘ itX) = id := funext itX_back
  rw [e3, List.map_id]

theorem isP_back (bk : Bool) (xs : List Cr) (h : rightX xs = true) : isP (itP bk xs) = true ∧ guP (itP bk xs) = (bk, xs) := by
  have h64 : xs.length ≤ 64 := by
    unfold rightX at h
    simp only [Bool.and_eq_true, decide_eq_true_eq] at h
    exact h.1
  have h1 := guP_back bk xs h64
  refine ⟨?_, h1⟩
  unfold isP
  rw [h1, h, same_self]
  rfl

/-- Five cells of a box, and what holds of them later. -/
theorem box5_all {w w' : World} {v0 v1 v2 v3 v4 : Value} {t : TypeId} (h : Below (w.alloc (.cells #[v0, v1, v2, v3, v4] t)).heap.size (w.alloc (.cells #[v0, v1, v2, v3, v4] t)) w') :
    w'.cell? ⟨w.heap.size, 0, none⟩ = some v0 ∧ w'.cell? ⟨w.heap.size, 1, none⟩ = some v1 ∧ w'.cell? ⟨w.heap.size, 2, none⟩ = some v2 ∧ w'.cell? ⟨w.heap.size, 3, none⟩ = some v3 ∧ w'.cell? ⟨w.heap.size, 4, none⟩ = some v4 :=
  ⟨box_at h 0, box_at h 1, box_at h 2, box_at h 3, box_at h 4⟩

set_option maxHeartbeats 16000000 in
theorem pathItems_long (bk : Bool) (a : Option Addr) (c : Nat) (xs : List Cr) (w : World) (hcap : xs.length ≤ c) (hr : RdX w w.heap.size a xs) (ht : TabW w) (hbig : xs.length ≤ 140737488351232) (h100 : 100 < xs.length) :
    Calls Tryd.prog 4 #[.agg #[.bool bk, .slice a xs.length c]] w fun e w' => e = .returned (.bool true) ∧ Below w.heap.size w w' := by
  obtain ⟨W, hW⟩ : ∃ W, W = w.alloc (.cells #[.bool bk, .slice a xs.length c] 24) := ⟨_, rfl⟩
  have HB0 : Hid (Below w.heap.size w W) := by rw [hW]; exact below_al (Below.refl _ _) _
  have HS : Hid (∀ w', Below W.heap.size W w' → (w'.cell? ⟨w.heap.size, 0, none⟩ = some (.bool bk) ∧ w'.cell? ⟨w.heap.size, 1, none⟩ = some (.slice a xs.length c))) := fun w' h => by
    rw [hW] at h
    exact ⟨box_at h 0, box_at h 1⟩
  have HT : Hid (∀ w', Below W.heap.size W w' → TabW w') := fun w' h => (ht.on HB0.out).on h
  have HR : Hid (∀ w', Below W.heap.size W w' → RdX w' w'.heap.size a xs) := fun w' h => (hr.on HB0.out).on h
  have HW := Lib.hid hW
  clear hW ht hr
  obtain ⟨x0, x1⟩ := HS.out W (Below.refl _ _)
  go_enter Tryd.func4, Tryd.ntmps4
  go_wp2_with fail
  rw [← HW.out]
  refine (ptWorks_any W (HT.out W (Below.refl _ _))).mono ?_
  rintro e w1 ⟨rfl, hb⟩
  have HB1 := Lib.hid hb
  clear hb
  go_wp2
  go_ret
  exact ⟨rfl, HB0.out.trans (HB1.out.mono HB0.out.size)⟩

set_option maxHeartbeats 16000000 in
theorem pathItems_no (bk : Bool) (a : Option Addr) (c : Nat) (xs : List Cr) (w : World) (hcap : xs.length ≤ c) (hr : RdX w w.heap.size a xs) (ht : TabW w) (h100 : xs.length ≤ 100) (hq : rightX xs = false) :
    Calls Tryd.prog 4 #[.agg #[.bool bk, .slice a xs.length c]] w fun e w' => e = .returned (.bool true) ∧ Below w.heap.size w w' := by
  obtain ⟨W, hW⟩ : ∃ W, W = w.alloc (.cells #[.bool bk, .slice a xs.length c] 24) := ⟨_, rfl⟩
  have HB0 : Hid (Below w.heap.size w W) := by rw [hW]; exact below_al (Below.refl _ _) _
  have HS : Hid (∀ w', Below W.heap.size W w' → (w'.cell? ⟨w.heap.size, 0, none⟩ = some (.bool bk) ∧ w'.cell? ⟨w.heap.size, 1, none⟩ = some (.slice a xs.length c))) := fun w' h => by
    rw [hW] at h
    exact ⟨box_at h 0, box_at h 1⟩
  have HT : Hid (∀ w', Below W.heap.size W w' → TabW w') := fun w' h => (ht.on HB0.out).on h
  have HR : Hid (∀ w', Below W.heap.size W w' → RdX w' w'.heap.size a xs) := fun w' h => (hr.on HB0.out).on h
  have HW := Lib.hid hW
  clear hW ht hr
  obtain ⟨x0, x1⟩ := HS.out W (Below.refl _ _)
  have HIt : Hid (∀ w', Below W.heap.size W w' → Calls Tryd.prog 18 #[.agg #[.bool bk, .slice a xs.length c]] w' fun e w'' => e = .returned (.tuple #[.agg #[.int .i64 0, .int .u64 0, .slice none 0 0, .string ⟨#[]⟩, .slice none 0 0], .int .i64 2]) ∧ Below w'.heap.size w' w'') := fun w' h => by
    refine (ppItem_any bk a c xs w' (by omega) (HR.out w' h)).mono ?_
    rintro e w'' ⟨hb, ⟨h1, _⟩ | ⟨_, rfl⟩⟩
    · rw [hq] at h1
      cases h1
    · exact ⟨rfl, hb⟩
  have HRr : Hid (∀ w', Below W.heap.size W w' → Calls Tryd.prog 12 #[.agg #[.bool bk, .slice a xs.length c]] w' fun e w'' => e = .returned (.bool false) ∧ Below w'.heap.size w' w'') := fun w' h => by
    have h1 := refRight_any bk a c xs w' (by omega) hcap (HR.out w' h)
    rw [hq] at h1
    exact h1
  have HNO : Hid (∀ w, ItV w w.heap.size (.agg #[.int .i64 0, .int .u64 0, .slice none 0 0, .string ⟨#[]⟩, .slice none 0 0]) (.mk 0 0 [] [] [])) := fun w => ItS.itV (S := fun _ => False) (fun _ q => q.elim) _ (itS_plain _ _ 0 0 [] (by decide) ⟨by decide, by decide⟩ (Nat.zero_le _))
  have HSM : Hid (∀ w, Calls Tryd.prog 19 #[.agg #[.int .i64 0, .int .u64 0, .slice none 0 0, .string ⟨#[]⟩, .slice none 0 0], .agg #[.int .i64 0, .int .u64 0, .slice none 0 0, .string ⟨#[]⟩, .slice none 0 0]] w fun e w3 => e = .returned (.bool true) ∧ Below w.heap.size w w3) := fun w => by
    have h3 := refSame_any (.mk 0 0 [] [] []) (.mk 0 0 [] [] []) _ _ w (HNO.out w) (HNO.out w)
    rw [same_self] at h3
    exact h3
  clear hq HNO HR
  go_enter Tryd.func4, Tryd.ntmps4
  go_wp2_with fail
  rw [← HW.out]
  refine (HIt.out W (Below.refl _ _)).mono ?_
  rintro e w1 ⟨rfl, hb⟩
  obtain ⟨W1, hW1⟩ : ∃ W, W = w1.alloc (.cells #[.int .i64 0, .int .u64 0, .slice none 0 0, .string ⟨#[]⟩, .slice none 0 0] 45) := ⟨_, rfl⟩
  have HB1 : Hid (Below W.heap.size W W1) := by rw [hW1]; exact below_al hb _
  have HA1 : Hid (∀ w', Below W1.heap.size W1 w' → (w'.cell? ⟨w1.heap.size, 0, none⟩ = some (.int .i64 0) ∧ w'.cell? ⟨w1.heap.size, 1, none⟩ = some (.int .u64 0) ∧ w'.cell? ⟨w1.heap.size, 2, none⟩ = some (.slice none 0 0) ∧ w'.cell? ⟨w1.heap.size, 3, none⟩ = some (.string ⟨#[]⟩) ∧ w'.cell? ⟨w1.heap.size, 4, none⟩ = some (.slice none 0 0))) := fun w' h => by
    rw [hW1] at h
    exact box5_all h
  have HW1 := Lib.hid hW1
  clear x0 x1 hb
  obtain ⟨x0, x1⟩ := HS.out W1 HB1.out
  obtain ⟨y0, y1, y2, y3, y4⟩ := HA1.out W1 (Below.refl _ _)
  rw [hW1] at x0 x1 y0 y1 y2 y3 y4
  clear hW1
  go_wp2_with fail
  rw [← HW1.out]
  refine (HRr.out W1 HB1.out).mono ?_
  rintro e w2 ⟨rfl, hb⟩
  have HB2 := Lib.hid (below_on HB1.out hb)
  clear x0 x1 y0 y1 y2 y3 y4
  obtain ⟨y0, y1, y2, y3, y4⟩ := HA1.out w2 hb
  clear hb
  go_wp2_with fail
  refine (HSM.out w2).mono ?_
  rintro e w3 ⟨rfl, hb⟩
  have HB3 := Lib.hid (below_on HB2.out hb)
  clear y0 y1 y2 y3 y4 hb
  go_wp2_with (go_at_call 14; refine (ptNum_any _ _).mono ?_; rintro e w' ⟨rfl, rfl⟩)
  refine (ptWorks_any w3 (HT.out w3 HB3.out)).mono ?_
  rintro e w4 ⟨rfl, hb⟩
  have HB4 := Lib.hid (below_on HB3.out hb)
  clear hb
  go_wp2
  go_ret
  exact ⟨rfl, HB0.out.trans (HB4.out.mono HB0.out.size)⟩

set_option maxHeartbeats 16000000 in
theorem pathItems_yes (bk : Bool) (a : Option Addr) (c : Nat) (xs : List Cr) (w : World) (hcap : xs.length ≤ c) (hr : RdX w w.heap.size a xs) (ht : TabW w) (h100 : xs.length ≤ 100) (hq : rightX xs = true) :
    Calls Tryd.prog 4 #[.agg #[.bool bk, .slice a xs.length c]] w fun e w' => e = .returned (.bool true) ∧ Below w.heap.size w w' := by
  obtain ⟨W, hW⟩ : ∃ W, W = w.alloc (.cells #[.bool bk, .slice a xs.length c] 24) := ⟨_, rfl⟩
  have HB0 : Hid (Below w.heap.size w W) := by rw [hW]; exact below_al (Below.refl _ _) _
  have HS : Hid (∀ w', Below W.heap.size W w' → (w'.cell? ⟨w.heap.size, 0, none⟩ = some (.bool bk) ∧ w'.cell? ⟨w.heap.size, 1, none⟩ = some (.slice a xs.length c))) := fun w' h => by
    rw [hW] at h
    exact ⟨box_at h 0, box_at h 1⟩
  have HT : Hid (∀ w', Below W.heap.size W w' → TabW w') := fun w' h => (ht.on HB0.out).on h
  have HR : Hid (∀ w', Below W.heap.size W w' → RdX w' w'.heap.size a xs) := fun w' h => (hr.on HB0.out).on h
  have HW := Lib.hid hW
  clear hW ht hr
  obtain ⟨x0, x1⟩ := HS.out W (Below.refl _ _)
  have HIt : Hid (∀ w', Below W.heap.size W w' → Calls Tryd.prog 18 #[.agg #[.bool bk, .slice a xs.length c]] w' fun e w'' => ∃ a c A C, e = .returned (.tuple #[.agg #[.int .i64 4, .int .u64 0, .slice a 0 c, .string ⟨#[]⟩, .slice A (xs.length + 1) C], .int .i64 0]) ∧ ItV w'' w''.heap.size (.agg #[.int .i64 4, .int .u64 0, .slice a 0 c, .string ⟨#[]⟩, .slice A (xs.length + 1) C]) (itP bk xs) ∧ Below w'.heap.size w' w'') := fun w' h => by
    refine (ppItem_any bk a c xs w' (by omega) (HR.out w' h)).mono ?_
    rintro e w'' ⟨hb, ⟨_, a1, c1, A1, C1, rfl, hv⟩ | ⟨h1, _⟩⟩
    · exact ⟨a1, c1, A1, C1, rfl, hv.new_itV, hb⟩
    · rw [hq] at h1
      cases h1
  have HRr : Hid (∀ w', Below W.heap.size W w' → Calls Tryd.prog 12 #[.agg #[.bool bk, .slice a xs.length c]] w' fun e w'' => e = .returned (.bool true) ∧ Below w'.heap.size w' w'') := fun w' h => by
    have h1 := refRight_any bk a c xs w' (by omega) hcap (HR.out w' h)
    rw [hq] at h1
    exact h1
  have HRi : Hid (∀ w', Below W.heap.size W w' → Calls Tryd.prog 21 #[.agg #[.bool bk, .slice a xs.length c]] w' fun e w'' => Below w'.heap.size w' w'' ∧ ∃ v, e = .returned v ∧ ItV w'' w''.heap.size v (itP bk xs)) := fun w' h => by
    refine (refPItem_any bk a c xs w' (by omega) (HR.out w' h)).mono ?_
    rintro e w'' ⟨hb, v, rfl, hv⟩
    exact ⟨hb, v, rfl, hv.new_itV⟩
  have HOf : Hid (∀ w' v, ItV w' w'.heap.size v (itP bk xs) → Calls Tryd.prog 20 #[v] w' fun e w'' => ∃ A C, e = .returned (.tuple #[.agg #[.bool bk, .slice A xs.length C], .int .i64 0]) ∧ RdX w'' w''.heap.size A xs ∧ Below w'.heap.size w' w'') := fun w' v hv => by
    obtain ⟨h1, h2⟩ := isP_back bk xs hq
    refine (pof_any (itP bk xs) v w' hv).mono ?_
    rintro e w'' ⟨hb, ⟨_, A, C, rfl, _, hrd⟩ | ⟨h3, _⟩⟩
    · rw [h2] at hrd
      exact ⟨A, C, by rw [h2], hrd, hb⟩
    · rw [h1] at h3
      cases h3
  have HCl : Hid (xs.length ≤ 100) := h100
  clear hq
  go_enter Tryd.func4, Tryd.ntmps4
  go_wp2_with fail
  rw [← HW.out]
  refine (HIt.out W (Below.refl _ _)).mono ?_
  rintro e w1 ⟨a1, c1, A1, C1, rfl, hv, hb⟩
  obtain ⟨W1, hW1⟩ : ∃ W, W = w1.alloc (.cells #[.int .i64 4, .int .u64 0, .slice a1 0 c1, .string ⟨#[]⟩, .slice A1 (xs.length + 1) C1] 45) := ⟨_, rfl⟩
  have HB1 : Hid (Below W.heap.size W W1) := by rw [hW1]; exact below_al hb _
  have HA1 : Hid (∀ w', Below W1.heap.size W1 w' → (w'.cell? ⟨w1.heap.size, 0, none⟩ = some (.int .i64 4) ∧ w'.cell? ⟨w1.heap.size, 1, none⟩ = some (.int .u64 0) ∧ w'.cell? ⟨w1.heap.size, 2, none⟩ = some (.slice a1 0 c1) ∧ w'.cell? ⟨w1.heap.size, 3, none⟩ = some (.string ⟨#[]⟩) ∧ w'.cell? ⟨w1.heap.size, 4, none⟩ = some (.slice A1 (xs.length + 1) C1))) := fun w' h => by
    rw [hW1] at h
    exact box5_all h
  have HV1 : Hid (∀ w', Below W1.heap.size W1 w' → ItV w' w'.heap.size (.agg #[.int .i64 4, .int .u64 0, .slice a1 0 c1, .string ⟨#[]⟩, .slice A1 (xs.length + 1) C1]) (itP bk xs)) := fun w' h => by
    have h0 : ItV W1 W1.heap.size (.agg #[.int .i64 4, .int .u64 0, .slice a1 0 c1, .string ⟨#[]⟩, .slice A1 (xs.length + 1) C1]) (itP bk xs) := by rw [hW1]; exact hv.on (below_al (Below.refl _ _) _)
    exact h0.on h
  have HW1 := Lib.hid hW1
  clear x0 x1 hb hv
  obtain ⟨x0, x1⟩ := HS.out W1 HB1.out
  obtain ⟨y0, y1, y2, y3, y4⟩ := HA1.out W1 (Below.refl _ _)
  rw [hW1] at x0 x1 y0 y1 y2 y3 y4
  clear hW1
  go_wp2_with fail
  rw [← HW1.out]
  refine (HRr.out W1 HB1.out).mono ?_
  rintro e w2 ⟨rfl, hb⟩
  have HB12 := Lib.hid hb
  clear x0 x1 y0 y1 y2 y3 y4
  obtain ⟨y0, y1, y2, y3, y4⟩ := HA1.out w2 hb
  clear hb
  go_wp2_with fail
  refine (HOf.out w2 _ (HV1.out w2 HB12.out)).mono ?_
  rintro e w3 ⟨A2, C2, rfl, hrd, hb⟩
  obtain ⟨W3, hW3⟩ : ∃ W, W = w3.alloc (.cells #[.bool bk, .slice A2 xs.length C2] 24) := ⟨_, rfl⟩
  have HB13 : Hid (Below W1.heap.size W1 W3) := by rw [hW3]; exact below_al (below_on HB12.out hb) _
  have HELD : Hid (∀ w', Below W3.heap.size W3 w' → (w'.cell? ⟨w.heap.size, 0, none⟩ = some (.bool bk) ∧ w'.cell? ⟨w.heap.size, 1, none⟩ = some (.slice a xs.length c)) ∧ (w'.cell? ⟨w1.heap.size, 0, none⟩ = some (.int .i64 4) ∧ w'.cell? ⟨w1.heap.size, 1, none⟩ = some (.int .u64 0) ∧ w'.cell? ⟨w1.heap.size, 2, none⟩ = some (.slice a1 0 c1) ∧ w'.cell? ⟨w1.heap.size, 3, none⟩ = some (.string ⟨#[]⟩) ∧ w'.cell? ⟨w1.heap.size, 4, none⟩ = some (.slice A1 (xs.length + 1) C1)) ∧ (w'.cell? ⟨w3.heap.size, 0, none⟩ = some (.bool bk) ∧ w'.cell? ⟨w3.heap.size, 1, none⟩ = some (.slice A2 xs.length C2))) := fun w' h => by
    refine ⟨HS.out w' (below_on HB1.out (below_on HB13.out h)), HA1.out w' (below_on HB13.out h), ?_⟩
    rw [hW3] at h
    exact box2_all h
  have HP2 : Hid (∀ w', Below W3.heap.size W3 w' → RdX w' w'.heap.size A2 xs) := fun w' h => by
    have h0 : RdX W3 W3.heap.size A2 xs := by rw [hW3]; exact hrd.on (below_al (Below.refl _ _) _)
    exact h0.on h
  have HW3 := Lib.hid hW3
  have HSp : Hid (∀ w', Below W3.heap.size W3 w' → Calls Tryd.prog 13 #[.agg #[.bool bk, .slice a xs.length c], .agg #[.bool bk, .slice A2 xs.length C2]] w' fun e w'' => e = .returned (.bool true) ∧ Below w'.heap.size w' w'') := fun w' h => by
    have h1 := refPSame_any bk bk a A2 c C2 xs xs w' (by omega) (by omega) (HR.out w' (below_on HB1.out (below_on HB13.out h))) (HP2.out w' h)
    rw [sameP_self] at h1
    exact h1
  have HSi : Hid (∀ w' v, Below W3.heap.size W3 w' → ItV w' w'.heap.size v (itP bk xs) → Calls Tryd.prog 19 #[.agg #[.int .i64 4, .int .u64 0, .slice a1 0 c1, .string ⟨#[]⟩, .slice A1 (xs.length + 1) C1], v] w' fun e w'' => e = .returned (.bool true) ∧ Below w'.heap.size w' w'') := fun w' v h hv => by
    have h1 := refSame_any (itP bk xs) (itP bk xs) _ v w' (HV1.out w' (below_on HB13.out h)) hv
    rw [same_self] at h1
    exact h1
  clear y0 y1 y2 y3 y4 hb hrd
  obtain ⟨⟨x0, x1⟩, ⟨y0, y1, y2, y3, y4⟩, z0, z1⟩ := HELD.out W3 (Below.refl _ _)
  rw [hW3] at x0 x1 y0 y1 y2 y3 y4 z0 z1
  clear hW3
  go_wp2_with fail
  rw [← HW3.out]
  have F : Below W3.heap.size W3 W3.drew := (Below.refl _ _).drew
  clear x0 x1 y0 y1 y2 y3 y4 z0 z1
  refine wp_region_held_drew (S := fun w' => (w'.cell? ⟨w.heap.size, 0, none⟩ = some (.bool bk) ∧ w'.cell? ⟨w.heap.size, 1, none⟩ = some (.slice a xs.length c)) ∧ (w'.cell? ⟨w1.heap.size, 0, none⟩ = some (.int .i64 4) ∧ w'.cell? ⟨w1.heap.size, 1, none⟩ = some (.int .u64 0) ∧ w'.cell? ⟨w1.heap.size, 2, none⟩ = some (.slice a1 0 c1) ∧ w'.cell? ⟨w1.heap.size, 3, none⟩ = some (.string ⟨#[]⟩) ∧ w'.cell? ⟨w1.heap.size, 4, none⟩ = some (.slice A1 (xs.length + 1) C1)) ∧ (w'.cell? ⟨w3.heap.size, 0, none⟩ = some (.bool bk) ∧ w'.cell? ⟨w3.heap.size, 1, none⟩ = some (.slice A2 xs.length C2))) (by kernel_rfl) (HELD.out _ F) (fun hHeld => ?_)
  refine take_listed (i := 0) (v := ?_) rfl (by kernel_rfl) (by kernel_rfl) (by kernel_rfl) (fun _ _ _ h => h) (Or.inl ⟨by rfl, ?_⟩) (by assumption) ?_
  rotate_left
  · intro w hSw
    (try dsimp only at hSw)
    go_simp
    all_goals with_reducible rfl
  simp only [Act.put, List.setIfInBounds_toArray, List.set_cons_zero, List.set_cons_succ]
  refine take_listed (i := 1) (v := ?_) rfl (by kernel_rfl) (by kernel_rfl) (by kernel_rfl) (fun _ _ _ h => h) (Or.inl ⟨by rfl, ?_⟩) (by assumption) ?_
  rotate_left
  · intro w hSw
    (try dsimp only at hSw)
    go_simp
    all_goals with_reducible rfl
  simp only [Act.put, List.setIfInBounds_toArray, List.set_cons_zero, List.set_cons_succ]
  refine wpAnyH_ready (rs := [2]) (by kernel_rfl) (by simp) ?_
  refine AllReadyH.cons rfl (fun K hK => ?_) AllReadyH.nil
  go_simp
  refine (HRi.out _ (below_on HB1.out (below_on HB13.out F))).mono ?_
  rintro e wz ⟨hb, v, rfl, hv⟩
  replace F := below_on F hb
  clear hb
  obtain ⟨a5, c5, A5, C5, rfl⟩ := hv.form
  refine hK.out _ _ (HELD.out _ F) (fun hHeld => ?_)
  clear hK K
  try simp only [Act.put, List.setIfInBounds_toArray, List.set_cons_zero, List.set_cons_succ]
  refine wpAnyH_ready (rs := [3]) (by kernel_rfl) (by simp) ?_
  refine AllReadyH.cons rfl (fun K hK => ?_) AllReadyH.nil
  go_simp
  refine (HSi.out _ _ F hv).mono ?_
  rintro e wz ⟨rfl, hb⟩
  replace F := below_on F hb
  clear hb
  refine hK.out _ _ (HELD.out _ F) (fun hHeld => ?_)
  clear hK K
  try simp only [Act.put, List.setIfInBounds_toArray, List.set_cons_zero, List.set_cons_succ]
  refine take_listed (i := 4) (v := ?_) rfl (by kernel_rfl) (by kernel_rfl) (by kernel_rfl) (fun _ _ _ h => h) (Or.inl ⟨by rfl, ?_⟩) (by assumption) ?_
  rotate_left
  · intro w hSw
    (try dsimp only at hSw)
    go_simp
    all_goals with_reducible rfl
  simp only [Act.put, List.setIfInBounds_toArray, List.set_cons_zero, List.set_cons_succ]
  refine take_listed (i := 5) (v := ?_) rfl (by kernel_rfl) (by kernel_rfl) (by kernel_rfl) (fun _ _ _ h => h) (Or.inl ⟨by rfl, ?_⟩) (by assumption) ?_
  rotate_left
  · intro w hSw
    (try dsimp only at hSw)
    go_simp
    all_goals with_reducible rfl
  simp only [Act.put, List.setIfInBounds_toArray, List.set_cons_zero, List.set_cons_succ]
  refine take_listed (i := 7) (v := ?_) rfl (by kernel_rfl) (by kernel_rfl) (by kernel_rfl) (fun _ _ _ h => h) (Or.inl ⟨by rfl, ?_⟩) (by assumption) ?_
  rotate_left
  · intro w hSw
    (try dsimp only at hSw)
    go_simp
    all_goals with_reducible rfl
  simp only [Act.put, List.setIfInBounds_toArray, List.set_cons_zero, List.set_cons_succ]
  refine wpAnyH_ready (rs := [6]) (by kernel_rfl) (by simp) ?_
  refine AllReadyH.cons rfl (fun K hK => ?_) AllReadyH.nil
  go_simp
  refine (ptNum_any _ _).mono ?_
  rintro e wz ⟨rfl, rfl⟩
  refine hK.out _ _ (HELD.out _ F) (fun hHeld => ?_)
  clear hK K
  try simp only [Act.put, List.setIfInBounds_toArray, List.set_cons_zero, List.set_cons_succ]
  refine wpAnyH_ready (rs := [8]) (by kernel_rfl) (by simp) ?_
  refine AllReadyH.cons rfl (fun K hK => ?_) AllReadyH.nil
  go_simp
  refine (ptNum_any _ _).mono ?_
  rintro e wz ⟨rfl, rfl⟩
  refine hK.out _ _ (HELD.out _ F) (fun hHeld => ?_)
  clear hK K
  try simp only [Act.put, List.setIfInBounds_toArray, List.set_cons_zero, List.set_cons_succ]
  refine take_listed (i := 9) (v := ?_) rfl (by kernel_rfl) (by kernel_rfl) (by kernel_rfl) (fun _ _ _ h => h) (Or.inl ⟨by rfl, ?_⟩) (by assumption) ?_
  rotate_left
  · intro w hSw
    (try dsimp only at hSw)
    go_simp
    all_goals with_reducible rfl
  simp only [Act.put, List.setIfInBounds_toArray, List.set_cons_zero, List.set_cons_succ]
  refine take_listed (i := 10) (v := ?_) rfl (by kernel_rfl) (by kernel_rfl) (by kernel_rfl) (fun _ _ _ h => h) (Or.inl ⟨by rfl, ?_⟩) (by assumption) ?_
  rotate_left
  · intro w hSw
    (try dsimp only at hSw)
    go_simp
    all_goals with_reducible rfl
  simp only [Act.put, List.setIfInBounds_toArray, List.set_cons_zero, List.set_cons_succ]
  refine take_listed (i := 11) (v := ?_) rfl (by kernel_rfl) (by kernel_rfl) (by kernel_rfl) (fun _ _ _ h => h) (Or.inl ⟨by rfl, ?_⟩) (by assumption) ?_
  rotate_left
  · intro w hSw
    (try dsimp only at hSw)
    go_simp
    all_goals with_reducible rfl
  simp only [Act.put, List.setIfInBounds_toArray, List.set_cons_zero, List.set_cons_succ]
  refine take_listed (i := 12) (v := ?_) rfl (by kernel_rfl) (by kernel_rfl) (by kernel_rfl) (fun _ _ _ h => h) (Or.inl ⟨by rfl, ?_⟩) (by assumption) ?_
  rotate_left
  · intro w hSw
    (try dsimp only at hSw)
    go_simp
    all_goals with_reducible rfl
  simp only [Act.put, List.setIfInBounds_toArray, List.set_cons_zero, List.set_cons_succ]
  refine take_listed (i := 13) (v := ?_) rfl (by kernel_rfl) (by kernel_rfl) (by kernel_rfl) (fun _ _ _ h => h) (Or.inl ⟨by rfl, ?_⟩) (by assumption) ?_
  rotate_left
  · intro w hSw
    (try dsimp only at hSw)
    go_simp
    all_goals with_reducible rfl
  simp only [Act.put, List.setIfInBounds_toArray, List.set_cons_zero, List.set_cons_succ]
  refine take_listed (i := 14) (v := ?_) rfl (by kernel_rfl) (by kernel_rfl) (by kernel_rfl) (fun _ _ _ h => h) (Or.inl ⟨by rfl, ?_⟩) (by assumption) ?_
  rotate_left
  · intro w hSw
    (try dsimp only at hSw)
    go_simp
    all_goals with_reducible rfl
  simp only [Act.put, List.setIfInBounds_toArray, List.set_cons_zero, List.set_cons_succ]
  refine wpAnyH_ready (rs := [15]) (by kernel_rfl) (by simp) ?_
  refine AllReadyH.cons rfl (fun K hK => ?_) AllReadyH.nil
  go_simp
  refine (HSp.out _ F).mono ?_
  rintro e wz ⟨rfl, hb⟩
  replace F := below_on F hb
  clear hb
  refine hK.out _ _ (HELD.out _ F) (fun hHeld => ?_)
  clear hK K
  try simp only [Act.put, List.setIfInBounds_toArray, List.set_cons_zero, List.set_cons_succ]
  refine take_listed (i := 16) (v := ?_) rfl (by kernel_rfl) (by kernel_rfl) (by kernel_rfl) (fun _ _ _ h => h) (Or.inl ⟨by rfl, ?_⟩) (by assumption) ?_
  rotate_left
  · intro w hSw
    (try dsimp only at hSw)
    go_simp
    all_goals with_reducible rfl
  simp only [Act.put, List.setIfInBounds_toArray, List.set_cons_zero, List.set_cons_succ]
  refine take_listed (i := 17) (v := ?_) rfl (by kernel_rfl) (by kernel_rfl) (by kernel_rfl) (fun _ _ _ h => h) (Or.inl ⟨by rfl, ?_⟩) (by assumption) ?_
  rotate_left
  · intro w hSw
    (try dsimp only at hSw)
    go_simp
    all_goals with_reducible rfl
  simp only [Act.put, List.setIfInBounds_toArray, List.set_cons_zero, List.set_cons_succ]
  refine wpAnyH_ready (rs := [18]) (by kernel_rfl) (by simp) ?_
  refine AllReadyH.cons rfl (fun K hK => ?_) AllReadyH.nil
  go_simp
  refine (ptWorks_any _ (HT.out _ (below_on HB1.out (below_on HB13.out F)))).mono ?_
  rintro e wz ⟨rfl, hb⟩
  replace F := below_on F hb
  clear hb
  refine hK.out _ _ (HELD.out _ F) (fun hHeld => ?_)
  clear hK K
  try simp only [Act.put, List.setIfInBounds_toArray, List.set_cons_zero, List.set_cons_succ]
  refine take_listed (i := 19) (v := ?_) rfl (by kernel_rfl) (by kernel_rfl) (by kernel_rfl) (fun _ _ _ h => h) (Or.inl ⟨by rfl, ?_⟩) (by assumption) ?_
  rotate_left
  · intro w hSw
    (try dsimp only at hSw)
    go_simp
    all_goals with_reducible rfl
  simp only [Act.put, List.setIfInBounds_toArray, List.set_cons_zero, List.set_cons_succ]
  refine take_listed (i := 20) (v := ?_) rfl (by kernel_rfl) (by kernel_rfl) (by kernel_rfl) (fun _ _ _ h => h) (Or.inl ⟨by rfl, ?_⟩) (by assumption) ?_
  rotate_left
  · intro w hSw
    (try dsimp only at hSw)
    go_simp
    all_goals with_reducible rfl
  simp only [Act.put, List.setIfInBounds_toArray, List.set_cons_zero, List.set_cons_succ]
  clear hHeld
  refine wpAnyH_done (by kernel_rfl) ?_ _
  have HF := Lib.hid F
  clear F hv
  go_wp2
  go_ret
  exact ⟨rfl, HB0.out.trans ((below_on HB1.out (below_on HB13.out HF.out)).mono HB0.out.size)⟩

theorem walk_pathItems (bk : Bool) (a : Option Addr) (c : Nat) (xs : List Cr) (w : World) (hcap : xs.length ≤ c) (hbig : xs.length ≤ 140737488351232) (hr : RdX w w.heap.size a xs) (ht : TabW w) :
    Calls Tryd.prog 4 #[.agg #[.bool bk, .slice a xs.length c]] w fun e w' => e = .returned (.bool true) ∧ Below w.heap.size w w' := by
  by_cases h100 : 100 < xs.length
  · exact pathItems_long bk a c xs w hcap hr ht hbig h100
  · have h : xs.length ≤ 100 := by omega
    cases hq : rightX xs
    · exact pathItems_no bk a c xs w hcap hr ht h hq
    · exact pathItems_yes bk a c xs w hcap hr ht h hq

end Go.Proofs.YtkbnglcpcehaiaaDoor
