/- CborItems, walked. -/
import Derived.Test.YtjabmnpafpccgaaDoorCbH1
import Derived.Test.YtjabmnpafpccgaaDoorCbR1
import Derived.Deep.RegionHeld3
namespace Go.Proofs.YtjabmnpafpccgaaDoor
open Go.RowKit Go.Shelf
set_option linter.unusedSimpArgs false

theorem box1_later (w : World) (v0 v1 v2 v3 v4 : Value) (t : TypeId) (w' : World)
    (hb : Below (w.alloc (.cells #[v0, v1, v2, v3, v4] t)).heap.size (w.alloc (.cells #[v0, v1, v2, v3, v4] t)) w') : Box5 w' w.heap.size v0 v1 v2 v3 v4 :=
  (box5_new w v0 v1 v2 v3 v4 t).later hb (by simp)

set_option maxRecDepth 100000 in
set_option maxHeartbeats 4000000 in
theorem refCheck_any (x : It) (v0 v1 v2 v3 v4 : Value) (w : World) (hv : ItV w w.heap.size (.agg #[v0, v1, v2, v3, v4]) x) (hd : x.depth ≤ 60000) (hl : x.bytes.length ≤ 1000000000) :
    Calls Tryd.prog 10 #[.agg #[v0, v1, v2, v3, v4]] w fun e w' => e = .returned (.int .i64 x.err) ∧ Below w.heap.size w w' := by
  obtain ⟨W0, hW0⟩ : ∃ W0, W0 = w.alloc (.cells #[v0, v1, v2, v3, v4] 27) := ⟨_, rfl⟩
  have HB0 : Hid (Below w.heap.size w W0) := by rw [hW0]; exact below_al (Below.refl _ _) _
  have HX : Hid (∀ w', Below W0.heap.size W0 w' → Box5 w' w.heap.size v0 v1 v2 v3 v4) := by
    intro w' h
    rw [hW0] at h
    exact box1_later w v0 v1 v2 v3 v4 _ w' h
  have HV : Hid (∀ w', Below W0.heap.size W0 w' → ItV w' w'.heap.size (.agg #[v0, v1, v2, v3, v4]) x) := fun w' h => (hv.on HB0.out).on h
  have HW0 := Lib.hid hW0
  have HE : Hid (x.err = if x.right = true then (if 8 < x.depth then 120 else if 65536 < x.bytes.length then 3 else 0) else 2) := rfl
  have HBy := Lib.hid (fun (h : x.right = true) w' (hb : Below W0.heap.size W0 w') => refBytes_any x (.agg #[v0, v1, v2, v3, v4]) w' h hl (HV.out w' hb))
  clear hW0 hv
  cases hr : x.right
  · have HR := Lib.hid hr
    have e9 : x.err = 2 := by rw [HE.out, HR.out]; rfl
    rw [e9]
    clear hr e9
    go_enter Tryd.func10, Tryd.ntmps10
    go_wp2_with fail
    rw [← HW0.out]
    refine (refRight_any x _ _ (HV.out _ (Below.refl _ _))).mono ?_
    rintro e w1 ⟨rfl, hb1⟩
    rw [HR.out]
    go_wp2_with fail
    go_ret
    exact ⟨rfl, HB0.out.trans (hb1.mono HB0.out.size)⟩
  · have HR := Lib.hid hr
    rw [hr] at HE
    clear hr
    go_enter Tryd.func10, Tryd.ntmps10
    go_wp2_with fail
    rw [← HW0.out]
    refine (refRight_any x _ _ (HV.out _ (Below.refl _ _))).mono ?_
    rintro e w1 ⟨rfl, hb1⟩
    rw [HR.out]
    have B1 := Lib.hid hb1
    obtain ⟨d0, d1, d2, d3, d4⟩ := HX.out _ hb1
    clear hb1
    go_wp2_with fail
    refine (depth_any x _ _ (by omega) (HV.out _ B1.out)).mono ?_
    rintro e w2 ⟨rfl, hb2⟩
    have B2 := Lib.hid (below_on B1.out hb2)
    clear d0 d1 d2 d3 d4 hb2
    obtain ⟨d0, d1, d2, d3, d4⟩ := HX.out _ B2.out
    by_cases h8 : (8 : Int) < x.depth
    · have e9 : x.err = 120 := by rw [HE.out, if_pos trivial, if_pos (by omega)]
      have HE9 := Lib.hid e9
      clear e9
      go_wp2_with fail
      go_ret
      exact ⟨by rw [HE9.out]; rfl, HB0.out.trans (B2.out.mono HB0.out.size)⟩
    · go_wp2_with fail
      refine (HBy.out HR.out _ B2.out).mono ?_
      rintro e w3 ⟨v9, rfl, ho, hb3⟩
      obtain ⟨A9, C9, rfl, hC9, hr9, _⟩ := ho.bytes
      have B3 := Lib.hid (below_on B2.out hb3)
      clear d0 d1 d2 d3 d4 hb3 ho hr9
      by_cases hx : (65536 : Int) < x.bytes.length
      · have e9 : x.err = 3 := by rw [HE.out, if_pos trivial, if_neg (by omega), if_pos (by omega)]
        have HE9 := Lib.hid e9
        clear e9
        go_wp2_with fail
        go_ret
        exact ⟨by rw [HE9.out]; rfl, HB0.out.trans (B3.out.mono HB0.out.size)⟩
      · have e9 : x.err = 0 := by rw [HE.out, if_pos trivial, if_neg (by omega), if_neg (by omega)]
        have HE9 := Lib.hid e9
        clear e9
        go_wp2_with fail
        go_ret
        exact ⟨by rw [HE9.out]; rfl, HB0.out.trans (B3.out.mono HB0.out.size)⟩

set_option maxRecDepth 100000 in
set_option maxHeartbeats 8000000 in
theorem citems_no (x : It) (v0 v1 v2 v3 v4 : Value) (w : World) (ht : TabW w) (hv : ItV w w.heap.size (.agg #[v0, v1, v2, v3, v4]) x) (he : x.err ≠ 0) :
    Calls Tryd.prog 3 #[.agg #[v0, v1, v2, v3, v4]] w fun e w' => e = .returned (.bool true) ∧ Below w.heap.size w w' := by
  obtain ⟨W0, hW0⟩ : ∃ W0, W0 = w.alloc (.cells #[v0, v1, v2, v3, v4] 27) := ⟨_, rfl⟩
  have HB0 : Hid (Below w.heap.size w W0) := by rw [hW0]; exact below_al (Below.refl _ _) _
  have HX : Hid (∀ w', Below W0.heap.size W0 w' → Box5 w' w.heap.size v0 v1 v2 v3 v4) := by
    intro w' h
    rw [hW0] at h
    exact box1_later w v0 v1 v2 v3 v4 _ w' h
  have HV : Hid (∀ w', Below W0.heap.size W0 w' → ItV w' w'.heap.size (.agg #[v0, v1, v2, v3, v4]) x) := fun w' h => (hv.on HB0.out).on h
  have HT : Hid (∀ w', Below W0.heap.size W0 w' → TabW w') := fun w' h => (ht.on HB0.out).on h
  have HFX := Lib.hid (hv.fit x)
  have HW0 := Lib.hid hW0
  have HE := Lib.hid he
  clear hW0 hv ht he
  go_enter Tryd.func3, Tryd.ntmps3
  go_wp2_with fail
  rw [← HW0.out]
  clear HW0
  refine (count_any x 12 _ W0 (by omega) (HV.out W0 (Below.refl _ _))).mono ?_
  rintro e w1 ⟨⟨q1, rfl, hq1, hd1⟩, hb1⟩
  have B1 := Lib.hid hb1
  have HD1 := Lib.hid hd1
  clear hb1 hd1
  by_cases h1 : (3000 : Int) < q1
  · go_wp2_with fail
    refine (cworks_any _ (HT.out _ B1.out)).mono ?_
    rintro e w2 ⟨rfl, hb2⟩
    go_wp2_with fail
    go_ret
    exact ⟨rfl, HB0.out.trans ((below_on B1.out hb2).mono HB0.out.size)⟩
  obtain ⟨hdx, hlx⟩ := HD1.out (by omega)
  have hlx' : x.bytes.length ≤ 27000 := by omega
  obtain ⟨d0, d1, d2, d3, d4⟩ := HX.out _ B1.out
  clear HD1 hlx
  go_wp2_with fail
  refine (refCheck_any x v0 v1 v2 v3 v4 _ (HV.out _ B1.out) (by omega) (by omega)).mono ?_
  rintro e w2 ⟨rfl, hb2⟩
  have B2 := Lib.hid (below_on B1.out hb2)
  clear hb2 d0 d1 d2 d3 d4 B1 h1 hq1
  obtain ⟨d0, d1, d2, d3, d4⟩ := HX.out _ B2.out
  go_wp2_with fail
  refine (encode_any x _ _ (HV.out _ B2.out) (HT.out _ B2.out) (by omega)).mono ?_
  rintro e w3 ⟨hb3, hor⟩
  have B3 := Lib.hid (below_on B2.out hb3)
  clear d0 d1 d2 d3 d4 hb3
  obtain ⟨d0, d1, d2, d3, d4⟩ := HX.out _ B3.out
  have hor' : e = .returned (.tuple #[.slice none 0 0, .int .i64 x.err]) := by
    rcases hor with ⟨_, rfl⟩ | ⟨h0, _⟩
    · rfl
    · exact absurd h0 HE.out
  subst hor'
  have hx0 := err_eq HE.out
  clear hor
  go_wp2_with fail
  refine (check_any x _ _ (HV.out _ B3.out) (HT.out _ B3.out) (by omega)).mono ?_
  rintro e w4 ⟨rfl, hb4⟩
  have B4 := Lib.hid (below_on B3.out hb4)
  clear d0 d1 d2 d3 d4 hb4
  go_wp2_with (go_at_call 12; refine (cnum_any _ _).mono ?_; rintro e w' ⟨rfl, hw⟩; rw [hw]; clear hw)
  refine (cworks_any _ (HT.out _ B4.out)).mono ?_
  rintro e w5 ⟨rfl, hb5⟩
  go_wp2_with fail
  go_ret
  exact ⟨rfl, HB0.out.trans ((below_on B4.out hb5).mono HB0.out.size)⟩

set_option maxRecDepth 100000 in
set_option maxHeartbeats 8000000 in
theorem citems_ok (x : It) (v0 v1 v2 v3 v4 : Value) (w : World) (ht : TabW w) (hv : ItV w w.heap.size (.agg #[v0, v1, v2, v3, v4]) x) (he : x.err = 0) :
    Calls Tryd.prog 3 #[.agg #[v0, v1, v2, v3, v4]] w fun e w' => e = .returned (.bool true) ∧ Below w.heap.size w w' := by
  obtain ⟨W0, hW0⟩ : ∃ W0, W0 = w.alloc (.cells #[v0, v1, v2, v3, v4] 27) := ⟨_, rfl⟩
  have HB0 : Hid (Below w.heap.size w W0) := by rw [hW0]; exact below_al (Below.refl _ _) _
  have HX : Hid (∀ w', Below W0.heap.size W0 w' → Box5 w' w.heap.size v0 v1 v2 v3 v4) := by
    intro w' h
    rw [hW0] at h
    exact box1_later w v0 v1 v2 v3 v4 _ w' h
  have HV : Hid (∀ w', Below W0.heap.size W0 w' → ItV w' w'.heap.size (.agg #[v0, v1, v2, v3, v4]) x) := fun w' h => (hv.on HB0.out).on h
  have HT : Hid (∀ w', Below W0.heap.size W0 w' → TabW w') := fun w' h => (ht.on HB0.out).on h
  have HFX := Lib.hid (hv.fit x)
  have HW0 := Lib.hid hW0
  have HE := Lib.hid he
  clear hW0 hv ht he
  go_enter Tryd.func3, Tryd.ntmps3
  go_wp2_with fail
  rw [← HW0.out]
  clear HW0
  refine (count_any x 12 _ W0 (by omega) (HV.out W0 (Below.refl _ _))).mono ?_
  rintro e w1 ⟨⟨q1, rfl, hq1, hd1⟩, hb1⟩
  have B1 := Lib.hid hb1
  have HD1 := Lib.hid hd1
  clear hb1 hd1
  by_cases h1 : (3000 : Int) < q1
  · go_wp2_with fail
    refine (cworks_any _ (HT.out _ B1.out)).mono ?_
    rintro e w2 ⟨rfl, hb2⟩
    go_wp2_with fail
    go_ret
    exact ⟨rfl, HB0.out.trans ((below_on B1.out hb2).mono HB0.out.size)⟩
  obtain ⟨hdx, hlx⟩ := HD1.out (by omega)
  have hlx' : x.bytes.length ≤ 27000 := by omega
  obtain ⟨d0, d1, d2, d3, d4⟩ := HX.out _ B1.out
  clear HD1 hlx
  go_wp2_with fail
  refine (refCheck_any x v0 v1 v2 v3 v4 _ (HV.out _ B1.out) (by omega) (by omega)).mono ?_
  rintro e w2 ⟨rfl, hb2⟩
  have B2 := Lib.hid (below_on B1.out hb2)
  clear hb2 d0 d1 d2 d3 d4 B1 h1 hq1
  obtain ⟨d0, d1, d2, d3, d4⟩ := HX.out _ B2.out
  go_wp2_with fail
  refine (encode_any x _ _ (HV.out _ B2.out) (HT.out _ B2.out) (by omega)).mono ?_
  rintro e w3 ⟨hb3, hor⟩
  have B3 := Lib.hid (below_on B2.out hb3)
  clear d0 d1 d2 d3 d4 hb3
  obtain ⟨d0, d1, d2, d3, d4⟩ := HX.out _ B3.out
  have HE2 : Hid (x.err = 0) := HE.out
  obtain ⟨ux, hux, hox⟩ : ∃ u, e = .returned (.tuple #[u, .int .i64 0]) ∧ OwnV w3 w2.heap.size 5 u (x.bytes.map encB) := by
    rcases hor with ⟨h0, _⟩ | ⟨_, h⟩
    · exact absurd HE.out h0
    · exact h
  subst hux
  clear hor
  obtain ⟨A3, C3, rfl, hC3, hr3, _⟩ := hox.bytes
  have HR3 : Hid (∀ w', Below w3.heap.size w3 w' → RdB w' w'.heap.size A3 x.bytes) := fun w' h => (hr3.below h).mono h.size
  have hez : ((x.err : Nat) : Int) = 0 := by rw [HE.out]; rfl
  have hri : x.right = true := by
    have h := HE.out
    unfold It.err at h
    split at h
    · assumption
    · omega
  have HDec : Hid (decodeN x.bytes = .ok x) := by
    have h := firstN_of x [] HE.out HFX.out (by simp; omega)
    rw [List.append_nil] at h
    simp only [Hid, decodeN, h, Nat.lt_irrefl, if_false]
  have HBy := Lib.hid (fun w' (hb : Below W0.heap.size W0 w') => refBytes_any x (.agg #[v0, v1, v2, v3, v4]) w' hri (by omega) (HV.out w' hb))
  clear hr3 hox hri
  go_wp2_with fail
  refine (check_any x _ _ (HV.out _ B3.out) (HT.out _ B3.out) (by omega)).mono ?_
  rintro e w4 ⟨rfl, hb4⟩
  have B4 := Lib.hid (below_on B3.out hb4)
  have K4 := Lib.hid hb4
  rw [hez]
  clear d0 d1 d2 d3 d4 hb4
  go_wp2_with (go_at_call 12; refine (cnum_any _ _).mono ?_; rintro e w' ⟨rfl, hw⟩; rw [hw]; clear hw)
  refine (decode_any A3 _ C3 x.bytes rfl _ (HR3.out _ K4.out) hC3 (by omega) (HT.out _ B4.out)).mono ?_
  rintro e w5 ⟨hb5, hm⟩
  rw [HDec.out] at hm
  obtain ⟨vz, rfl, hz⟩ := hm
  have hzv : ItV w5 w5.heap.size vz x := hz.itV (fun b hb => hb.2) x
  obtain ⟨az, cz, Az, Cz, rfl⟩ := hzv.form
  have B5 := Lib.hid (below_on B4.out hb5)
  obtain ⟨W6, hW6⟩ : ∃ W6, W6 = w5.alloc (.cells #[.int .i64 x.k, .int .u64 x.n, .slice az x.b.length cz, .string ⟨x.s.toArray⟩, .slice Az x.l.length Cz] 27) := ⟨_, rfl⟩
  have HB6 : Hid (Below W0.heap.size W0 W6) := by rw [hW6]; exact below_al B5.out _
  have HK6 : Hid (Below w3.heap.size w3 W6) := by rw [hW6]; exact below_al (below_on K4.out hb5) _
  have HZ : Hid (∀ w', Below W6.heap.size W6 w' → Box5 w' w5.heap.size (.int .i64 x.k) (.int .u64 x.n) (.slice az x.b.length cz) (.string ⟨x.s.toArray⟩) (.slice Az x.l.length Cz)) := by
    intro w' h
    rw [hW6] at h
    exact box1_later w5 _ _ _ _ _ _ w' h
  have HZV : Hid (∀ w', Below W6.heap.size W6 w' → ItV w' w'.heap.size (.agg #[.int .i64 x.k, .int .u64 x.n, .slice az x.b.length cz, .string ⟨x.s.toArray⟩, .slice Az x.l.length Cz]) x) := by
    intro w' h
    have h1 : ItV W6 W6.heap.size (.agg #[.int .i64 x.k, .int .u64 x.n, .slice az x.b.length cz, .string ⟨x.s.toArray⟩, .slice Az x.l.length Cz]) x := by rw [hW6]; exact hzv.on (below_al (Below.refl _ _) _)
    exact h1.on h
  have HELD : Hid (∀ w', Below W6.heap.size W6 w' → (((convert 24 9 (.slice A3 x.bytes.length C3)).run Tryd.prog w' = .ok (.string ⟨x.bytes.toArray⟩) w') ∧
      ((w'.cell? ⟨w.heap.size, 0, none⟩ = some v0 ∧ w'.cell? ⟨w.heap.size, 1, none⟩ = some v1 ∧ w'.cell? ⟨w.heap.size, 2, none⟩ = some v2 ∧ w'.cell? ⟨w.heap.size, 3, none⟩ = some v3 ∧ w'.cell? ⟨w.heap.size, 4, none⟩ = some v4) ∧
      (w'.cell? ⟨w5.heap.size, 0, none⟩ = some (.int .i64 x.k) ∧ w'.cell? ⟨w5.heap.size, 1, none⟩ = some (.int .u64 x.n) ∧ w'.cell? ⟨w5.heap.size, 2, none⟩ = some (.slice az x.b.length cz) ∧ w'.cell? ⟨w5.heap.size, 3, none⟩ = some (.string ⟨x.s.toArray⟩) ∧ w'.cell? ⟨w5.heap.size, 4, none⟩ = some (.slice Az x.l.length Cz)))) ∧ Below W6.heap.size W6 w') := fun w' h =>
    ⟨⟨(HR3.out w' (below_on HK6.out h)).text (P := Tryd.prog) 24 9 5 _ C3 rfl Tryd.underlying24 Tryd.underlying5 Tryd.underlying9, HX.out w' (below_on HB6.out h), HZ.out w' h⟩, h⟩
  have F0 : Below W6.heap.size W6 W6.drew := (Below.refl _ _).drew
  have HW6 := Lib.hid hW6
  have HBy6 := Lib.hid (HBy.out W6.drew (below_on HB6.out F0))
  have HS1 := Lib.hid (fun w' (h : Below W6.heap.size W6 w') => refSame_any x x (.agg #[v0, v1, v2, v3, v4]) (.agg #[.int .i64 x.k, .int .u64 x.n, .slice az x.b.length cz, .string ⟨x.s.toArray⟩, .slice Az x.l.length Cz]) w' (HV.out w' (below_on HB6.out h)) (HZV.out w' h))
  have HS2 := Lib.hid (fun w' (h : Below W6.heap.size W6 w') => cSame_any x x (.agg #[v0, v1, v2, v3, v4]) (.agg #[.int .i64 x.k, .int .u64 x.n, .slice az x.b.length cz, .string ⟨x.s.toArray⟩, .slice Az x.l.length Cz]) w' (by omega) (HV.out w' (below_on HB6.out h)) (HZV.out w' h))
  rw [same_self] at HS1 HS2
  have HT6 : Hid (∀ w', Below W6.heap.size W6 w' → TabW w') := fun w' h => HT.out w' (below_on HB6.out h)
  clear hW6 hz hzv hb5
  go_wp2
  rw [← HW6.out]
  go_region_held (fun w' => (((convert 24 9 (.slice A3 x.bytes.length C3)).run Tryd.prog w' = .ok (.string ⟨x.bytes.toArray⟩) w') ∧
      ((w'.cell? ⟨w.heap.size, 0, none⟩ = some v0 ∧ w'.cell? ⟨w.heap.size, 1, none⟩ = some v1 ∧ w'.cell? ⟨w.heap.size, 2, none⟩ = some v2 ∧ w'.cell? ⟨w.heap.size, 3, none⟩ = some v3 ∧ w'.cell? ⟨w.heap.size, 4, none⟩ = some v4) ∧
      (w'.cell? ⟨w5.heap.size, 0, none⟩ = some (.int .i64 x.k) ∧ w'.cell? ⟨w5.heap.size, 1, none⟩ = some (.int .u64 x.n) ∧ w'.cell? ⟨w5.heap.size, 2, none⟩ = some (.slice az x.b.length cz) ∧ w'.cell? ⟨w5.heap.size, 3, none⟩ = some (.string ⟨x.s.toArray⟩) ∧ w'.cell? ⟨w5.heap.size, 4, none⟩ = some (.slice Az x.l.length Cz)))) ∧ Below W6.heap.size W6 w')
    (first | (refine HELD.out _ ?_; with_reducible exact F0) | (refine HELD.out _ ?_; with_reducible exact F1) | (refine HELD.out _ ?_; with_reducible exact F2) | (refine HELD.out _ ?_; with_reducible exact F3) | (refine HELD.out _ ?_; with_reducible exact F4))
    (first
      | (go_at_call 12; refine (cnum_any _ _).mono ?_; rintro e w' ⟨rfl, hw⟩; rw [hw]; clear hw)
      | (go_at_call 15; refine HBy6.out.mono ?_; rintro e W7 ⟨v9, rfl, ho9, h9⟩; obtain ⟨A9, C9, rfl, hC9, hr9, _⟩ := ho9.bytes; have F1 := F0.trans (h9.mono F0.size); have kj := hr9.text (P := Tryd.prog) 24 9 5 _ C9 rfl Tryd.underlying24 Tryd.underlying5 Tryd.underlying9; clear ho9 hr9 h9)
      | (go_at_call 16; refine (HS1.out _ F1).mono ?_; rintro e W8 ⟨rfl, h8⟩; have F2 := F1.trans (h8.mono F1.size); clear h8)
      | (go_at_call 17; refine (HS2.out _ F2).mono ?_; rintro e W9 ⟨rfl, h9b⟩; have F3 := F2.trans (h9b.mono F2.size); clear h9b)
      | (go_at_call 9; refine (cworks_any _ (HT6.out _ F3)).mono ?_; rintro e W10 ⟨rfl, h10⟩; have F4 := F3.trans (h10.mono F3.size); clear h10))
  go_wp2
  go_ret
  exact ⟨rfl, HB0.out.trans ((below_on HB6.out F4).mono HB0.out.size)⟩

theorem walk_citems (x : It) (v : Value) (w : World) (ht : TabW w) (hv : ItV w w.heap.size v x) :
    Calls Tryd.prog 3 #[v] w fun e w' => e = .returned (.bool true) ∧ Below w.heap.size w w' := by
  obtain ⟨xa, xc, xA, xC, rfl⟩ := hv.form
  by_cases he : x.err = 0
  · exact citems_ok x _ _ _ _ _ w ht hv he
  · exact citems_no x _ _ _ _ _ w ht hv he

end Go.Proofs.YtjabmnpafpccgaaDoor
