/- NamePoints, walked. -/
import Derived.Test.YtjbdpkjkeelgfaaDoorNmK3
namespace Go.Proofs.YtjbdpkjkeelgfaaDoor
open Go Go.RowKit Go.Shelf
set_option linter.unusedSimpArgs false
set_option linter.unusedVariables false
set_option maxRecDepth 100000

theorem textR_any (n m : Nat) (h : 0 < n ∨ m = 0) (hn : n ≤ 4294967295) (hm : m ≤ 4294967295) (w : World) (ht : TabN w) :
    Calls Tryd.prog 9 #[.agg #[.int .u32 n, .int .u32 m]] w fun e w' => e = .returned (.tuple #[.string ⟨(txE n m).toArray⟩, .int .i64 0]) ∧ Below w.heap.size w w' := by
  have h5 := text_any n m hn hm w ht
  have e : textN n m = (txE n m, 0) := if_neg (by omega)
  rw [e] at h5
  exact h5

theorem itemR_any (n m : Nat) (h : 0 < n ∨ m = 0) (hn : n ≤ 4294967295) (hm : m ≤ 4294967295) (w : World) :
    Calls Tryd.prog 10 #[.agg #[.int .u32 n, .int .u32 m]] w fun e w' => ∃ a c A C, e = .returned (.tuple #[.agg #[.int .i64 4, .int .u64 0, .slice a 0 c, .string ⟨#[]⟩, .slice A 2 C], .int .i64 0]) ∧ ItS w' (newB w w') (.agg #[.int .i64 4, .int .u64 0, .slice a 0 c, .string ⟨#[]⟩, .slice A 2 C]) (itE n m) ∧ Below w.heap.size w w' := by
  have hex : ∃ y0 y1, itE n m = itLs [y0, y1] := by
    unfold itE
    split
    · exact ⟨_, _, rfl⟩
    · exact ⟨_, _, rfl⟩
  obtain ⟨y0, y1, hy⟩ := hex
  have hc : Calls Tryd.prog 10 #[.agg #[.int .u32 n, .int .u32 m]] w fun e w' => (∃ v, e = .returned (.tuple #[v, .int .i64 0]) ∧ ItS w' (newB w w') v (itE n m)) ∧ Below w.heap.size w w' := by
    by_cases h0 : 0 < n
    · exact item_yes n m h0 hn hm w
    · obtain rfl : n = 0 := by omega
      obtain rfl : m = 0 := by omega
      exact item_nobody w
  refine hc.mono ?_
  rintro e w' ⟨⟨v, rfl, hv⟩, hb⟩
  obtain ⟨a, c, A, C, e1⟩ := hv.form
  rw [hy] at e1
  have e2 : v = .agg #[.int .i64 4, .int .u64 0, .slice a 0 c, .string ⟨#[]⟩, .slice A 2 C] := e1
  subst e2
  exact ⟨a, c, A, C, rfl, hv, hb⟩

theorem refItemR_any (n m : Nat) (h : 0 < n ∨ m = 0) (hn : n ≤ 4294967295) (hm : m ≤ 4294967295) (w : World) :
    Calls Tryd.prog 19 #[.agg #[.int .u32 n, .int .u32 m]] w fun e w' => ∃ a c A C, e = .returned (.agg #[.int .i64 4, .int .u64 0, .slice a 0 c, .string ⟨#[]⟩, .slice A 2 C]) ∧ ItV w' w'.heap.size (.agg #[.int .i64 4, .int .u64 0, .slice a 0 c, .string ⟨#[]⟩, .slice A 2 C]) (itE n m) ∧ Below w.heap.size w w' := by
  have hex : ∃ y0 y1, itE n m = itLs [y0, y1] := by
    unfold itE
    split
    · exact ⟨_, _, rfl⟩
    · exact ⟨_, _, rfl⟩
  obtain ⟨y0, y1, hy⟩ := hex
  refine (refItem_any n m h hn hm w).mono ?_
  rintro e w' ⟨⟨v, rfl, hv⟩, hb⟩
  obtain ⟨a, c, A, C, e1⟩ := hv.form
  rw [hy] at e1
  have e2 : v = .agg #[.int .i64 4, .int .u64 0, .slice a 0 c, .string ⟨#[]⟩, .slice A 2 C] := e1
  subst e2
  exact ⟨a, c, A, C, rfl, hv.new_itV, hb⟩

theorem txE_len3 (n m : Nat) (hn : n ≤ 4294967295) (hm : m ≤ 4294967295) : (txE n m).length ≤ 60 := by
  have ef : forever = 4611686018427387903 := rfl
  have h1 := dd_len 18 n (by omega)
  have h2 := dd_len 18 m (by omega)
  unfold txE
  split
  · decide
  · have e : wIpn.length = 3 := rfl
    simp only [List.length_append, List.length_cons]
    omega

theorem rdE_txE (n m : Nat) (h : 0 < n ∨ m = 0) (hn : n ≤ 4294967295) (hm : m ≤ 4294967295) : rdE (txE n m) = .ok (n, m) := by
  have hl := txE_len3 n m hn hm
  rw [rdE, if_neg (by omega), epN_iff.2 ⟨rfl, h, hn, hm⟩]

theorem parseR_any (n m : Nat) (h : 0 < n ∨ m = 0) (hn : n ≤ 4294967295) (hm : m ≤ 4294967295) (w : World) (ht : TabN w) :
    Calls Tryd.prog 16 #[.string ⟨(txE n m).toArray⟩] w fun e w' => e = .returned (.tuple #[.agg #[.int .u32 n, .int .u32 m], .int .i64 0]) ∧ Below w.heap.size w w' := by
  refine (parseE_any (txE n m) (by have := txE_len3 n m hn hm; omega) w ht).mono ?_
  rintro e w' ⟨hb, hr⟩
  rw [rdE_txE n m h hn hm] at hr
  exact ⟨hr, hb⟩

theorem ofR_any (n m : Nat) (h : 0 < n ∨ m = 0) (hn : n ≤ 4294967295) (hm : m ≤ 4294967295) (v : Value) (w : World) (hv : ItV w w.heap.size v (itE n m)) :
    Calls Tryd.prog 17 #[v] w fun e w' => e = .returned (.tuple #[.agg #[.int .u32 n, .int .u32 m], .int .i64 0]) ∧ Below w.heap.size w w' := by
  refine (of_any (itE n m) v w (by have := depth_itE n m; omega) hv).mono ?_
  rintro e w' ⟨hb, hr⟩
  rw [rdI, epI_itE n m h hn hm] at hr
  exact ⟨hr, hb⟩

set_option maxHeartbeats 8000000 in
theorem walk_namePoints (n m : Nat) (hn : n ≤ 4294967295) (hm : m ≤ 4294967295) (w : World) (ht : TabN w) :
    Calls Tryd.prog 3 #[.agg #[.int .u32 n, .int .u32 m]] w fun e w' => e = .returned (.bool true) ∧ Below w.heap.size w w' := by
  have HT : Hid (∀ w', Below w.heap.size w w' → TabN w') := fun w' h => ht.on h
  obtain ⟨W0, hW0⟩ : ∃ W, W = w.alloc (.cells #[.int .u32 n, .int .u32 m] 24) := ⟨_, rfl⟩
  have HB0 : Hid (Below w.heap.size w W0) := by rw [hW0]; exact below_al (Below.refl _ _) _
  have HX : Hid (∀ w', Below W0.heap.size W0 w' → w'.cell? ⟨w.heap.size, 0, none⟩ = some (.int .u32 n) ∧ w'.cell? ⟨w.heap.size, 1, none⟩ = some (.int .u32 m)) := by
    rw [hW0]
    exact fun w' h => box2_all h
  have HW0 := Lib.hid hW0
  clear hW0 ht
  obtain ⟨x0, x1⟩ := HX.out W0 (Below.refl _ _)
  by_cases hr : 0 < n ∨ m = 0
  · have HTX := Lib.hid (textR_any n m hr hn hm)
    have HIT := Lib.hid (itemR_any n m hr hn hm)
    have HCK : Hid (∀ w, Calls Tryd.prog 11 #[.agg #[.int .u32 n, .int .u32 m]] w fun e w' => e = .returned (.int .i64 0) ∧ Below w.heap.size w w') := fun w => check_ok (n : Int) m (by omega) w
    have HRI := Lib.hid (refRight_any n m)
    rw [decide_eq_true hr] at HRI
    have HPA := Lib.hid (parseR_any n m hr hn hm)
    have HOF := Lib.hid (ofR_any n m hr hn hm)
    have HRT := Lib.hid (refText_any n m hr hn hm)
    have HRIt := Lib.hid (refItemR_any n m hr hn hm)
    obtain ⟨s, hs⟩ : ∃ s, s = (txE n m).toArray := ⟨_, rfl⟩
    rw [← hs] at HTX HPA HRT
    clear hs hr
    go_enter Tryd.func3, Tryd.ntmps3
    go_wp2_with fail
    rw [← HW0.out]
    refine (HTX.out _ (HT.out _ HB0.out)).mono ?_
    rintro e w1 ⟨rfl, hb⟩
    have HB1 := Lib.hid hb
    clear hb x0 x1
    obtain ⟨x0, x1⟩ := HX.out w1 HB1.out
    go_wp2_with fail
    refine (HIT.out _).mono ?_
    rintro e w2 ⟨a, c, A, C, rfl, hv, hb⟩
    obtain ⟨W2, hW2⟩ : ∃ W, W = w2.alloc (.cells #[.int .i64 4, .int .u64 0, .slice a 0 c, .string ⟨#[]⟩, .slice A 2 C] 33) := ⟨_, rfl⟩
    have HB2 : Hid (Below W0.heap.size W0 W2) := by rw [hW2]; exact below_al (below_on HB1.out hb) _
    have HV2 : Hid (∀ w', Below W2.heap.size W2 w' → ItV w' w'.heap.size (.agg #[.int .i64 4, .int .u64 0, .slice a 0 c, .string ⟨#[]⟩, .slice A 2 C]) (itE n m)) := fun w' h => by
      have h0 : ItV W2 W2.heap.size (.agg #[.int .i64 4, .int .u64 0, .slice a 0 c, .string ⟨#[]⟩, .slice A 2 C]) (itE n m) := by rw [hW2]; exact hv.new_itV.on (below_al (Below.refl _ _) _)
      exact h0.on h
    have HI2 : Hid (∀ w', Below W2.heap.size W2 w' → w'.cell? ⟨w2.heap.size, 0, none⟩ = some (.int .i64 4) ∧ w'.cell? ⟨w2.heap.size, 1, none⟩ = some (.int .u64 0) ∧ w'.cell? ⟨w2.heap.size, 2, none⟩ = some (.slice a 0 c) ∧ w'.cell? ⟨w2.heap.size, 3, none⟩ = some (.string ⟨#[]⟩) ∧ w'.cell? ⟨w2.heap.size, 4, none⟩ = some (.slice A 2 C)) := fun w' h => by
      have hh := fun i => (h.cell (p := ⟨w2.heap.size, i, none⟩) (by rw [hW2]; simp)).trans (by rw [hW2, World.cell?_alloc_mark] : W2.cell? ⟨w2.heap.size, i, none⟩ = (#[.int .i64 4, .int .u64 0, .slice a 0 c, .string ⟨#[]⟩, .slice A 2 C])[i]?)
      exact ⟨hh 0, hh 1, hh 2, hh 3, hh 4⟩
    have HW2 := Lib.hid hW2
    obtain ⟨x0', x1'⟩ := HX.out W2 HB2.out
    rw [hW2] at x0' x1'
    clear hW2 hv hb x0 x1
    go_wp2_with fail
    rw [← HW2.out]
    refine (HCK.out _).mono ?_
    rintro e w3 ⟨rfl, hb⟩
    have D3 := Lib.hid hb
    clear hb x0' x1'
    obtain ⟨x0, x1⟩ := HX.out w3 (below_on HB2.out D3.out)
    go_wp2_with fail
    refine (HRI.out _).mono ?_
    rintro e w4 ⟨rfl, hb⟩
    have D4 := Lib.hid (below_on D3.out hb)
    clear hb x0 x1
    go_wp2_with fail
    refine (HPA.out _ (HT.out _ (HB0.out.trans ((below_on HB2.out D4.out).mono HB0.out.size)))).mono ?_
    rintro e w5 ⟨rfl, hb⟩
    obtain ⟨W5, hW5⟩ : ∃ W, W = w5.alloc (.cells #[.int .u32 n, .int .u32 m] 24) := ⟨_, rfl⟩
    have D5 : Hid (Below W2.heap.size W2 W5) := by rw [hW5]; exact below_al (below_on D4.out hb) _
    have HY5 : Hid (∀ w', Below W5.heap.size W5 w' → w'.cell? ⟨w5.heap.size, 0, none⟩ = some (.int .u32 n) ∧ w'.cell? ⟨w5.heap.size, 1, none⟩ = some (.int .u32 m)) := by
      rw [hW5]
      exact fun w' h => box2_all h
    obtain ⟨i0, i1, i2, i3, i4⟩ := HI2.out W5 D5.out
    have HW5 := Lib.hid hW5
    rw [hW5] at i0 i1 i2 i3 i4
    clear hb hW5
    go_wp2_with fail
    rw [← HW5.out]
    refine (HOF.out _ _ (HV2.out _ D5.out)).mono ?_
    rintro e w6 ⟨rfl, hb⟩
    obtain ⟨W6, hW6⟩ : ∃ W, W = w6.alloc (.cells #[.int .u32 n, .int .u32 m] 24) := ⟨_, rfl⟩
    have D56 : Hid (Below W5.heap.size W5 W6) := by rw [hW6]; exact below_al hb _
    have HY6 : Hid (∀ w', Below W6.heap.size W6 w' → w'.cell? ⟨w6.heap.size, 0, none⟩ = some (.int .u32 n) ∧ w'.cell? ⟨w6.heap.size, 1, none⟩ = some (.int .u32 m)) := by
      rw [hW6]
      exact fun w' h => box2_all h
    have HW6 := Lib.hid hW6
    have D6 : Hid (Below W2.heap.size W2 W6) := below_on D5.out D56.out
    clear hb hW6 i0 i1 i2 i3 i4
    go_wp2_with fail
    rw [← HW6.out]
    have HELD : Hid (∀ w', Below W6.heap.size W6 w' → (w'.cell? ⟨w.heap.size, 0, none⟩ = some (.int .u32 n) ∧ w'.cell? ⟨w.heap.size, 1, none⟩ = some (.int .u32 m)) ∧ (w'.cell? ⟨w2.heap.size, 0, none⟩ = some (.int .i64 4) ∧ w'.cell? ⟨w2.heap.size, 1, none⟩ = some (.int .u64 0) ∧ w'.cell? ⟨w2.heap.size, 2, none⟩ = some (.slice a 0 c) ∧ w'.cell? ⟨w2.heap.size, 3, none⟩ = some (.string ⟨#[]⟩) ∧ w'.cell? ⟨w2.heap.size, 4, none⟩ = some (.slice A 2 C)) ∧ (w'.cell? ⟨w5.heap.size, 0, none⟩ = some (.int .u32 n) ∧ w'.cell? ⟨w5.heap.size, 1, none⟩ = some (.int .u32 m)) ∧ (w'.cell? ⟨w6.heap.size, 0, none⟩ = some (.int .u32 n) ∧ w'.cell? ⟨w6.heap.size, 1, none⟩ = some (.int .u32 m))) := fun w' h =>
      ⟨HX.out w' (below_on HB2.out (below_on D6.out h)), HI2.out w' (below_on D6.out h), HY5.out w' (below_on D56.out h), HY6.out w' h⟩
    have HSM : Hid (∀ w' w'' v, Below W6.heap.size W6 w' → Below w'.heap.size w' w'' → ItV w'' w''.heap.size v (itE n m) → Calls Tryd.prog 13 #[.agg #[.int .i64 4, .int .u64 0, .slice a 0 c, .string ⟨#[]⟩, .slice A 2 C], v] w'' fun e w3 => e = .returned (.bool true) ∧ Below w''.heap.size w'' w3) := fun w' w'' v h1 h2 hv => by
      have h3 := refSame_any (itE n m) (itE n m) _ v w'' (HV2.out w'' (below_on D6.out (below_on h1 h2))) hv
      rw [same_self] at h3
      exact h3
    have F0 : Below W6.heap.size W6 W6.drew := (Below.refl _ _).drew
    go_region_held3 (fun w' => (w'.cell? ⟨w.heap.size, 0, none⟩ = some (.int .u32 n) ∧ w'.cell? ⟨w.heap.size, 1, none⟩ = some (.int .u32 m)) ∧ (w'.cell? ⟨w2.heap.size, 0, none⟩ = some (.int .i64 4) ∧ w'.cell? ⟨w2.heap.size, 1, none⟩ = some (.int .u64 0) ∧ w'.cell? ⟨w2.heap.size, 2, none⟩ = some (.slice a 0 c) ∧ w'.cell? ⟨w2.heap.size, 3, none⟩ = some (.string ⟨#[]⟩) ∧ w'.cell? ⟨w2.heap.size, 4, none⟩ = some (.slice A 2 C)) ∧ (w'.cell? ⟨w5.heap.size, 0, none⟩ = some (.int .u32 n) ∧ w'.cell? ⟨w5.heap.size, 1, none⟩ = some (.int .u32 m)) ∧ (w'.cell? ⟨w6.heap.size, 0, none⟩ = some (.int .u32 n) ∧ w'.cell? ⟨w6.heap.size, 1, none⟩ = some (.int .u32 m)))
      (first | (refine HELD.out _ ?_; with_reducible exact F4) | (refine HELD.out _ ?_; with_reducible exact F3) | (refine HELD.out _ ?_; with_reducible exact F2) | (refine HELD.out _ ?_; with_reducible exact F1) | (refine HELD.out _ ?_; with_reducible exact F0))
      (first
        | (go_at_call 14; refine (nmNum_any _ _).mono ?_; rintro e w' ⟨rfl, rfl⟩)
        | (go_at_call 18; (with_reducible refine (HRT.out _).mono ?_); rintro e w7 ⟨rfl, hb7⟩; have F1 : Below W6.heap.size W6 w7 := below_on F0 hb7)
        | (go_at_call 19; (with_reducible refine (HRIt.out _).mono ?_); rintro e w8 ⟨a8, c8, A8, C8, rfl, hv8, hb8⟩; have F2 : Below W6.heap.size W6 w8 := below_on F1 hb8; have HV8 := Lib.hid hv8; clear hv8)
        | (go_at_call 13; (with_reducible refine (HSM.out _ _ _ F2 (Below.refl _ _) HV8.out).mono ?_); rintro e w9 ⟨rfl, hb9⟩; have F3 : Below W6.heap.size W6 w9 := below_on F2 hb9)
        | (go_at_call 15; (with_reducible refine (nmWorks_any _ (HT.out _ (HB0.out.trans ((below_on HB2.out (below_on D6.out F3)).mono HB0.out.size)))).mono ?_); rintro e w10 ⟨rfl, hb10⟩; have F4 : Below W6.heap.size W6 w10 := below_on F3 hb10))
    rename_i hHeld
    have HF4 := Lib.hid F4
    clear hHeld F0 F1 F2 F3 F4
    go_wp2
    go_ret
    exact ⟨rfl, HB0.out.trans ((below_on HB2.out (below_on D6.out HF4.out)).mono HB0.out.size)⟩
  · have h0 : n = 0 := by omega
    have h1 : 0 < m := by omega
    subst h0
    have e0 : ((0 : Nat) : Int) = 0 := rfl
    rw [e0] at HW0 HX x0 ⊢
    clear e0
    have HTX := Lib.hid (fun w => text_no (m : Int) (by omega) w)
    have HIT := Lib.hid (fun w => item_no (m : Int) (by omega) w)
    have HCK := Lib.hid (fun w => check_no (m : Int) (by omega) w)
    have HRI := Lib.hid (refRight_any 0 m)
    rw [decide_eq_false hr] at HRI
    clear hr h1 hn hm
    go_enter Tryd.func3, Tryd.ntmps3
    go_wp2_with fail
    rw [← HW0.out]
    refine (HTX.out _).mono ?_
    rintro e w1 ⟨rfl, hb⟩
    have HB1 := Lib.hid hb
    clear hb x0 x1
    obtain ⟨x0, x1⟩ := HX.out w1 HB1.out
    go_wp2_with fail
    refine (HIT.out _).mono ?_
    rintro e w2 ⟨rfl, hb⟩
    unfold noneV
    obtain ⟨W2, hW2⟩ : ∃ W, W = w2.alloc (.cells #[.int .i64 0, .int .u64 0, .slice none 0 0, .string ⟨#[]⟩, .slice none 0 0] 33) := ⟨_, rfl⟩
    have HB2 : Hid (Below W0.heap.size W0 W2) := by rw [hW2]; exact below_al (below_on HB1.out hb) _
    have HI2 : Hid (∀ w', Below W2.heap.size W2 w' → w'.cell? ⟨w2.heap.size, 0, none⟩ = some (.int .i64 0) ∧ w'.cell? ⟨w2.heap.size, 1, none⟩ = some (.int .u64 0) ∧ w'.cell? ⟨w2.heap.size, 2, none⟩ = some (.slice none 0 0) ∧ w'.cell? ⟨w2.heap.size, 3, none⟩ = some (.string ⟨#[]⟩) ∧ w'.cell? ⟨w2.heap.size, 4, none⟩ = some (.slice none 0 0)) := fun w' h => by
      have hh := fun i => (h.cell (p := ⟨w2.heap.size, i, none⟩) (by rw [hW2]; simp)).trans (by rw [hW2, World.cell?_alloc_mark] : W2.cell? ⟨w2.heap.size, i, none⟩ = (#[.int .i64 0, .int .u64 0, .slice none 0 0, .string ⟨#[]⟩, .slice none 0 0])[i]?)
      exact ⟨hh 0, hh 1, hh 2, hh 3, hh 4⟩
    have HW2 := Lib.hid hW2
    obtain ⟨x0', x1'⟩ := HX.out W2 HB2.out
    rw [hW2] at x0' x1'
    clear hW2 hb x0 x1
    go_wp2_with fail
    rw [← HW2.out]
    refine (HCK.out _).mono ?_
    rintro e w3 ⟨rfl, hb⟩
    have D3 := Lib.hid hb
    clear hb x0' x1'
    obtain ⟨x0, x1⟩ := HX.out w3 (below_on HB2.out D3.out)
    go_wp2_with fail
    refine (HRI.out _).mono ?_
    rintro e w4 ⟨rfl, hb⟩
    have D4 := Lib.hid (below_on D3.out hb)
    clear hb x0 x1
    obtain ⟨i0, i1, i2, i3, i4⟩ := HI2.out w4 D4.out
    have HNO : Hid (∀ w, ItV w w.heap.size (.agg #[.int .i64 0, .int .u64 0, .slice none 0 0, .string ⟨#[]⟩, .slice none 0 0]) (.mk 0 0 [] [] [])) := fun w => ItS.itV (S := fun _ => False) (fun _ q => q.elim) _ (itS_plain _ _ 0 0 [] (by decide) ⟨by decide, by decide⟩ (Nat.zero_le _))
    have HSM : Hid (∀ w, Calls Tryd.prog 13 #[.agg #[.int .i64 0, .int .u64 0, .slice none 0 0, .string ⟨#[]⟩, .slice none 0 0], .agg #[.int .i64 0, .int .u64 0, .slice none 0 0, .string ⟨#[]⟩, .slice none 0 0]] w fun e w3 => e = .returned (.bool true) ∧ Below w.heap.size w w3) := fun w => by
      have h3 := refSame_any (.mk 0 0 [] [] []) (.mk 0 0 [] [] []) _ _ w (HNO.out w) (HNO.out w)
      rw [same_self] at h3
      exact h3
    go_wp2_with fail
    refine (HSM.out _).mono ?_
    rintro e w5 ⟨rfl, hb⟩
    have D5 := Lib.hid (below_on D4.out hb)
    clear hb i0 i1 i2 i3 i4
    go_wp2_with (go_at_call 14; refine (nmNum_any _ _).mono ?_; rintro e w' ⟨rfl, rfl⟩)
    refine (nmWorks_any _ (HT.out _ (HB0.out.trans ((below_on HB2.out D5.out).mono HB0.out.size)))).mono ?_
    rintro e w6 ⟨rfl, hb⟩
    have D6 := Lib.hid (below_on D5.out hb)
    clear hb
    go_wp2
    go_ret
    exact ⟨rfl, HB0.out.trans ((below_on HB2.out D6.out).mono HB0.out.size)⟩

end Go.Proofs.YtjbdpkjkeelgfaaDoor
