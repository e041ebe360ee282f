/- NameNames, walked. -/
import Derived.Test.YtjbdpkjkeelgfaaDoorNmRn
import Derived.Test.YtjbdpkjkeelgfaaDoorNmK5
namespace Go.Proofs.YtjbdpkjkeelgfaaDoor
open Go Go.RowKit Go.Shelf
set_option linter.unusedSimpArgs false
set_option linter.unusedVariables false
set_option maxRecDepth 100000

theorem nitemR_any (a : NmT) (h : a.ok) (hm : a.may = true) (w : World) :
    Calls Tryd.prog 21 #[.agg #[.int .u32 a.n, .int .u32 a.m, .int .u64 a.t, .int .u32 a.q]] w fun e w' => ∃ a1 c A C, e = .returned (.tuple #[.agg #[.int .i64 4, .int .u64 0, .slice a1 0 c, .string ⟨#[]⟩, .slice A 3 C], .int .i64 0]) ∧ ItS w' (newB w w') (.agg #[.int .i64 4, .int .u64 0, .slice a1 0 c, .string ⟨#[]⟩, .slice A 3 C]) (itN a.n a.m a.t a.q) ∧ Below w.heap.size w w' := by
  obtain ⟨h0, h1⟩ := NmT.may_iff.1 hm
  refine (nitem_yes _ _ _ _ h0 h.1.1 h.1.2 h1 h.2.2 w).mono ?_
  rintro e w' ⟨⟨v, rfl, hv⟩, hb⟩
  obtain ⟨a1, c, A, C, e1⟩ := hv.form
  have e2 : v = .agg #[.int .i64 4, .int .u64 0, .slice a1 0 c, .string ⟨#[]⟩, .slice A 3 C] := e1
  subst e2
  exact ⟨a1, c, A, C, rfl, hv, hb⟩

theorem rdN_txN (a : NmT) (h : a.ok) (hm : a.may = true) : rdN (txN a.n a.m a.t a.q) = .ok (a.n, a.m, a.t, a.q) ∧ (txN a.n a.m a.t a.q).length ≤ 100 := by
  obtain ⟨h0, h1⟩ := NmT.may_iff.1 hm
  have ef : forever = 4611686018427387903 := rfl
  have hl := txE_len3 a.n a.m h.1.1 h.1.2
  have l1 := dd_len 18 a.t (by omega)
  have l2 := dd_len 18 a.q (by have := h.2.2; omega)
  have hlen : (txN a.n a.m a.t a.q).length ≤ 100 := by
    unfold txN
    simp only [List.length_append, List.length_cons]
    omega
  refine ⟨?_, hlen⟩
  rw [rdN, if_neg (by omega), nmN_iff.2 ⟨rfl, h0, h.1.1, h.1.2, h1, h.2.2⟩]

theorem parseNR_any (a : NmT) (h : a.ok) (hm : a.may = true) (w : World) (ht : TabN w) :
    Calls Tryd.prog 24 #[.string ⟨(txN a.n a.m a.t a.q).toArray⟩] w fun e w' => e = .returned (.tuple #[.agg #[.int .u32 a.n, .int .u32 a.m, .int .u64 a.t, .int .u32 a.q], .int .i64 0]) ∧ Below w.heap.size w w' := by
  obtain ⟨h1, h2⟩ := rdN_txN a h hm
  refine (parseN_any _ (by omega) w ht).mono ?_
  rintro e w' ⟨hb, hr⟩
  rw [h1] at hr
  exact ⟨hr, hb⟩

theorem nofR_any (a : NmT) (h : a.ok) (hm : a.may = true) (v : Value) (w : World) (hv : ItV w w.heap.size v (itN a.n a.m a.t a.q)) :
    Calls Tryd.prog 25 #[v] w fun e w' => e = .returned (.tuple #[.agg #[.int .u32 a.n, .int .u32 a.m, .int .u64 a.t, .int .u32 a.q], .int .i64 0]) ∧ Below w.heap.size w w' := by
  obtain ⟨h0, h1⟩ := NmT.may_iff.1 hm
  refine (nof_any _ v w (by have := depth_itN a.n a.m a.t a.q; omega) hv).mono ?_
  rintro e w' ⟨hb, hr⟩
  rw [rdNI, nmI_itN a.n a.m a.t a.q h0 h.1.1 h.1.2 h1 h.2.2] at hr
  exact ⟨hr, hb⟩

attribute [local go_sem high] eqName_run

set_option maxHeartbeats 8000000 in
theorem walk_nameNames (a : NmT) (ha : a.ok) (w : World) (ht : TabN w) :
    Calls Tryd.prog 4 #[.agg #[.int .u32 a.n, .int .u32 a.m, .int .u64 a.t, .int .u32 a.q]] w fun e w' => e = .returned (.bool true) ∧ Below w.heap.size w w' := by
  have HT : Hid (∀ w', Below w.heap.size w w' → TabN w') := fun w' h => ht.on h
  obtain ⟨W0, hW0⟩ : ∃ W, W = w.alloc (.cells #[.int .u32 a.n, .int .u32 a.m, .int .u64 a.t, .int .u32 a.q] 47) := ⟨_, rfl⟩
  have HB0 : Hid (Below w.heap.size w W0) := by rw [hW0]; exact below_al (Below.refl _ _) _
  have HX : Hid (∀ w', Below W0.heap.size W0 w' → w'.cell? ⟨w.heap.size, 0, none⟩ = some (.int .u32 a.n) ∧ w'.cell? ⟨w.heap.size, 1, none⟩ = some (.int .u32 a.m) ∧ w'.cell? ⟨w.heap.size, 2, none⟩ = some (.int .u64 a.t) ∧ w'.cell? ⟨w.heap.size, 3, none⟩ = some (.int .u32 a.q)) := by
    rw [hW0]
    exact fun w' h => box4_all h
  have HW0 := Lib.hid hW0
  have hsame : a.same a = true := NmT.same_iff.2 rfl
  clear hW0 ht
  obtain ⟨x0, x1, x2, x3⟩ := HX.out W0 (Below.refl _ _)
  have ef : forever = 4611686018427387903 := rfl
  by_cases hr : a.may = true
  · obtain ⟨h0, h1⟩ := NmT.may_iff.1 hr
    have HTX : Hid (∀ w, TabN w → Calls Tryd.prog 20 #[.agg #[.int .u32 a.n, .int .u32 a.m, .int .u64 a.t, .int .u32 a.q]] w fun e w' => e = .returned (.tuple #[.string ⟨(txN a.n a.m a.t a.q).toArray⟩, .int .i64 0]) ∧ Below w.heap.size w w') := fun w ht => ntext_yes a.n a.m a.t a.q h0 ha.1.1 ha.1.2 h1 ha.2.2 w ht
    have HIT := Lib.hid (nitemR_any a ha hr)
    have HCK : Hid (∀ w, Calls Tryd.prog 22 #[.agg #[.int .u32 a.n, .int .u32 a.m, .int .u64 a.t, .int .u32 a.q]] w fun e w' => e = .returned (.int .i64 0) ∧ Below w.heap.size w w') := fun w => cname_ok _ _ _ _ (by omega) (by omega) w
    have HRI := Lib.hid (refRightName_any a)
    rw [hr] at HRI
    have HPA := Lib.hid (parseNR_any a ha hr)
    have HOF := Lib.hid (nofR_any a ha hr)
    have HRT := Lib.hid (refNText_any a ha hr)
    have HRIt : Hid (∀ w, Calls Tryd.prog 27 #[.agg #[.int .u32 a.n, .int .u32 a.m, .int .u64 a.t, .int .u32 a.q]] w fun e w' => ∃ a1 c A C, e = .returned (.agg #[.int .i64 4, .int .u64 0, .slice a1 0 c, .string ⟨#[]⟩, .slice A 3 C]) ∧ ItV w' w'.heap.size (.agg #[.int .i64 4, .int .u64 0, .slice a1 0 c, .string ⟨#[]⟩, .slice A 3 C]) (itN a.n a.m a.t a.q) ∧ Below w.heap.size w w') := fun w =>
      (refNItem_any a.n a.m a.t a.q h0 ha.1.1 ha.1.2 ha.2.1 ha.2.2 w).mono fun e w' ⟨a1, c, A, C, h1, h2, h3⟩ => ⟨a1, c, A, C, h1, h2.new_itV, h3⟩
    obtain ⟨s, hs⟩ : ∃ s, s = (txN a.n a.m a.t a.q).toArray := ⟨_, rfl⟩
    rw [← hs] at HTX HPA HRT
    clear hs hr h0 h1 ha
    go_enter Tryd.func4, Tryd.ntmps4
    go_wp2_with fail
    rw [← HW0.out]
    refine (HTX.out _ (HT.out _ HB0.out)).mono ?_
    rintro e w1 ⟨rfl, hb⟩
    have HB1 := Lib.hid hb
    clear hb x0 x1 x2 x3
    obtain ⟨x0, x1, x2, x3⟩ := HX.out w1 HB1.out
    go_wp2_with fail
    refine (HIT.out _).mono ?_
    rintro e w2 ⟨a1, c, A, C, rfl, hv, hb⟩
    obtain ⟨W2, hW2⟩ : ∃ W, W = w2.alloc (.cells #[.int .i64 4, .int .u64 0, .slice a1 0 c, .string ⟨#[]⟩, .slice A 3 C] 33) := ⟨_, rfl⟩
    have HB2 : Hid (Below W0.heap.size W0 W2) := by rw [hW2]; exact below_al (below_on HB1.out hb) _
    have HV2 : Hid (∀ w', Below W2.heap.size W2 w' → ItV w' w'.heap.size (.agg #[.int .i64 4, .int .u64 0, .slice a1 0 c, .string ⟨#[]⟩, .slice A 3 C]) (itN a.n a.m a.t a.q)) := fun w' h => by
      have h0 : ItV W2 W2.heap.size (.agg #[.int .i64 4, .int .u64 0, .slice a1 0 c, .string ⟨#[]⟩, .slice A 3 C]) (itN a.n a.m a.t a.q) := by rw [hW2]; exact hv.new_itV.on (below_al (Below.refl _ _) _)
      exact h0.on h
    have HI2 : Hid (∀ w', Below W2.heap.size W2 w' → w'.cell? ⟨w2.heap.size, 0, none⟩ = some (.int .i64 4) ∧ w'.cell? ⟨w2.heap.size, 1, none⟩ = some (.int .u64 0) ∧ w'.cell? ⟨w2.heap.size, 2, none⟩ = some (.slice a1 0 c) ∧ w'.cell? ⟨w2.heap.size, 3, none⟩ = some (.string ⟨#[]⟩) ∧ w'.cell? ⟨w2.heap.size, 4, none⟩ = some (.slice A 3 C)) := fun w' h => by
      have hh := fun i => (h.cell (p := ⟨w2.heap.size, i, none⟩) (by rw [hW2]; simp)).trans (by rw [hW2, World.cell?_alloc_mark] : W2.cell? ⟨w2.heap.size, i, none⟩ = (#[.int .i64 4, .int .u64 0, .slice a1 0 c, .string ⟨#[]⟩, .slice A 3 C])[i]?)
      exact ⟨hh 0, hh 1, hh 2, hh 3, hh 4⟩
    have HW2 := Lib.hid hW2
    obtain ⟨x0', x1', x2', x3'⟩ := HX.out W2 HB2.out
    rw [hW2] at x0' x1' x2' x3'
    clear hW2 hv hb x0 x1 x2 x3
    go_wp2_with fail
    rw [← HW2.out]
    refine (HCK.out _).mono ?_
    rintro e w3 ⟨rfl, hb⟩
    have D3 := Lib.hid hb
    clear hb x0' x1' x2' x3'
    obtain ⟨x0, x1, x2, x3⟩ := HX.out w3 (below_on HB2.out D3.out)
    go_wp2_with fail
    refine (HRI.out _).mono ?_
    rintro e w4 ⟨rfl, hb⟩
    have D4 := Lib.hid (below_on D3.out hb)
    clear hb x0 x1 x2 x3
    go_wp2_with fail
    refine (HPA.out _ (HT.out _ (HB0.out.trans ((below_on HB2.out D4.out).mono HB0.out.size)))).mono ?_
    rintro e w5 ⟨rfl, hb⟩
    obtain ⟨W5, hW5⟩ : ∃ W, W = w5.alloc (.cells #[.int .u32 a.n, .int .u32 a.m, .int .u64 a.t, .int .u32 a.q] 47) := ⟨_, rfl⟩
    have D5 : Hid (Below W2.heap.size W2 W5) := by rw [hW5]; exact below_al (below_on D4.out hb) _
    have HY5 : Hid (∀ w', Below W5.heap.size W5 w' → w'.cell? ⟨w5.heap.size, 0, none⟩ = some (.int .u32 a.n) ∧ w'.cell? ⟨w5.heap.size, 1, none⟩ = some (.int .u32 a.m) ∧ w'.cell? ⟨w5.heap.size, 2, none⟩ = some (.int .u64 a.t) ∧ w'.cell? ⟨w5.heap.size, 3, none⟩ = some (.int .u32 a.q)) := by
      rw [hW5]
      exact fun w' h => box4_all h
    obtain ⟨i0, i1, i2, i3, i4⟩ := HI2.out W5 D5.out
    have HW5 := Lib.hid hW5
    rw [hW5] at i0 i1 i2 i3 i4
    clear hb hW5
    go_wp2_with fail
    rw [← HW5.out]
    refine (HOF.out _ _ (HV2.out _ D5.out)).mono ?_
    rintro e w6 ⟨rfl, hb⟩
    obtain ⟨W6, hW6⟩ : ∃ W, W = w6.alloc (.cells #[.int .u32 a.n, .int .u32 a.m, .int .u64 a.t, .int .u32 a.q] 47) := ⟨_, rfl⟩
    have D56 : Hid (Below W5.heap.size W5 W6) := by rw [hW6]; exact below_al hb _
    have HY6 : Hid (∀ w', Below W6.heap.size W6 w' → w'.cell? ⟨w6.heap.size, 0, none⟩ = some (.int .u32 a.n) ∧ w'.cell? ⟨w6.heap.size, 1, none⟩ = some (.int .u32 a.m) ∧ w'.cell? ⟨w6.heap.size, 2, none⟩ = some (.int .u64 a.t) ∧ w'.cell? ⟨w6.heap.size, 3, none⟩ = some (.int .u32 a.q)) := by
      rw [hW6]
      exact fun w' h => box4_all h
    have HW6 := Lib.hid hW6
    have D6 : Hid (Below W2.heap.size W2 W6) := below_on D5.out D56.out
    clear hb hW6 i0 i1 i2 i3 i4
    go_wp2_with fail
    rw [← HW6.out]
    have HELD : Hid (∀ w', Below W6.heap.size W6 w' → (w'.cell? ⟨w.heap.size, 0, none⟩ = some (.int .u32 a.n) ∧ w'.cell? ⟨w.heap.size, 1, none⟩ = some (.int .u32 a.m) ∧ w'.cell? ⟨w.heap.size, 2, none⟩ = some (.int .u64 a.t) ∧ w'.cell? ⟨w.heap.size, 3, none⟩ = some (.int .u32 a.q)) ∧ (w'.cell? ⟨w2.heap.size, 0, none⟩ = some (.int .i64 4) ∧ w'.cell? ⟨w2.heap.size, 1, none⟩ = some (.int .u64 0) ∧ w'.cell? ⟨w2.heap.size, 2, none⟩ = some (.slice a1 0 c) ∧ w'.cell? ⟨w2.heap.size, 3, none⟩ = some (.string ⟨#[]⟩) ∧ w'.cell? ⟨w2.heap.size, 4, none⟩ = some (.slice A 3 C)) ∧ (w'.cell? ⟨w5.heap.size, 0, none⟩ = some (.int .u32 a.n) ∧ w'.cell? ⟨w5.heap.size, 1, none⟩ = some (.int .u32 a.m) ∧ w'.cell? ⟨w5.heap.size, 2, none⟩ = some (.int .u64 a.t) ∧ w'.cell? ⟨w5.heap.size, 3, none⟩ = some (.int .u32 a.q)) ∧ (w'.cell? ⟨w6.heap.size, 0, none⟩ = some (.int .u32 a.n) ∧ w'.cell? ⟨w6.heap.size, 1, none⟩ = some (.int .u32 a.m) ∧ w'.cell? ⟨w6.heap.size, 2, none⟩ = some (.int .u64 a.t) ∧ w'.cell? ⟨w6.heap.size, 3, none⟩ = some (.int .u32 a.q))) := fun w' h =>
      ⟨HX.out w' (below_on HB2.out (below_on D6.out h)), HI2.out w' (below_on D6.out h), HY5.out w' (below_on D56.out h), HY6.out w' h⟩
    have HSM : Hid (∀ w' w'' v, Below W6.heap.size W6 w' → Below w'.heap.size w' w'' → ItV w'' w''.heap.size v (itN a.n a.m a.t a.q) → Calls Tryd.prog 13 #[.agg #[.int .i64 4, .int .u64 0, .slice a1 0 c, .string ⟨#[]⟩, .slice A 3 C], v] w'' fun e w3 => e = .returned (.bool true) ∧ Below w''.heap.size w'' w3) := fun w' w'' v h1 h2 hv => by
      have h3 := refSame_any (itN a.n a.m a.t a.q) (itN a.n a.m a.t a.q) _ v w'' (HV2.out w'' (below_on D6.out (below_on h1 h2))) hv
      rw [same_self] at h3
      exact h3
    have F0 : Below W6.heap.size W6 W6.drew := (Below.refl _ _).drew
    go_region_held3 (fun w' => (w'.cell? ⟨w.heap.size, 0, none⟩ = some (.int .u32 a.n) ∧ w'.cell? ⟨w.heap.size, 1, none⟩ = some (.int .u32 a.m) ∧ w'.cell? ⟨w.heap.size, 2, none⟩ = some (.int .u64 a.t) ∧ w'.cell? ⟨w.heap.size, 3, none⟩ = some (.int .u32 a.q)) ∧ (w'.cell? ⟨w2.heap.size, 0, none⟩ = some (.int .i64 4) ∧ w'.cell? ⟨w2.heap.size, 1, none⟩ = some (.int .u64 0) ∧ w'.cell? ⟨w2.heap.size, 2, none⟩ = some (.slice a1 0 c) ∧ w'.cell? ⟨w2.heap.size, 3, none⟩ = some (.string ⟨#[]⟩) ∧ w'.cell? ⟨w2.heap.size, 4, none⟩ = some (.slice A 3 C)) ∧ (w'.cell? ⟨w5.heap.size, 0, none⟩ = some (.int .u32 a.n) ∧ w'.cell? ⟨w5.heap.size, 1, none⟩ = some (.int .u32 a.m) ∧ w'.cell? ⟨w5.heap.size, 2, none⟩ = some (.int .u64 a.t) ∧ w'.cell? ⟨w5.heap.size, 3, none⟩ = some (.int .u32 a.q)) ∧ (w'.cell? ⟨w6.heap.size, 0, none⟩ = some (.int .u32 a.n) ∧ w'.cell? ⟨w6.heap.size, 1, none⟩ = some (.int .u32 a.m) ∧ w'.cell? ⟨w6.heap.size, 2, none⟩ = some (.int .u64 a.t) ∧ w'.cell? ⟨w6.heap.size, 3, none⟩ = some (.int .u32 a.q)))
      (first | (refine HELD.out _ ?_; with_reducible exact F4) | (refine HELD.out _ ?_; with_reducible exact F3) | (refine HELD.out _ ?_; with_reducible exact F2) | (refine HELD.out _ ?_; with_reducible exact F1) | (refine HELD.out _ ?_; with_reducible exact F0))
      (first
        | (go_at_call 14; refine (nmNum_any _ _).mono ?_; rintro e w' ⟨rfl, rfl⟩)
        | (go_at_call 26; (with_reducible refine (HRT.out _).mono ?_); rintro e w7 ⟨rfl, hb7⟩; have F1 : Below W6.heap.size W6 w7 := below_on F0 hb7)
        | (go_at_call 27; (with_reducible refine (HRIt.out _).mono ?_); rintro e w8 ⟨a8, c8, A8, C8, rfl, hv8, hb8⟩; have F2 : Below W6.heap.size W6 w8 := below_on F1 hb8; have HV8 := Lib.hid hv8; clear hv8)
        | (go_at_call 13; (with_reducible refine (HSM.out _ _ _ F2 (Below.refl _ _) HV8.out).mono ?_); rintro e w9 ⟨rfl, hb9⟩; have F3 : Below W6.heap.size W6 w9 := below_on F2 hb9)
        | (go_at_call 15; (with_reducible refine (nmWorks_any _ (HT.out _ (HB0.out.trans ((below_on HB2.out (below_on D6.out F3)).mono HB0.out.size)))).mono ?_); rintro e w10 ⟨rfl, hb10⟩; have F4 : Below W6.heap.size W6 w10 := below_on F3 hb10))
    rename_i hHeld
    have HF4 := Lib.hid F4
    clear hHeld F0 F1 F2 F3 F4
    go_wp2
    go_ret
    exact ⟨rfl, HB0.out.trans ((below_on HB2.out (below_on D6.out HF4.out)).mono HB0.out.size)⟩
  · have hr' : a.may = false := by simpa using hr
    have hno : (a.n : Int) = 0 ∨ 4611686018427387903 < (a.t : Int) := by
      have : ¬ (0 < a.n ∧ a.t ≤ forever) := fun h => hr (NmT.may_iff.2 h)
      omega
    have HTX : Hid (∀ w, Calls Tryd.prog 20 #[.agg #[.int .u32 a.n, .int .u32 a.m, .int .u64 a.t, .int .u32 a.q]] w fun e w' => e = .returned (.tuple #[.string ⟨#[]⟩, .int .i64 2]) ∧ Below w.heap.size w w') := fun w => ntext_no a.n a.m a.t a.q (fun h => hr (NmT.may_iff.2 h)) w
    have HIT : Hid (∀ w, Calls Tryd.prog 21 #[.agg #[.int .u32 a.n, .int .u32 a.m, .int .u64 a.t, .int .u32 a.q]] w fun e w' => e = .returned (.tuple #[noneV, .int .i64 2]) ∧ Below w.heap.size w w') := fun w => nitem_no a.n a.m a.t a.q (fun h => hr (NmT.may_iff.2 h)) w
    have HCK : Hid (∀ w, Calls Tryd.prog 22 #[.agg #[.int .u32 a.n, .int .u32 a.m, .int .u64 a.t, .int .u32 a.q]] w fun e w' => e = .returned (.int .i64 2) ∧ Below w.heap.size w w') := fun w => cname_no _ _ _ _ hno w
    have HRI := Lib.hid (refRightName_any a)
    rw [hr'] at HRI
    clear hr hr' hno ha
    go_enter Tryd.func4, Tryd.ntmps4
    go_wp2_with fail
    rw [← HW0.out]
    refine (HTX.out _).mono ?_
    rintro e w1 ⟨rfl, hb⟩
    have HB1 := Lib.hid hb
    clear hb x0 x1 x2 x3
    obtain ⟨x0, x1, x2, x3⟩ := HX.out w1 HB1.out
    go_wp2_with fail
    refine (HIT.out _).mono ?_
    rintro e w2 ⟨rfl, hb⟩
    unfold noneV
    obtain ⟨W2, hW2⟩ : ∃ W, W = w2.alloc (.cells #[.int .i64 0, .int .u64 0, .slice none 0 0, .string ⟨#[]⟩, .slice none 0 0] 33) := ⟨_, rfl⟩
    have HB2 : Hid (Below W0.heap.size W0 W2) := by rw [hW2]; exact below_al (below_on HB1.out hb) _
    have HI2 : Hid (∀ w', Below W2.heap.size W2 w' → w'.cell? ⟨w2.heap.size, 0, none⟩ = some (.int .i64 0) ∧ w'.cell? ⟨w2.heap.size, 1, none⟩ = some (.int .u64 0) ∧ w'.cell? ⟨w2.heap.size, 2, none⟩ = some (.slice none 0 0) ∧ w'.cell? ⟨w2.heap.size, 3, none⟩ = some (.string ⟨#[]⟩) ∧ w'.cell? ⟨w2.heap.size, 4, none⟩ = some (.slice none 0 0)) := fun w' h => by
      have hh := fun i => (h.cell (p := ⟨w2.heap.size, i, none⟩) (by rw [hW2]; simp)).trans (by rw [hW2, World.cell?_alloc_mark] : W2.cell? ⟨w2.heap.size, i, none⟩ = (#[.int .i64 0, .int .u64 0, .slice none 0 0, .string ⟨#[]⟩, .slice none 0 0])[i]?)
      exact ⟨hh 0, hh 1, hh 2, hh 3, hh 4⟩
    have HW2 := Lib.hid hW2
    obtain ⟨x0', x1', x2', x3'⟩ := HX.out W2 HB2.out
    rw [hW2] at x0' x1' x2' x3'
    clear hW2 hb x0 x1 x2 x3
    go_wp2_with fail
    rw [← HW2.out]
    refine (HCK.out _).mono ?_
    rintro e w3 ⟨rfl, hb⟩
    have D3 := Lib.hid hb
    clear hb x0' x1' x2' x3'
    obtain ⟨x0, x1, x2, x3⟩ := HX.out w3 (below_on HB2.out D3.out)
    go_wp2_with fail
    refine (HRI.out _).mono ?_
    rintro e w4 ⟨rfl, hb⟩
    have D4 := Lib.hid (below_on D3.out hb)
    clear hb x0 x1 x2 x3
    obtain ⟨i0, i1, i2, i3, i4⟩ := HI2.out w4 D4.out
    have HNO : Hid (∀ w, ItV w w.heap.size (.agg #[.int .i64 0, .int .u64 0, .slice none 0 0, .string ⟨#[]⟩, .slice none 0 0]) (.mk 0 0 [] [] [])) := fun w => ItS.itV (S := fun _ => False) (fun _ q => q.elim) _ (itS_plain _ _ 0 0 [] (by decide) ⟨by decide, by decide⟩ (Nat.zero_le _))
    have HSM : Hid (∀ w, Calls Tryd.prog 13 #[.agg #[.int .i64 0, .int .u64 0, .slice none 0 0, .string ⟨#[]⟩, .slice none 0 0], .agg #[.int .i64 0, .int .u64 0, .slice none 0 0, .string ⟨#[]⟩, .slice none 0 0]] w fun e w3 => e = .returned (.bool true) ∧ Below w.heap.size w w3) := fun w => by
      have h3 := refSame_any (.mk 0 0 [] [] []) (.mk 0 0 [] [] []) _ _ w (HNO.out w) (HNO.out w)
      rw [same_self] at h3
      exact h3
    go_wp2_with fail
    refine (HSM.out _).mono ?_
    rintro e w5 ⟨rfl, hb⟩
    have D5 := Lib.hid (below_on D4.out hb)
    clear hb i0 i1 i2 i3 i4
    go_wp2_with (go_at_call 14; refine (nmNum_any _ _).mono ?_; rintro e w' ⟨rfl, rfl⟩)
    refine (nmWorks_any _ (HT.out _ (HB0.out.trans ((below_on HB2.out D5.out).mono HB0.out.size)))).mono ?_
    rintro e w6 ⟨rfl, hb⟩
    have D6 := Lib.hid (below_on D5.out hb)
    clear hb
    go_wp2
    go_ret
    exact ⟨rfl, HB0.out.trans ((below_on HB2.out D6.out).mono HB0.out.size)⟩

end Go.Proofs.YtjbdpkjkeelgfaaDoor
