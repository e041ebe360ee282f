/- Clock's statements: the walk of the stage's theorem, part L5. -/
import Derived.Test.YtjcdmmlnmhkggaaClK
namespace Go.Proofs.Ytjcdmmlnmhkggaa
open Go.RowKit Go.Shelf

set_option maxRecDepth 100000 in
set_option maxHeartbeats 8000000 in
theorem holds_ltV (n0 n1 n2 f u r : Int) (w : World) (hn0 : 0 ≤ n0) (hn1 : 0 ≤ n1) (hn2 : 0 ≤ n2) (hf : W64 f) (hr : W64 r) (hlt : addT n0 n1 < 4611686018427387903) (hR : rightT f u = true) (hfu : f < u) (h1 : 0 < carT f u r) (h2 : carT f u r < 4611686018427387903) (h3 : u < 4611686018427387903) (o1 o2 : Int) (h4 : o1 ≤ u) (h5 : u < o2) (O1 : ∀ w, Calls Try.prog 26 #[.int .u64 f, .int .u64 (carT f u r), .int .u64 r] w fun e w' => e = .returned (.int .u64 o1) ∧ Below w.heap.size w w') (O2 : ∀ w, Calls Try.prog 26 #[.int .u64 f, .int .u64 (carT f u r + 1), .int .u64 r] w fun e w' => e = .returned (.int .u64 o2) ∧ Below w.heap.size w w') :
    Calls Try.prog 6 #[.agg #[.int .u64 n0, .int .u64 n1, .int .u64 n2], .agg #[.int .u64 f, .int .u64 u], .int .u64 r] w fun e w' => e = .returned (.bool true) ∧ Below w.heap.size w w' := by
  have hf0 := hf.1
  have hr0 := hr.1
  have l1 := addT_le n0 n1 n2 hn0 hn1 hn2
  have l2 := addT_hi n0 (addT n1 n2)
  have a0 := addT_lo n0 n1 hn0 hn1
  have A1 := Lib.hid (fun w => add_any n0 n1 w hn0 hn1)
  have A2 := Lib.hid (fun w => add_any n1 n2 w hn1 hn2)
  have A3 := Lib.hid (fun w => add_any n0 (addT n1 n2) w hn0 (addT_lo n1 n2 hn1 hn2))
  have A4 := Lib.hid (fun w => add_any n1 n0 w hn1 hn0)
  have A5 := Lib.hid (fun w => add_any (addT n0 n1) n2 w a0 hn2)
  rw [addT_comm n1 n0] at A4
  rw [← addT_assoc n0 n1 n2 hn0 hn1 hn2] at A5
  have S1 := Lib.hid (sub_call1 n0 n1 hn0 hn1 hlt)
  have S2 := Lib.hid (sub_call2 n0 n1 hn0 hn1 hlt)
  have HCar := Lib.hid (fun w => carries_any f u r w hf0 hr0)
  have HBo := Lib.hid (fun w => both_any f u f u w)
  have HI1 := Lib.hid (fun w => in_any f u f w)
  have HI2 := Lib.hid (fun w => in_any f u u w)
  rw [both_self f u hR] at HBo
  rw [in_from f u hR] at HI1
  rw [in_until f u] at HI2
  rw [if_pos hfu] at HBo
  rw [decide_eq_true hfu] at HI1
  have HO1 := Lib.hid O1
  have HO2 := Lib.hid O2
  generalize carT f u r = c at *
  have hg1 : decide (u < o1) = false := by simp; omega
  have hg3 : decide (o2 ≤ u) = false := by simp; omega
  have hwr : IntKind.u64.wrap (c + 1) = c + 1 := by rw [IntKind.wrap_u64]; omega
  clear O1 O2
  generalize addT n0 (addT n1 n2) = Bt at *
  generalize addT n1 n2 = Dt at *
  generalize addT n0 n1 = At at *
  obtain ⟨W0, hW0⟩ : ∃ W0, W0 = (w.alloc (.cells #[.int .u64 n0, .int .u64 n1, .int .u64 n2] 44)).alloc (.cells #[.int .u64 f, .int .u64 u] 30) := ⟨_, rfl⟩
  have HB0 : Hid (Below w.heap.size w W0) := by rw [hW0]; exact below_al (below_al (Below.refl _ _) _) _
  have HELD : Hid (∀ w', Below W0.heap.size W0 w' → ((w'.cell? ⟨w.heap.size, 0, none⟩ = some (.int .u64 n0) ∧ w'.cell? ⟨w.heap.size, 1, none⟩ = some (.int .u64 n1) ∧ w'.cell? ⟨w.heap.size, 2, none⟩ = some (.int .u64 n2)) ∧
      (w'.cell? ⟨w.heap.size + 1, 0, none⟩ = some (.int .u64 f) ∧ w'.cell? ⟨w.heap.size + 1, 1, none⟩ = some (.int .u64 u))) ∧ Below W0.heap.size W0 w') := by
    intro w' hb
    rw [hW0] at hb ⊢
    exact ⟨holds_cells _ _ _ _ _ w _ _ w' hb, hb⟩
  have F0 : Below W0.heap.size W0 W0.drew := (Below.refl _ _).drew
  have HW0 := Lib.hid hW0
  have hAB : ¬ Bt < At := by omega
  clear hW0 hn0 hn1 hn2
  go_enter Try.func6, Try.ntmps6
  go_wp2
  rw [← HW0.out]
  go_region_held (fun w' => ((w'.cell? ⟨w.heap.size, 0, none⟩ = some (.int .u64 n0) ∧ w'.cell? ⟨w.heap.size, 1, none⟩ = some (.int .u64 n1) ∧ w'.cell? ⟨w.heap.size, 2, none⟩ = some (.int .u64 n2)) ∧
      (w'.cell? ⟨w.heap.size + 1, 0, none⟩ = some (.int .u64 f) ∧ w'.cell? ⟨w.heap.size + 1, 1, none⟩ = some (.int .u64 u))) ∧ Below W0.heap.size W0 w')
    (first | (refine HELD.out _ ?_; with_reducible exact F0) | (refine HELD.out _ ?_; with_reducible exact F1) | (refine HELD.out _ ?_; with_reducible exact F2) | (refine HELD.out _ ?_; with_reducible exact F3))
    (first
      | (go_at_call 8; (with_reducible refine (A1.out _).mono ?_); rintro e W1 ⟨rfl, q1⟩; have F1 := F0.trans (q1.mono F0.size); clear q1)
      | (go_at_call 8; (with_reducible refine (A2.out _).mono ?_); rintro e W2 ⟨rfl, q2⟩; have F2 := F1.trans (q2.mono F1.size); clear q2)
      | (go_at_call 8; (with_reducible refine (A3.out _).mono ?_); rintro e W3 ⟨rfl, q3⟩; have F3 := F2.trans (q3.mono F2.size); clear q3))
  have G3 := Lib.hid F3
  obtain ⟨⟨⟨c0, c1, c2⟩, d0, d1⟩, -⟩ := HELD.out W3 F3
  clear A1 A2 A3 F0 F1 F2 F3 HW0
  go_wp2_with fail
  refine (A4.out _).mono ?_
  rintro e W4 ⟨rfl, q4⟩
  have F4 := G3.out.trans (q4.mono G3.out.size)
  clear c0 c1 c2 d0 d1 q4
  obtain ⟨⟨⟨c0, c1, c2⟩, d0, d1⟩, -⟩ := HELD.out W4 F4
  have G4 := Lib.hid F4
  clear F4
  go_wp2_with fail
  refine (A5.out _).mono ?_
  rintro e W5 ⟨rfl, q5⟩
  have F5 := G4.out.trans (q5.mono G4.out.size)
  clear c0 c1 c2 d0 d1 q5
  obtain ⟨⟨⟨c0, c1, c2⟩, d0, d1⟩, -⟩ := HELD.out W5 F5
  have G5 := Lib.hid F5
  clear F5 G4 G3 A4 A5
  go_wp2
  go_quiet ((first | (go_at_call 10; with_reducible exact Calls.quiet_of_same (S1.out _)) | (go_at_call 10; with_reducible exact Calls.quiet_of_same (S2.out _))))
  clear S1 S2
  go_wp2_with fail
  refine (right_any _ _ _).mono ?_
  rintro e W6 ⟨rfl, q6⟩
  have F6 : Below W0.heap.size W0 W6 := (below_dr G5.out _).trans (q6.mono G5.out.size)
  clear c0 c1 c2 d0 d1 q6 G5 hlt hAB l1 l2 a0
  obtain ⟨-, d0, d1⟩ := (HELD.out W6 F6).1
  have G6 := Lib.hid F6
  clear F6
  go_wp2_with fail
  refine (HCar.out _).mono ?_
  rintro e W7 ⟨rfl, q7⟩
  have F7 := G6.out.trans (q7.mono G6.out.size)
  clear d0 d1 q7 G6 HCar
  obtain ⟨-, d0, d1⟩ := (HELD.out W7 F7).1
  have F7d : Below W0.heap.size W0 W7.drew := F7.drew
  have G7 := Lib.hid F7
  clear F7
  go_wp2
  have HELD2 : Hid (∀ w', Below W0.heap.size W0 w' → (w'.cell? ⟨w.heap.size + 1, 0, none⟩ = some (.int .u64 f) ∧ w'.cell? ⟨w.heap.size + 1, 1, none⟩ = some (.int .u64 u)) ∧ Below W0.heap.size W0 w') := fun w' h => ⟨(HELD.out w' h).1.2, h⟩
  clear d0 d1
  go_region_held (fun w' => (w'.cell? ⟨w.heap.size + 1, 0, none⟩ = some (.int .u64 f) ∧ w'.cell? ⟨w.heap.size + 1, 1, none⟩ = some (.int .u64 u)) ∧ Below W0.heap.size W0 w')
    (first | (refine HELD2.out _ ?_; with_reducible exact F7d) | (refine HELD2.out _ ?_; with_reducible exact F8) | (refine HELD2.out _ ?_; with_reducible exact F8b))
    (first
      | (go_at_call 26; (with_reducible refine (HO1.out _).mono ?_); rintro e W8 ⟨rfl, q8⟩; have F8 := F7d.trans (q8.mono F7d.size); clear q8)
      | (go_at_call 26; (with_reducible refine (HO2.out _).mono ?_); rintro e W8b ⟨rfl, q9⟩; have F8b := F8.trans (q9.mono F8.size); clear q9))
  have F9 := F8b
  generalize W8b = W9 at F9 ⊢
  clear F7d hg1 hg3 hwr h1 h2 h3 h4 h5 HO1 HO2
  --CUT1
  obtain ⟨-, d0, d1⟩ := (HELD.out W9 F9).1
  have G9 := Lib.hid F9
  clear F9
  go_wp2_with fail
  refine (HBo.out _).mono ?_
  rintro e W10 ⟨rfl, q10⟩
  have F10 := G9.out.trans (q10.mono G9.out.size)
  clear d0 d1 q10 G9 HBo
  obtain ⟨-, d0, d1⟩ := (HELD.out W10 F10).1
  have e0 := Lib.cell?_alloc_some (.cells #[.int .u64 f, .int .u64 u] 30) d0
  have e1 := Lib.cell?_alloc_some (.cells #[.int .u64 f, .int .u64 u] 30) d1
  have G10 := Lib.hid F10
  clear F10
  go_wp2_with fail
  refine (HI1.out _).mono ?_
  rintro e W11 ⟨rfl, q11⟩
  have F11 := below_on (below_al G10.out _) q11
  clear d0 d1 e0 e1 q11 G10 HI1
  obtain ⟨-, d0, d1⟩ := (HELD.out W11 F11).1
  have G11 := Lib.hid F11
  clear F11
  go_wp2_with fail
  refine (HI2.out _).mono ?_
  rintro e W12 ⟨rfl, q12⟩
  have F12 := below_on G11.out q12
  clear d0 d1 q12 G11 HI2 HELD
  go_wp2_with fail
  refine (works_any _).mono ?_
  rintro e W13 ⟨rfl, q13⟩
  go_wp2
  go_ret
  exact ⟨rfl, HB0.out.trans ((below_on F12 q13).mono HB0.out.size)⟩

set_option maxRecDepth 100000 in
set_option maxHeartbeats 8000000 in
theorem holds_geV (n0 n1 n2 f u r : Int) (w : World) (hn0 : 0 ≤ n0) (hn1 : 0 ≤ n1) (hn2 : 0 ≤ n2) (hf : W64 f) (hr : W64 r) (hlt : ¬ addT n0 n1 < 4611686018427387903) (hR : rightT f u = true) (hfu : f < u) (h1 : 0 < carT f u r) (h2 : carT f u r < 4611686018427387903) (h3 : u < 4611686018427387903) (o1 o2 : Int) (h4 : o1 ≤ u) (h5 : u < o2) (O1 : ∀ w, Calls Try.prog 26 #[.int .u64 f, .int .u64 (carT f u r), .int .u64 r] w fun e w' => e = .returned (.int .u64 o1) ∧ Below w.heap.size w w') (O2 : ∀ w, Calls Try.prog 26 #[.int .u64 f, .int .u64 (carT f u r + 1), .int .u64 r] w fun e w' => e = .returned (.int .u64 o2) ∧ Below w.heap.size w w') :
    Calls Try.prog 6 #[.agg #[.int .u64 n0, .int .u64 n1, .int .u64 n2], .agg #[.int .u64 f, .int .u64 u], .int .u64 r] w fun e w' => e = .returned (.bool true) ∧ Below w.heap.size w w' := by
  have hf0 := hf.1
  have hr0 := hr.1
  have l1 := addT_le n0 n1 n2 hn0 hn1 hn2
  have l2 := addT_hi n0 (addT n1 n2)
  have a0 := addT_lo n0 n1 hn0 hn1
  have A1 := Lib.hid (fun w => add_any n0 n1 w hn0 hn1)
  have A2 := Lib.hid (fun w => add_any n1 n2 w hn1 hn2)
  have A3 := Lib.hid (fun w => add_any n0 (addT n1 n2) w hn0 (addT_lo n1 n2 hn1 hn2))
  have A4 := Lib.hid (fun w => add_any n1 n0 w hn1 hn0)
  have A5 := Lib.hid (fun w => add_any (addT n0 n1) n2 w a0 hn2)
  rw [addT_comm n1 n0] at A4
  rw [← addT_assoc n0 n1 n2 hn0 hn1 hn2] at A5
  have HCar := Lib.hid (fun w => carries_any f u r w hf0 hr0)
  have HBo := Lib.hid (fun w => both_any f u f u w)
  have HI1 := Lib.hid (fun w => in_any f u f w)
  have HI2 := Lib.hid (fun w => in_any f u u w)
  rw [both_self f u hR] at HBo
  rw [in_from f u hR] at HI1
  rw [in_until f u] at HI2
  rw [if_pos hfu] at HBo
  rw [decide_eq_true hfu] at HI1
  have HO1 := Lib.hid O1
  have HO2 := Lib.hid O2
  generalize carT f u r = c at *
  have hg1 : decide (u < o1) = false := by simp; omega
  have hg3 : decide (o2 ≤ u) = false := by simp; omega
  have hwr : IntKind.u64.wrap (c + 1) = c + 1 := by rw [IntKind.wrap_u64]; omega
  clear O1 O2
  generalize addT n0 (addT n1 n2) = Bt at *
  generalize addT n1 n2 = Dt at *
  generalize addT n0 n1 = At at *
  obtain ⟨W0, hW0⟩ : ∃ W0, W0 = (w.alloc (.cells #[.int .u64 n0, .int .u64 n1, .int .u64 n2] 44)).alloc (.cells #[.int .u64 f, .int .u64 u] 30) := ⟨_, rfl⟩
  have HB0 : Hid (Below w.heap.size w W0) := by rw [hW0]; exact below_al (below_al (Below.refl _ _) _) _
  have HELD : Hid (∀ w', Below W0.heap.size W0 w' → ((w'.cell? ⟨w.heap.size, 0, none⟩ = some (.int .u64 n0) ∧ w'.cell? ⟨w.heap.size, 1, none⟩ = some (.int .u64 n1) ∧ w'.cell? ⟨w.heap.size, 2, none⟩ = some (.int .u64 n2)) ∧
      (w'.cell? ⟨w.heap.size + 1, 0, none⟩ = some (.int .u64 f) ∧ w'.cell? ⟨w.heap.size + 1, 1, none⟩ = some (.int .u64 u))) ∧ Below W0.heap.size W0 w') := by
    intro w' hb
    rw [hW0] at hb ⊢
    exact ⟨holds_cells _ _ _ _ _ w _ _ w' hb, hb⟩
  have F0 : Below W0.heap.size W0 W0.drew := (Below.refl _ _).drew
  have HW0 := Lib.hid hW0
  have hAB : ¬ Bt < At := by omega
  have hgA : decide (At < 4611686018427387903) = false := by simp; omega
  clear hW0 hn0 hn1 hn2
  go_enter Try.func6, Try.ntmps6
  go_wp2
  rw [← HW0.out]
  go_region_held (fun w' => ((w'.cell? ⟨w.heap.size, 0, none⟩ = some (.int .u64 n0) ∧ w'.cell? ⟨w.heap.size, 1, none⟩ = some (.int .u64 n1) ∧ w'.cell? ⟨w.heap.size, 2, none⟩ = some (.int .u64 n2)) ∧
      (w'.cell? ⟨w.heap.size + 1, 0, none⟩ = some (.int .u64 f) ∧ w'.cell? ⟨w.heap.size + 1, 1, none⟩ = some (.int .u64 u))) ∧ Below W0.heap.size W0 w')
    (first | (refine HELD.out _ ?_; with_reducible exact F0) | (refine HELD.out _ ?_; with_reducible exact F1) | (refine HELD.out _ ?_; with_reducible exact F2) | (refine HELD.out _ ?_; with_reducible exact F3))
    (first
      | (go_at_call 8; (with_reducible refine (A1.out _).mono ?_); rintro e W1 ⟨rfl, q1⟩; have F1 := F0.trans (q1.mono F0.size); clear q1)
      | (go_at_call 8; (with_reducible refine (A2.out _).mono ?_); rintro e W2 ⟨rfl, q2⟩; have F2 := F1.trans (q2.mono F1.size); clear q2)
      | (go_at_call 8; (with_reducible refine (A3.out _).mono ?_); rintro e W3 ⟨rfl, q3⟩; have F3 := F2.trans (q3.mono F2.size); clear q3))
  have G3 := Lib.hid F3
  obtain ⟨⟨⟨c0, c1, c2⟩, d0, d1⟩, -⟩ := HELD.out W3 F3
  clear A1 A2 A3 F0 F1 F2 F3 HW0
  go_wp2_with fail
  refine (A4.out _).mono ?_
  rintro e W4 ⟨rfl, q4⟩
  have F4 := G3.out.trans (q4.mono G3.out.size)
  clear c0 c1 c2 d0 d1 q4
  obtain ⟨⟨⟨c0, c1, c2⟩, d0, d1⟩, -⟩ := HELD.out W4 F4
  have G4 := Lib.hid F4
  clear F4
  go_wp2_with fail
  refine (A5.out _).mono ?_
  rintro e W5 ⟨rfl, q5⟩
  have F5 := G4.out.trans (q5.mono G4.out.size)
  clear c0 c1 c2 d0 d1 q5
  obtain ⟨⟨⟨c0, c1, c2⟩, d0, d1⟩, -⟩ := HELD.out W5 F5
  have G5 := Lib.hid F5
  clear F5 G4 G3 A4 A5
  go_wp2
  go_quiet (fail)
  clear hgA
  go_wp2_with fail
  refine (right_any _ _ _).mono ?_
  rintro e W6 ⟨rfl, q6⟩
  have F6 : Below W0.heap.size W0 W6 := (below_dr G5.out _).trans (q6.mono G5.out.size)
  clear c0 c1 c2 d0 d1 q6 G5 hlt hAB l1 l2 a0
  obtain ⟨-, d0, d1⟩ := (HELD.out W6 F6).1
  have G6 := Lib.hid F6
  clear F6
  go_wp2_with fail
  refine (HCar.out _).mono ?_
  rintro e W7 ⟨rfl, q7⟩
  have F7 := G6.out.trans (q7.mono G6.out.size)
  clear d0 d1 q7 G6 HCar
  obtain ⟨-, d0, d1⟩ := (HELD.out W7 F7).1
  have F7d : Below W0.heap.size W0 W7.drew := F7.drew
  have G7 := Lib.hid F7
  clear F7
  go_wp2
  have HELD2 : Hid (∀ w', Below W0.heap.size W0 w' → (w'.cell? ⟨w.heap.size + 1, 0, none⟩ = some (.int .u64 f) ∧ w'.cell? ⟨w.heap.size + 1, 1, none⟩ = some (.int .u64 u)) ∧ Below W0.heap.size W0 w') := fun w' h => ⟨(HELD.out w' h).1.2, h⟩
  clear d0 d1
  go_region_held (fun w' => (w'.cell? ⟨w.heap.size + 1, 0, none⟩ = some (.int .u64 f) ∧ w'.cell? ⟨w.heap.size + 1, 1, none⟩ = some (.int .u64 u)) ∧ Below W0.heap.size W0 w')
    (first | (refine HELD2.out _ ?_; with_reducible exact F7d) | (refine HELD2.out _ ?_; with_reducible exact F8) | (refine HELD2.out _ ?_; with_reducible exact F8b))
    (first
      | (go_at_call 26; (with_reducible refine (HO1.out _).mono ?_); rintro e W8 ⟨rfl, q8⟩; have F8 := F7d.trans (q8.mono F7d.size); clear q8)
      | (go_at_call 26; (with_reducible refine (HO2.out _).mono ?_); rintro e W8b ⟨rfl, q9⟩; have F8b := F8.trans (q9.mono F8.size); clear q9))
  have F9 := F8b
  generalize W8b = W9 at F9 ⊢
  clear F7d hg1 hg3 hwr h1 h2 h3 h4 h5 HO1 HO2
  --CUT1
  obtain ⟨-, d0, d1⟩ := (HELD.out W9 F9).1
  have G9 := Lib.hid F9
  clear F9
  go_wp2_with fail
  refine (HBo.out _).mono ?_
  rintro e W10 ⟨rfl, q10⟩
  have F10 := G9.out.trans (q10.mono G9.out.size)
  clear d0 d1 q10 G9 HBo
  obtain ⟨-, d0, d1⟩ := (HELD.out W10 F10).1
  have e0 := Lib.cell?_alloc_some (.cells #[.int .u64 f, .int .u64 u] 30) d0
  have e1 := Lib.cell?_alloc_some (.cells #[.int .u64 f, .int .u64 u] 30) d1
  have G10 := Lib.hid F10
  clear F10
  go_wp2_with fail
  refine (HI1.out _).mono ?_
  rintro e W11 ⟨rfl, q11⟩
  have F11 := below_on (below_al G10.out _) q11
  clear d0 d1 e0 e1 q11 G10 HI1
  obtain ⟨-, d0, d1⟩ := (HELD.out W11 F11).1
  have G11 := Lib.hid F11
  clear F11
  go_wp2_with fail
  refine (HI2.out _).mono ?_
  rintro e W12 ⟨rfl, q12⟩
  have F12 := below_on G11.out q12
  clear d0 d1 q12 G11 HI2 HELD
  go_wp2_with fail
  refine (works_any _).mono ?_
  rintro e W13 ⟨rfl, q13⟩
  go_wp2
  go_ret
  exact ⟨rfl, HB0.out.trans ((below_on F12 q13).mono HB0.out.size)⟩

end Go.Proofs.Ytjcdmmlnmhkggaa
