/- Clock's statements: the fixed row. -/
import Derived.Test.YtjcdmmlnmhkggaaClG
namespace Go.Proofs.Ytjcdmmlnmhkggaa
open Go.RowKit Go.Shelf

theorem works_both1 (w : World) : Calls Try.prog 16 #[.agg #[.int .u64 2, .int .u64 5], .agg #[.int .u64 4, .int .u64 9]] w fun e w' => e = .returned (.tuple #[.agg #[.int .u64 4, .int .u64 5], .bool true]) ∧ Below w.heap.size w w' := both_any 2 5 4 9 w
theorem works_both2 (w : World) : Calls Try.prog 16 #[.agg #[.int .u64 2, .int .u64 4], .agg #[.int .u64 4, .int .u64 9]] w fun e w' => e = .returned (.tuple #[.agg #[.int .u64 0, .int .u64 0], .bool false]) ∧ Below w.heap.size w w' := both_any 2 4 4 9 w
theorem works_add (w : World) : Calls Try.prog 8 #[.int .u64 4611686018427387903, .int .u64 1] w fun e w' => e = .returned (.int .u64 4611686018427387903) ∧ Below w.heap.size w w' := add_any 4611686018427387903 1 w (by decide) (by decide)
theorem works_sub1 (w : World) : Calls Try.prog 10 #[.int .u64 3, .int .u64 5] w fun e w' => e = .returned (.int .u64 0) ∧ w = w' := sub_any 3 5 w (by decide) (by decide) (by decide)
theorem works_sub2 (w : World) : Calls Try.prog 10 #[.int .u64 4611686018427387903, .int .u64 5] w fun e w' => e = .returned (.int .u64 4611686018427387903) ∧ w = w' := sub_any 4611686018427387903 5 w (by decide) (by decide) (by decide)
theorem works_mul (w : World) : Calls Try.prog 12 #[.int .u64 1099511627776, .int .u64 1099511627776] w fun e w' => e = .returned (.int .u64 4611686018427387903) ∧ w = w' := mul_any 1099511627776 1099511627776 w (by decide) (by decide)
theorem works_over1 (w : World) : Calls Try.prog 26 #[.int .u64 10, .int .u64 7, .int .u64 2] w fun e w' => e = .returned (.int .u64 14) ∧ Below w.heap.size w w' := over_any 10 7 2 w (by unfold W64; decide) (by unfold W64; decide) (by unfold W64; decide)
theorem works_over2 (w : World) : Calls Try.prog 26 #[.int .u64 10, .int .u64 7, .int .u64 0] w fun e w' => e = .returned (.int .u64 4611686018427387903) ∧ Below w.heap.size w w' := over_any 10 7 0 w (by unfold W64; decide) (by unfold W64; decide) (by unfold W64; decide)
theorem works_carries (w : World) : Calls Try.prog 22 #[.agg #[.int .u64 2, .int .u64 5], .int .u64 4] w fun e w' => e = .returned (.int .u64 12) ∧ Below w.heap.size w w' := carries_any 2 5 4 w (by decide) (by decide)

set_option maxRecDepth 100000 in
set_option maxHeartbeats 2000000 in
theorem works_any (w : World) :
    Calls Try.prog 15 #[] w fun e w' => e = .returned (.bool true) ∧ Below w.heap.size w w' := by
  go_enter Try.func15, Try.ntmps15
  go_wp2_with fail
  refine (works_both1 _).mono ?_
  rintro e w1 ⟨rfl, hb1⟩
  go_wp2_with fail
  refine (works_both2 _).mono ?_
  rintro e w2 ⟨rfl, hb2⟩
  obtain ⟨c0, c1⟩ := box2_later hb2
  go_wp2_with fail
  refine (works_add _).mono ?_
  rintro e w3 ⟨rfl, hb3⟩
  have hB : Below w.heap.size w w3 := below_on (below_al (below_on (below_al hb1 _) hb2) _) hb3
  have hlt : w1.heap.size < w2.heap.size := by have := hb2.size; simp at this; omega
  have d0 : w3.cell? ⟨w1.heap.size, 0, none⟩ = some (.int .u64 4) := ((later_step hb3).cell (p := ⟨w1.heap.size, 0, none⟩) hlt).trans c0
  have d1 : w3.cell? ⟨w1.heap.size, 1, none⟩ = some (.int .u64 5) := ((later_step hb3).cell (p := ⟨w1.heap.size, 1, none⟩) hlt).trans c1
  clear c0 c1 hlt hb1 hb2 hb3
  go_wp2_with fail
  refine (works_sub1 _).mono ?_
  rintro e w' ⟨rfl, rfl⟩
  go_wp2_with fail
  refine (works_sub2 _).mono ?_
  rintro e w' ⟨rfl, rfl⟩
  go_wp2_with fail
  refine (works_mul _).mono ?_
  rintro e w' ⟨rfl, rfl⟩
  go_wp2_with fail
  refine (works_over1 _).mono ?_
  rintro e w4 ⟨rfl, hb4⟩
  go_wp2_with fail
  refine (works_over2 _).mono ?_
  rintro e w5 ⟨rfl, hb5⟩
  go_wp2_with fail
  refine (works_carries _).mono ?_
  rintro e w6 ⟨rfl, hb6⟩
  go_wp2
  go_ret
  exact ⟨rfl, below_on (below_on (below_on hB hb4) hb5) hb6⟩

/-- It is true: the law's sums. -/
theorem eq_chk (a b : Int) : (chkT (isT a && isT b) == 0) = (isT a && isT b) := by
  cases isT a && isT b <;> rfl

set_option maxHeartbeats 400000 in
theorem clNum_any (x : Int) (w : World) :
    Calls Try.prog 14 #[.int .i64 x] w fun e w' => e = .returned (.int .i64 x) ∧ w = w' := by
  go_enter Try.func14, Try.ntmps14
  go_wp2
  go_ret
  exact ⟨rfl, rfl⟩

set_option maxRecDepth 100000 in
set_option maxHeartbeats 2000000 in
theorem walk_clockSums (a b : Int) (w : World) (ha : W64 a) (hb : W64 b) :
    Calls Try.prog 3 #[.int .u64 a, .int .u64 b] w fun e w' => e = .returned (.bool true) ∧ Below w.heap.size w w' := by
  have ha0 := ha.1
  have hb0 := hb.1
  have ha9 := ha.2
  have S1 := Lib.hid (fun w => sub_any a b w ha0 hb0 ha9)
  have S2 := Lib.hid (fun w => refSub_any a b w ha0 hb0 ha9)
  have A1 := Lib.hid (fun w => add_any a b w ha0 hb0)
  have A2 := Lib.hid (fun w => refAdd_any a b w ha0 hb0)
  have M1 := Lib.hid (fun w => mul_any a b w ha0 hb0)
  have M2 := Lib.hid (fun w => refMul_any a b w ha0 hb0)
  have C1 := Lib.hid (check_two a b w)
  clear ha hb ha0 hb0 ha9
  by_cases h1 : a ≤ 4611686018427387903 <;> by_cases h2 : b ≤ 4611686018427387903
  all_goals
    have hc : chkT (isT a && isT b) = (if a ≤ 4611686018427387903 ∧ b ≤ 4611686018427387903 then 0 else 2) := by simp [chkT, isT]
    have C2 := C1
    rw [hc] at C2
    simp only [h1, h2, and_self, and_true, and_false, if_true, if_false] at C2
    clear hc C1
    go_enter Try.func3, Try.ntmps3
    go_wp2_with fail
    refine C2.out.mono ?_
    rintro e w' ⟨rfl, rfl⟩
    go_wp2_with fail
    refine (A1.out _).mono ?_
    rintro e w1 ⟨rfl, hb1⟩
    go_wp2_with (first | (go_at_call 9; refine (A2.out _).mono ?_; rintro e w' ⟨rfl, rfl⟩) | (go_at_call 10; refine (S1.out _).mono ?_; rintro e w' ⟨rfl, rfl⟩) | (go_at_call 11; refine (S2.out _).mono ?_; rintro e w' ⟨rfl, rfl⟩) | (go_at_call 12; refine (M1.out _).mono ?_; rintro e w' ⟨rfl, rfl⟩) | (go_at_call 13; refine (M2.out _).mono ?_; rintro e w' ⟨rfl, rfl⟩) | (go_at_call 14; refine (clNum_any _ _).mono ?_; rintro e w' ⟨rfl, rfl⟩) | (go_at_call 7; refine (check_none _).mono ?_; rintro e w' ⟨rfl, rfl⟩))
    refine (works_any _).mono ?_
    rintro e w2 ⟨rfl, hb2⟩
    go_wp2
    go_ret
    exact ⟨rfl, below_on (below_on ((Below.refl _ _).alloc (Nat.le_refl _) _) hb1) hb2⟩

end Go.Proofs.Ytjcdmmlnmhkggaa
