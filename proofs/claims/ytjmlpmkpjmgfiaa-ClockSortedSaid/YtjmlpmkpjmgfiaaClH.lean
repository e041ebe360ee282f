/- Clock's statements: the fixed row. -/
import Derived.Test.YtjmlpmkpjmgfiaaClG
namespace Go.Proofs.Ytjmlpmkpjmgfiaa
open Go.RowKit Go.Shelf

theorem works_both1 (w : World) : Calls Try.prog 7 #[.agg #[.int .u64 2, .int .u64 5], .agg #[.int .u64 4, .int .u64 9]] w fun e w' => e = .returned (.tuple #[.agg #[.int .u64 4, .int .u64 5], .bool true]) ∧ Below w.heap.size w w' := both_any 2 5 4 9 w
theorem works_both2 (w : World) : Calls Try.prog 7 #[.agg #[.int .u64 2, .int .u64 4], .agg #[.int .u64 4, .int .u64 9]] w fun e w' => e = .returned (.tuple #[.agg #[.int .u64 0, .int .u64 0], .bool false]) ∧ Below w.heap.size w w' := both_any 2 4 4 9 w
theorem works_add (w : World) : Calls Try.prog 8 #[.int .u64 4611686018427387903, .int .u64 1] w fun e w' => e = .returned (.int .u64 4611686018427387903) ∧ Below w.heap.size w w' := add_any 4611686018427387903 1 w (by decide) (by decide)
theorem works_sub1 (w : World) : Calls Try.prog 9 #[.int .u64 3, .int .u64 5] w fun e w' => e = .returned (.int .u64 0) ∧ w = w' := sub_any 3 5 w (by decide) (by decide) (by decide)
theorem works_sub2 (w : World) : Calls Try.prog 9 #[.int .u64 4611686018427387903, .int .u64 5] w fun e w' => e = .returned (.int .u64 4611686018427387903) ∧ w = w' := sub_any 4611686018427387903 5 w (by decide) (by decide) (by decide)
theorem works_mul (w : World) : Calls Try.prog 10 #[.int .u64 1099511627776, .int .u64 1099511627776] w fun e w' => e = .returned (.int .u64 4611686018427387903) ∧ w = w' := mul_any 1099511627776 1099511627776 w (by decide) (by decide)
theorem works_over1 (w : World) : Calls Try.prog 11 #[.int .u64 10, .int .u64 7, .int .u64 2] w fun e w' => e = .returned (.int .u64 14) ∧ Below w.heap.size w w' := over_any 10 7 2 w (by unfold W64; decide) (by unfold W64; decide) (by unfold W64; decide)
theorem works_over2 (w : World) : Calls Try.prog 11 #[.int .u64 10, .int .u64 7, .int .u64 0] w fun e w' => e = .returned (.int .u64 4611686018427387903) ∧ Below w.heap.size w w' := over_any 10 7 0 w (by unfold W64; decide) (by unfold W64; decide) (by unfold W64; decide)
theorem works_carries (w : World) : Calls Try.prog 12 #[.agg #[.int .u64 2, .int .u64 5], .int .u64 4] w fun e w' => e = .returned (.int .u64 12) ∧ Below w.heap.size w w' := carries_any 2 5 4 w (by decide) (by decide)

set_option maxRecDepth 100000 in
set_option maxHeartbeats 2000000 in
theorem works_any (w : World) :
    Calls Try.prog 4 #[] w fun e w' => e = .returned (.bool true) ∧ Below w.heap.size w w' := by
  go_enter Try.func4, Try.ntmps4
  go_wp2_with fail
  refine (works_both1 _).mono ?_
  rintro e w1 ⟨rfl, hb1⟩
  go_wp2_with fail
  refine (works_both2 _).mono ?_
  rintro e w2 ⟨rfl, hb2⟩
  obtain ⟨c0, c1⟩ := box2_later hb2
  go_wp2_with fail
  refine (works_add _).mono ?_
  rintro e w3 ⟨rfl, hb3⟩
  have hB : Below w.heap.size w w3 := below_on (below_al (below_on (below_al hb1 _) hb2) _) hb3
  have hlt : w1.heap.size < w2.heap.size := by have := hb2.size; simp at this; omega
  have d0 : w3.cell? ⟨w1.heap.size, 0, none⟩ = some (.int .u64 4) := ((later_step hb3).cell (p := ⟨w1.heap.size, 0, none⟩) hlt).trans c0
  have d1 : w3.cell? ⟨w1.heap.size, 1, none⟩ = some (.int .u64 5) := ((later_step hb3).cell (p := ⟨w1.heap.size, 1, none⟩) hlt).trans c1
  clear c0 c1 hlt hb1 hb2 hb3
  go_wp2_with fail
  refine (works_sub1 _).mono ?_
  rintro e w' ⟨rfl, rfl⟩
  go_wp2_with fail
  refine (works_sub2 _).mono ?_
  rintro e w' ⟨rfl, rfl⟩
  go_wp2_with fail
  refine (works_mul _).mono ?_
  rintro e w' ⟨rfl, rfl⟩
  go_wp2_with fail
  refine (works_over1 _).mono ?_
  rintro e w4 ⟨rfl, hb4⟩
  go_wp2_with fail
  refine (works_over2 _).mono ?_
  rintro e w5 ⟨rfl, hb5⟩
  go_wp2_with fail
  refine (works_carries _).mono ?_
  rintro e w6 ⟨rfl, hb6⟩
  go_wp2
  go_ret
  exact ⟨rfl, below_on (below_on (below_on hB hb4) hb5) hb6⟩

/-- It is true: the law's sums. -/
theorem eq_chk (a b : Int) : (chkT (isT a && isT b) == 0) = (isT a && isT b) := by
  cases isT a && isT b <;> rfl

end Go.Proofs.Ytjmlpmkpjmgfiaa
