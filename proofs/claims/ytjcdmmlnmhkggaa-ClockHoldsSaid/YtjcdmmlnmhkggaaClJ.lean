/- Clock's statements: the mathematics of the stage's theorem. -/
import Derived.Test.YtjcdmmlnmhkggaaClH
namespace Go.Proofs.Ytjcdmmlnmhkggaa
open Go.RowKit Go.Shelf

theorem addT_comm (a b : Int) : addT a b = addT b a := by unfold addT; rw [Int.add_comm]

theorem hold_cases (n : Int) : (n ≤ 4611686018427387903 ∧ hold n = n) ∨ (4611686018427387903 < n ∧ hold n = 4611686018427387903) := by
  by_cases h : n ≤ 4611686018427387903
  · exact .inl ⟨h, hold_id h⟩
  · exact .inr ⟨by omega, hold_top (by omega)⟩

theorem hold_lt {n : Int} (h : hold n < 4611686018427387903) : hold n = n := by
  rcases hold_cases n with h1 | h1
  · exact h1.2
  · omega

theorem addT_assoc (a b c : Int) (ha : 0 ≤ a) (hb : 0 ≤ b) (hc : 0 ≤ c) : addT a (addT b c) = addT (addT a b) c := by
  unfold addT
  rw [hold_hold, hold_hold]
  have h1 := hold_lo ha
  have h2 := hold_lo hb
  have h3 := hold_lo hc
  generalize hold a = x at *
  generalize hold b = y at *
  generalize hold c = z at *
  unfold hold
  split <;> split <;> (try split) <;> (try split) <;> omega

theorem addT_le (a b c : Int) (ha : 0 ≤ a) (hb : 0 ≤ b) (hc : 0 ≤ c) : addT a b ≤ addT a (addT b c) := by
  rw [addT_assoc a b c ha hb hc]
  have h1 := hold_lo hc
  have h2 : addT a b ≤ 4611686018427387903 := hold_hi _
  generalize addT a b = x at *
  unfold addT
  rw [hold_id h2]
  unfold hold at *
  split <;> split at h1 <;> omega

theorem addT_lo (a b : Int) (ha : 0 ≤ a) (hb : 0 ≤ b) : 0 ≤ addT a b := hold_lo (by have := hold_lo ha; have := hold_lo hb; omega)
theorem addT_hi (a b : Int) : addT a b ≤ 4611686018427387903 := hold_hi _

/-- Sub of Add is what it was. -/
theorem sub_add (a b : Int) (ha : 0 ≤ a) (hb : 0 ≤ b) (h : addT a b < 4611686018427387903) : subT (addT a b) b = a ∧ subT (addT a b) a = b := by
  unfold addT at h ⊢
  have h1 := hold_lo ha
  have h2 := hold_lo hb
  have h3 : hold a + hold b < 4611686018427387903 := by
    have := hold_lt h
    omega
  have e1 : hold a = a := hold_lt (by omega)
  have e2 : hold b = b := hold_lt (by omega)
  rw [e1, e2] at h3 ⊢
  rw [hold_id (by omega)]
  unfold subT
  constructor
  · rw [if_neg (by omega)]
    split <;> omega
  · rw [if_neg (by omega)]
    split <;> omega

/-- What a span carries is over at its end. -/
theorem car_over (f u r : Int) (hf : 0 ≤ f) (hr : 0 ≤ r) (hR : rightT f u = true) (hc0 : 0 < carT f u r) (hc1 : carT f u r < 4611686018427387903) :
    overT f (carT f u r) r ≤ u ∧ (u < 4611686018427387903 → u < overT f (carT f u r + 1) r) := by
  obtain ⟨h1, h2⟩ := rightT_iff hR
  unfold carT at *
  rw [if_pos hR] at *
  unfold mulT at *
  have d1 : hold (u - f) = u - f := hold_id (by omega)
  rw [d1] at hc0 hc1 ⊢
  have hr1 : 0 < r := by
    rcases Int.lt_or_eq_of_le hr with h | h
    · exact h
    · subst h
      simp [hold] at hc0
  have hk : 0 < hold r ∧ hold r ≤ r := by
    rcases hold_cases r with h | h <;> omega
  have hd : 0 < u - f := by
    rcases Int.lt_or_eq_of_le (show 0 ≤ u - f by omega) with h | h
    · exact h
    · rw [← h] at hc0
      simp [hold] at hc0
  have hp : (u - f) * hold r < 4611686018427387903 := by
    have := hold_lt hc1
    omega
  have hrr : hold r = r := by
    have h3 : 1 * hold r ≤ (u - f) * hold r := Int.mul_le_mul_of_nonneg_right (by omega) (by omega)
    exact hold_lt (by omega)
  rw [hrr] at hc0 hc1 hp ⊢
  rw [hold_id (show (u - f) * r ≤ 4611686018427387903 by omega)] at hc0 ⊢
  have e0 : ((u - f) * r) % r = 0 := Int.mul_emod_left _ _
  have e1 : ((u - f) * r) / r = u - f := Int.mul_ediv_cancel _ (by omega)
  unfold overT
  constructor
  · rw [if_neg (by omega), if_neg (by omega), if_neg (by omega), e0, e1, if_neg (by omega)]
    unfold addT
    rw [hold_id (show f ≤ _ by omega), d1, hold_id (by omega)]
    omega
  · intro hu
    rw [if_neg (by omega), if_neg (by omega), if_neg (by omega)]
    have e2 : (if 0 < ((u - f) * r + 1) % r then ((u - f) * r + 1) / r + 1 else ((u - f) * r + 1) / r) = u - f + 1 := by
      by_cases hone : r = 1
      · subst hone
        simp
      · have h5 : ((u - f) * r + 1) % r = 1 := by
          rw [Int.add_comm, Int.add_mul_emod_self_right]
          exact Int.emod_eq_of_lt (by omega) (by omega)
        have h6 : ((u - f) * r + 1) / r = u - f := by
          rw [Int.add_comm, Int.add_mul_ediv_right _ _ (by omega), Int.ediv_eq_zero_of_lt (by omega) (by omega)]
          omega
        rw [h5, h6, if_pos (by omega)]
    rw [e2]
    unfold addT
    rw [hold_id (show f ≤ _ by omega), hold_id (show u - f + 1 ≤ _ by omega), hold_id (by omega)]
    omega

theorem carT_lo (f u r : Int) (hr : 0 ≤ r) : 0 ≤ carT f u r := by
  unfold carT
  split
  · rename_i h
    have := rightT_iff h
    exact hold_lo (Int.mul_nonneg (hold_lo (by omega)) (hold_lo hr))
  · omega

theorem over_call (f a r o : Int) (hf : W64 f) (ha : W64 a) (hr : W64 r) (e : overT f a r = o) (w : World) :
    Calls Try.prog 26 #[.int .u64 f, .int .u64 a, .int .u64 r] w fun e w' => e = .returned (.int .u64 o) ∧ Below w.heap.size w w' := by
  rw [← e]
  exact over_any f a r w hf ha hr

/-- What is to be asked of what a span carries. -/
def CarCases (f u r c : Int) : Prop :=
  c = 0 ∨ (f < u ∧ 4611686018427387903 ≤ c) ∨
  (f < u ∧ 0 < c ∧ c < 4611686018427387903 ∧ 4611686018427387903 ≤ u ∧ ∃ o1, o1 ≤ u ∧ ∀ w, Calls Try.prog 26 #[.int .u64 f, .int .u64 c, .int .u64 r] w fun e w' => e = .returned (.int .u64 o1) ∧ Below w.heap.size w w') ∨
  (f < u ∧ 0 < c ∧ c < 4611686018427387903 ∧ u < 4611686018427387903 ∧ ∃ o1 o2, o1 ≤ u ∧ u < o2 ∧ (∀ w, Calls Try.prog 26 #[.int .u64 f, .int .u64 c, .int .u64 r] w fun e w' => e = .returned (.int .u64 o1) ∧ Below w.heap.size w w') ∧
    ∀ w, Calls Try.prog 26 #[.int .u64 f, .int .u64 (c + 1), .int .u64 r] w fun e w' => e = .returned (.int .u64 o2) ∧ Below w.heap.size w w')

theorem car_cases (f u r : Int) (hf : W64 f) (hr : W64 r) (hR : rightT f u = true) : CarCases f u r (carT f u r) := by
  have h0 := carT_lo f u r hr.1
  rcases Int.lt_or_eq_of_le h0 with h1 | h1
  · have hfu : f < u := by
      have h2 := rightT_iff hR
      rcases Int.lt_or_eq_of_le h2.1 with h3 | h3
      · exact h3
      · unfold carT mulT at h1
        rw [if_pos hR, h3] at h1
        simp [hold] at h1
    by_cases h3 : 4611686018427387903 ≤ carT f u r
    · exact .inr (.inl ⟨hfu, h3⟩)
    · have h4 := car_over f u r hf.1 hr.1 hR h1 (by omega)
      have w1 : W64 (carT f u r) := ⟨h0, by omega⟩
      have w2 : W64 (carT f u r + 1) := ⟨by omega, by omega⟩
      by_cases h5 : 4611686018427387903 ≤ u
      · exact .inr (.inr (.inl ⟨hfu, h1, by omega, h5, _, h4.1, fun w => over_call f _ r _ hf w1 hr rfl w⟩))
      · exact .inr (.inr (.inr ⟨hfu, h1, by omega, by omega, _, _, h4.1, h4.2 (by omega), fun w => over_call f _ r _ hf w1 hr rfl w, fun w => over_call f _ r _ hf w2 hr rfl w⟩))
  · exact .inl h1.symm

theorem both_self (f u : Int) (h : rightT f u = true) : bothA f u f u = if f < u then .tuple #[.agg #[.int .u64 f, .int .u64 u], .bool true] else .tuple #[.agg #[.int .u64 0, .int .u64 0], .bool false] := by
  have e : bothB f u f u = decide (f < u) := by simp [bothB, h, maxI, minI]
  by_cases hlt : f < u
  · rw [if_pos hlt, bothA_yes (by rw [e]; simpa using hlt)]
    simp [maxI, minI]
  · rw [if_neg hlt, bothA_no (by rw [e]; simpa using hlt)]

theorem in_from (f u : Int) (h : rightT f u = true) : inT f u f = decide (f < u) := by simp [inT, h]
theorem in_until (f u : Int) : inT f u u = false := by simp [inT]

end Go.Proofs.Ytjcdmmlnmhkggaa
