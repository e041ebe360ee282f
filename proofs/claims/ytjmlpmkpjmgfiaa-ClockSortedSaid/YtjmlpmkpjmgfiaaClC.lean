/- Package clock and its document's answers: products, when an amount is over, which numbers are times. -/
import Derived.Test.YtjmlpmkpjmgfiaaClB
namespace Go.Proofs.Ytjmlpmkpjmgfiaa
open Go.RowKit Go.Shelf

theorem mask32 (a : Nat) (ha : a < 18446744073709551616) : bits .and .u64 (a : Int) 4294967295 = ((a % 4294967296 : Nat) : Int) := by
  have h := bits_and_u64_nat a 4294967295 ha (by omega)
  have e : a &&& 4294967295 = a % 4294967296 := Nat.and_two_pow_sub_one_eq_mod a 32
  rw [e] at h
  exact h
theorem div32 (a : Nat) : (a : Int) / 4294967296 = ((a / 4294967296 : Nat) : Int) := by omega
theorem mulNat (a b : Nat) : (a : Int) * (b : Int) = ((a * b : Nat) : Int) := (Int.natCast_mul a b).symm
theorem addNat (a b : Nat) : (a : Int) + (b : Int) = ((a + b : Nat) : Int) := (Int.natCast_add a b).symm
theorem wrapNat (a : Nat) (ha : a < 18446744073709551616) : IntKind.u64.wrap (a : Int) = (a : Int) := by rw [IntKind.wrap_u64]; omega
theorem wrapMod (a : Nat) : IntKind.u64.wrap (a : Int) = ((a % 18446744073709551616 : Nat) : Int) := by rw [IntKind.wrap_u64]; omega

set_option maxHeartbeats 2000000 in
theorem mul64_nat (x y : Nat) (hx : x < 18446744073709551616) (hy : y < 18446744073709551616) (w : World) :
    Calls Try.prog 25 #[.int .u64 x, .int .u64 y] w fun e w' => e = .returned (.tuple #[.int .u64 ((x * y / 18446744073709551616 : Nat) : Int), .int .u64 ((x * y % 18446744073709551616 : Nat) : Int)]) ∧ w = w' := by
  obtain ⟨bd, bt, bw, hhi⟩ := Lib.mul64_hi x y hx hy
  have ba := Lib.half_mul_le (a := x / 4294967296) (b := y / 4294967296) (by omega) (by omega)
  have bb := Lib.half_mul_le (a := x / 4294967296) (b := y % 4294967296) (by omega) (by omega)
  have bc := Lib.half_mul_le (a := x % 4294967296) (b := y / 4294967296) (by omega) (by omega)
  have ba' : x / 4294967296 * (y / 4294967296) < 18446744073709551616 := by omega
  have bb' : x / 4294967296 * (y % 4294967296) < 18446744073709551616 := by omega
  have bc' : x % 4294967296 * (y / 4294967296) < 18446744073709551616 := by omega
  have bh1 : x / 4294967296 * (y / 4294967296) + (x / 4294967296 * (y % 4294967296) + x % 4294967296 * (y % 4294967296) / 4294967296) / 4294967296 < 18446744073709551616 := by omega
  have bh : x / 4294967296 * (y / 4294967296) + (x / 4294967296 * (y % 4294967296) + x % 4294967296 * (y % 4294967296) / 4294967296) / 4294967296 + ((x / 4294967296 * (y % 4294967296) + x % 4294967296 * (y % 4294967296) / 4294967296) % 4294967296 + x % 4294967296 * (y / 4294967296)) / 4294967296 < 18446744073709551616 := by omega
  have HH := Lib.hid hhi
  clear hhi
  go_enter Try.func25, Try.ntmps25
  go_wp2
  simp only [mask32 x hx, mask32 y hy, div32, mulNat, addNat, wrapNat _ bd, wrapNat _ bb', wrapNat _ bt, mask32 _ bt, wrapNat _ bc', wrapNat _ bw, wrapNat _ ba', wrapNat _ bh1, wrapNat _ bh, wrapMod (x * y)]
  rw [HH.out]
  go_ret2
  exact ⟨rfl, rfl⟩

theorem mul64_any (x y : Int) (w : World) (hx : W64 x) (hy : W64 y) :
    Calls Try.prog 25 #[.int .u64 x, .int .u64 y] w fun e w' => e = .returned (.tuple #[.int .u64 (x * y / 18446744073709551616), .int .u64 (x * y % 18446744073709551616)]) ∧ w = w' := by
  unfold W64 at hx hy
  obtain ⟨a, rfl⟩ : ∃ a : Nat, x = (a : Int) := ⟨x.toNat, by omega⟩
  obtain ⟨b, rfl⟩ : ∃ b : Nat, y = (b : Int) := ⟨y.toNat, by omega⟩
  refine (mul64_nat a b (by omega) (by omega) w).mono ?_
  rintro e w' ⟨he, hw⟩
  refine ⟨?_, hw⟩
  rw [he, mulNat a b]
  rfl

theorem hold_nn (a b : Int) (ha : 0 ≤ a) (hb : 0 ≤ b) : 0 ≤ hold a * hold b := Int.mul_nonneg (hold_lo ha) (hold_lo hb)

theorem hold_hold (n : Int) : hold (hold n) = hold n := hold_id (hold_hi n)

set_option maxHeartbeats 1000000 in
theorem mul_any (a b : Int) (w : World) (ha : 0 ≤ a) (hb : 0 ≤ b) :
    Calls Try.prog 10 #[.int .u64 a, .int .u64 b] w fun e w' => e = .returned (.int .u64 (mulT a b)) ∧ w = w' := by
  have h0 := hold_nn a b ha hb
  have HA := Lib.hid (hold_w ha)
  have HB := Lib.hid (hold_w hb)
  have hm : ∀ w, Calls Try.prog 25 #[.int .u64 (hold a), .int .u64 (hold b)] w fun e w' => e = .returned (.tuple #[.int .u64 (hold a * hold b / 18446744073709551616), .int .u64 (hold a * hold b % 18446744073709551616)]) ∧ w = w' := fun w => mul64_any _ _ w HA.out HB.out
  unfold mulT
  generalize hp : hold a * hold b = p at hm h0 ⊢
  clear hp HA HB
  by_cases h : 18446744073709551616 ≤ p
  · have h1 : 0 < p / 18446744073709551616 := by omega
    generalize hq : p / 18446744073709551616 = q at hm h1
    generalize hr : p % 18446744073709551616 = r at hm
    have HM := Lib.hid hm
    have e1 := Lib.hid (hold_top (n := p) (by omega))
    clear hm hq hr h h0
    go_enter Try.func10, Try.ntmps10
    go_wp2_with (first | (go_at_call 26; refine (held_any _ _).mono ?_; rintro e w' ⟨rfl, rfl⟩) | (go_at_call 25; refine (HM.out _).mono ?_; rintro e w' ⟨rfl, rfl⟩))
    go_ret
    exact ⟨ret_u64 e1.out.symm, rfl⟩
  · have h1 : p / 18446744073709551616 = 0 := by omega
    have h2 : p % 18446744073709551616 = p := by omega
    rw [h1, h2] at hm
    have HM := Lib.hid hm
    clear hm h1 h2 h
    go_enter Try.func10, Try.ntmps10
    go_wp2_with (first | (go_at_call 26; refine (held_any _ _).mono ?_; rintro e w' ⟨rfl, rfl⟩) | (go_at_call 25; refine (HM.out _).mono ?_; rintro e w' ⟨rfl, rfl⟩))
    go_ret
    exact ⟨rfl, rfl⟩

/-- How many ticks. -/
def needT (a r : Int) : Int := if 0 < a % r then a / r + 1 else a / r

theorem needT_bd (a r : Int) (ha : W64 a) (hr : 0 < r) : W64 (needT a r) := by
  unfold W64 needT at *
  have h1 : 0 ≤ a / r := Int.ediv_nonneg ha.1 (by omega)
  have h2 : a / r ≤ a := Int.ediv_le_self _ ha.1
  split
  · rename_i h
    have h3 : a / r ≠ a ∨ a / r ≠ 18446744073709551615 := by
      by_cases e : r = 1
      · subst e
        simp at h
      · have := Int.mul_ediv_add_emod a r
        by_cases e0 : a / r = a
        · rw [e0] at this
          have h4 : 2 * a ≤ r * a := Int.mul_le_mul_of_nonneg_right (by omega) ha.1
          omega
        · exact .inl e0
    rcases h3 with h3 | h3 <;> omega
  · omega

set_option maxHeartbeats 1000000 in
theorem needed_any (a r : Int) (w : World) (ha : W64 a) (hr : 0 < r) :
    Calls Try.prog 28 #[.int .u64 a, .int .u64 r] w fun e w' => e = .returned (.int .u64 (needT a r)) ∧ w = w' := by
  have hb := needT_bd a r ha hr
  unfold W64 at ha hb
  obtain ⟨h0, h9⟩ := ha
  obtain ⟨b0, b9⟩ := hb
  have h1 : 0 ≤ a / r := Int.ediv_nonneg h0 (by omega)
  have h2 : a / r ≤ a := Int.ediv_le_self _ h0
  have h3 : 0 ≤ a % r := Int.emod_nonneg _ (by omega)
  unfold needT at b0 b9 ⊢
  by_cases h : 0 < a % r
  · rw [if_pos h] at b0 b9 ⊢
    go_enter Try.func28, Try.ntmps28
    go_wp2
    go_ret
    exact ⟨rfl, rfl⟩
  · rw [if_neg h]
    rw [if_neg h] at b0 b9
    go_enter Try.func28, Try.ntmps28
    go_wp2
    go_ret
    exact ⟨rfl, rfl⟩

end Go.Proofs.Ytjmlpmkpjmgfiaa
