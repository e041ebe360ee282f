/- Package clock and its document's answers: sums, differences, products, when an amount is over, which numbers are times. -/
import Derived.Test.YtjmlpmkpjmgfiaaBase
import Derived.Lib.Mul64
import Derived.Laws.Bits64b
import Derived.Deep.RegionWith
import Derived.Deep.RegionHeld3
import Derived.Deep.QuietTactic
import Derived.BigQuiet
namespace Go.Proofs.Ytjmlpmkpjmgfiaa
open Go.RowKit Go.Shelf

/-- A number as a time. -/
def hold (n : Int) : Int := if 4611686018427387903 < n then 4611686018427387903 else n

/-- Is it a time? -/
def isT (n : Int) : Bool := decide (n ≤ 4611686018427387903)

/-- A number of 64 bits. -/
def W64 (n : Int) : Prop := 0 ≤ n ∧ n ≤ 18446744073709551615

theorem hold_lo {n : Int} (h : 0 ≤ n) : 0 ≤ hold n := by unfold hold; split <;> omega
theorem hold_hi (n : Int) : hold n ≤ 4611686018427387903 := by unfold hold; split <;> omega
theorem hold_id {n : Int} (h : n ≤ 4611686018427387903) : hold n = n := by unfold hold; rw [if_neg (by omega)]
theorem hold_top {n : Int} (h : 4611686018427387903 ≤ n) : hold n = 4611686018427387903 := by unfold hold; split <;> omega
theorem hold_w {n : Int} (h : 0 ≤ n) : W64 (hold n) := by
  have := hold_hi n
  exact ⟨hold_lo h, by omega⟩

/-- A sum. -/
def addT (a b : Int) : Int := hold (hold a + hold b)
/-- A difference. -/
def subT (a b : Int) : Int := if 4611686018427387903 ≤ a then 4611686018427387903 else if b < a then a - b else 0
/-- A product. -/
def mulT (a b : Int) : Int := hold (hold a * hold b)
/-- When an amount is over. -/
def overT (f a r : Int) : Int := if 4611686018427387903 < f then 4611686018427387903 else if a = 0 then f else if r = 0 then 4611686018427387903 else addT f (if 0 < a % r then a / r + 1 else a / r)

theorem ret_u64 {a b : Int} (h : a = b) : Ending.returned (.int .u64 a) = .returned (.int .u64 b) := by rw [h]

set_option maxHeartbeats 400000 in
theorem isTime_any (n : Int) (w : World) :
    Calls Try.prog 27 #[.int .u64 n] w fun e w' => e = .returned (.bool (isT n)) ∧ w = w' := by
  go_enter Try.func27, Try.ntmps27
  go_wp2
  go_ret
  exact ⟨rfl, rfl⟩

set_option maxHeartbeats 400000 in
theorem held_any (n : Int) (w : World) :
    Calls Try.prog 26 #[.int .u64 n] w fun e w' => e = .returned (.int .u64 (hold n)) ∧ w = w' := by
  unfold hold
  go_enter Try.func26, Try.ntmps26
  go_wp2
  all_goals
    go_ret
    exact ⟨rfl, rfl⟩

set_option maxHeartbeats 400000 in
theorem sub_any (a b : Int) (w : World) (ha : 0 ≤ a) (hb : 0 ≤ b) (ha2 : a ≤ 18446744073709551615) :
    Calls Try.prog 9 #[.int .u64 a, .int .u64 b] w fun e w' => e = .returned (.int .u64 (subT a b)) ∧ w = w' := by
  unfold subT
  by_cases h1 : 4611686018427387903 ≤ a
  · rw [if_pos h1]
    go_enter Try.func9, Try.ntmps9
    go_wp2
    go_ret
    exact ⟨rfl, rfl⟩
  · rw [if_neg h1]
    by_cases h2 : b < a
    · rw [if_pos h2]
      go_enter Try.func9, Try.ntmps9
      go_wp2
      go_ret
      exact ⟨rfl, rfl⟩
    · rw [if_neg h2]
      go_enter Try.func9, Try.ntmps9
      go_wp2
      go_ret
      exact ⟨ret_u64 (by omega), rfl⟩

/-- One number more in a sum. -/
def sumStep (s n : Int) : Int := hold (s + hold n)

theorem sumStep_lo {s n : Int} (h : 0 ≤ s) (k : 0 ≤ n) : 0 ≤ sumStep s n := hold_lo (by have := hold_lo k; omega)
theorem sumStep_hi (s n : Int) : sumStep s n ≤ 4611686018427387903 := hold_hi _

set_option maxHeartbeats 1000000 in
theorem sumC_any (n s : Int) (p : Addr) (w : World) (hn : 0 ≤ n) (hs0 : 0 ≤ s) (hs1 : s ≤ 4611686018427387903) (hc : w.cell? p = some (.int .u64 s)) (hf : w.frozen? p = false) :
    Calls Try.prog 37 #[.int .u64 n, .pointer (some p)] w fun e w' => e = .returned (.tuple #[]) ∧ w' = (w.setCell p (.int .u64 (sumStep s n))).drew := by
  have a1 := hold_lo hn
  have a2 := hold_hi n
  go_enter Try.func37, Try.ntmps37
  go_wp2
  go_region_with (go_at_call 26; refine (held_any _ _).mono ?_; rintro e w' ⟨rfl, rfl⟩)
  all_goals
    have hw : IntKind.u64.wrap (s + hold n) = s + hold n := by rw [IntKind.wrap_u64]; omega
    rw [hw]
    go_wp2
    go_end0
    exact ⟨rfl, rfl⟩

end Go.Proofs.Ytjmlpmkpjmgfiaa
