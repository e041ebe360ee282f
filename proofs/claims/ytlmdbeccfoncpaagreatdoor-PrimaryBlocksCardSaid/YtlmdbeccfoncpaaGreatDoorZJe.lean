/- Joined texts. -/
import Derived.Test.YtlmdbeccfoncpaaGreatDoorZJa
import Derived.Lib.Mul64
import Derived.Laws.Bits64b
import Derived.Deep.RegionWith
import Derived.Deep.RegionHeld3
import Derived.Deep.QuietTactic
import Derived.BigQuiet
namespace Go.Proofs.YtlmdbeccfoncpaaGreatDoor
open Go.RowKit Go.Shelf

/-- A number as a time. -/
def hold (n : Int) : Int := if 4611686018427387903 < n then 4611686018427387903 else n

/-- Is it a time? -/
def isT (n : Int) : Bool := decide (n ≤ 4611686018427387903)

/-- A number of 64 bits. -/
def W64 (n : Int) : Prop := 0 ≤ n ∧ n ≤ 18446744073709551615

theorem hold_lo {n : Int} (h : 0 ≤ n) : 0 ≤ hold n := by unfold hold; split <;> omega
theorem hold_hi (n : Int) : hold n ≤ 4611686018427387903 := by unfold hold; split <;> omega
theorem hold_id {n : Int} (h : n ≤ 4611686018427387903) : hold n = n := by unfold hold; rw [if_neg (by omega)]
theorem hold_top {n : Int} (h : 4611686018427387903 ≤ n) : hold n = 4611686018427387903 := by unfold hold; split <;> omega
theorem hold_w {n : Int} (h : 0 ≤ n) : W64 (hold n) := by
  have := hold_hi n
  exact ⟨hold_lo h, by omega⟩

/-- A sum. -/
def addT (a b : Int) : Int := hold (hold a + hold b)
/-- A difference. -/
def subT (a b : Int) : Int := if 4611686018427387903 ≤ a then 4611686018427387903 else if b < a then a - b else 0
/-- A product. -/
def mulT (a b : Int) : Int := hold (hold a * hold b)
/-- When an amount is over. -/
def overT (f a r : Int) : Int := if 4611686018427387903 < f then 4611686018427387903 else if a = 0 then f else if r = 0 then 4611686018427387903 else addT f (if 0 < a % r then a / r + 1 else a / r)

theorem ret_u64 {a b : Int} (h : a = b) : Ending.returned (.int .u64 a) = .returned (.int .u64 b) := by rw [h]

set_option maxHeartbeats 400000 in
theorem isTime_any (n : Int) (w : World) :
    Calls Tryz.prog 95 #[.int .u64 n] w fun e w' => e = .returned (.bool (isT n)) ∧ w = w' := by
  go_enter Tryz.func95, Tryz.ntmps95
  go_wp2
  go_ret
  exact ⟨rfl, rfl⟩

set_option maxHeartbeats 400000 in
theorem held_any (n : Int) (w : World) :
    Calls Tryz.prog 105 #[.int .u64 n] w fun e w' => e = .returned (.int .u64 (hold n)) ∧ w = w' := by
  unfold hold
  go_enter Tryz.func105, Tryz.ntmps105
  go_wp2
  all_goals
    go_ret
    exact ⟨rfl, rfl⟩

set_option maxHeartbeats 400000 in
theorem top_any (n : Int) (w : World) :
    Calls Tryz.prog 75 #[.int .u64 n] w fun e w' => e = .returned (.int .u64 (hold n)) ∧ w = w' := by
  unfold hold
  go_enter Tryz.func75, Tryz.ntmps75
  go_wp2
  all_goals
    go_ret
    exact ⟨rfl, rfl⟩

set_option maxHeartbeats 400000 in
theorem refAdd_any (a b : Int) (w : World) (ha : 0 ≤ a) (hb : 0 ≤ b) :
    Calls Tryz.prog 47 #[.int .u64 a, .int .u64 b] w fun e w' => e = .returned (.int .u64 (addT a b)) ∧ w = w' := by
  have a1 := hold_lo ha
  have a2 := hold_hi a
  have b1 := hold_lo hb
  have b2 := hold_hi b
  go_enter Tryz.func47, Tryz.ntmps47
  go_wp2_with (go_at_call 75; refine (top_any _ _).mono ?_; rintro e w' ⟨rfl, rfl⟩)
  go_ret
  exact ⟨rfl, rfl⟩

/-- One number more in a sum. -/
def sumStep (s n : Int) : Int := hold (s + hold n)

theorem sumStep_lo {s n : Int} (h : 0 ≤ s) (k : 0 ≤ n) : 0 ≤ sumStep s n := hold_lo (by have := hold_lo k; omega)
theorem sumStep_hi (s n : Int) : sumStep s n ≤ 4611686018427387903 := hold_hi _

set_option maxHeartbeats 1000000 in
theorem sumC_any (n s : Int) (p : Addr) (w : World) (hn : 0 ≤ n) (hs0 : 0 ≤ s) (hs1 : s ≤ 4611686018427387903) (hc : w.cell? p = some (.int .u64 s)) (hf : w.frozen? p = false) :
    Calls Tryz.prog 104 #[.int .u64 n, .pointer (some p)] w fun e w' => e = .returned (.tuple #[]) ∧ w' = (w.setCell p (.int .u64 (sumStep s n))).drew := by
  have a1 := hold_lo hn
  have a2 := hold_hi n
  go_enter Tryz.func104, Tryz.ntmps104
  go_wp2
  go_region_with (go_at_call 105; refine (held_any _ _).mono ?_; rintro e w' ⟨rfl, rfl⟩)
  all_goals
    have hw : IntKind.u64.wrap (s + hold n) = s + hold n := by rw [IntKind.wrap_u64]; omega
    rw [hw]
    go_wp2
    go_end0
    exact ⟨rfl, rfl⟩

end Go.Proofs.YtlmdbeccfoncpaaGreatDoor

namespace Go.Proofs.YtlmdbeccfoncpaaGreatDoor
open Go.RowKit Go.Shelf

/-- A slice at a reads as these numbers of 64 bits. -/
def RdU (w : World) (B : Nat) (a : Option Addr) (zs : List Int) : Prop :=
  zs = [] ∨ ∃ b o, a = some ⟨b, o, none⟩ ∧ b < B ∧ ∀ j, j < zs.length → w.cell? ⟨b, o + j, none⟩ = some (.int .u64 (zs[j]?.getD 0))

theorem RdU.below {w w' : World} {B : Nat} {a : Option Addr} {zs : List Int} (h : RdU w B a zs) (hb : Below B w w') : RdU w' B a zs := by
  rcases h with h | ⟨b, o, e, hlt, hc⟩
  · exact .inl h
  · exact .inr ⟨b, o, e, hlt, fun j hj => (hb.cell (p := ⟨b, o + j, none⟩) hlt).trans (hc j hj)⟩

theorem RdU.mono {w : World} {B B' : Nat} {a : Option Addr} {zs : List Int} (h : RdU w B a zs) (hB : B ≤ B') : RdU w B' a zs := by
  rcases h with h | ⟨b, o, e, hlt, hc⟩
  · exact .inl h
  · exact .inr ⟨b, o, e, by omega, hc⟩

/-- Two numbers of a literal. -/
theorem rdU_two (w : World) (x y : Int) : RdU (w.alloc (.cells #[.int .u64 x, .int .u64 y] 26)) (w.heap.size + 1) (some ⟨w.heap.size, 0, none⟩) [x, y] := by
  refine .inr ⟨w.heap.size, 0, rfl, by omega, fun j hj => ?_⟩
  have : j = 0 ∨ j = 1 := by simp at hj; omega
  rcases this with rfl | rfl
  · simp
  · simp

/-- The sum of the first k. -/
def csumN (zs : List Int) : Nat → Int
  | 0 => 0
  | k + 1 => sumStep (csumN zs k) (zs[k]?.getD 0)

theorem sumN_bd (zs : List Int) (hz : ∀ j, j < zs.length → 0 ≤ zs[j]?.getD 0) : ∀ k, k ≤ zs.length → 0 ≤ csumN zs k ∧ csumN zs k ≤ 4611686018427387903
  | 0, _ => by simp [csumN]
  | k + 1, h => by
    have := sumN_bd zs hz k (by omega)
    exact ⟨sumStep_lo this.1 (hz k (by omega)), sumStep_hi _ _⟩

set_option maxRecDepth 100000 in
set_option maxHeartbeats 1000000 in
theorem sum_any (a : Option Addr) (c : Nat) (zs : List Int) (w : World) (hlen : zs.length ≤ 140737488355328) (hz : ∀ j, j < zs.length → 0 ≤ zs[j]?.getD 0) (hr : RdU w w.heap.size a zs) :
    Calls Tryz.prog 74 #[.slice a zs.length c] w fun e w' => e = .returned (.int .u64 (csumN zs zs.length)) ∧ Below w.heap.size w w' := by
  have hmf : ∀ (fn : Fn) (first cap : Array Value) (w : World), (Instr.makeFunc fn first cap).run Tryz.prog w = .ok (.func fn first cap) w := fun _ _ _ _ => rfl
  have HZ := Lib.hid hz
  have HB := Lib.hid (sumN_bd zs hz)
  clear hz
  go_enter Tryz.func74, Tryz.ntmps74
  go_wp2
  go_loopw [10] (fun i wr => ∃ k : Nat, k ≤ zs.length ∧ i = .int .i64 k ∧ Boxed wr w.heap.size 26 (.int .u64 (csumN zs k)) ∧ Below w.heap.size w wr) (fun i _ => zs.length - (intOf i).toNat)
  case atStart => exact ⟨0, Nat.zero_le _, rfl, Boxed.new w _ _, (Below.refl _ _).alloc (Nat.le_refl _) _⟩
  case round =>
    obtain ⟨k, hk, rfl, hbx, hbw⟩ := hrel
    have hcx := hbx.cell
    have hfx := hbx.frozen
    have HX := Lib.hid hbx
    clear hbx
    by_cases hlt : k < zs.length
    · have hzw := hr.below hbw
      rcases hzw with rfl | ⟨g, o, rfl, hg, hcs⟩
      · simp at hlt
      have hck := hcs k hlt
      clear hcs
      have hz0 := HZ.out k hlt
      obtain ⟨t, ht⟩ : ∃ t, t = zs[k]?.getD 0 := ⟨_, rfl⟩
      rw [← ht] at hck hz0
      have HT := Lib.hid ht
      obtain ⟨s, hs⟩ : ∃ s, s = csumN zs k := ⟨_, rfl⟩
      have hb0 := HB.out k hk
      rw [← hs] at hcx hb0
      have HS := Lib.hid hs
      clear ht hs
      go_wp2_with fail
      refine (sumC_any t s _ _ hz0 hb0.1 hb0.2 hcx hfx).mono ?_
      rintro e w1 ⟨rfl, rfl⟩
      go_wp2
      go_roundw
      case rel =>
        refine ⟨k + 1, by omega, by go_num, ?_, (hbw.setCell (p := ⟨w.heap.size, 0, none⟩) (Nat.le_refl _) _).drew⟩
        have e1 : csumN zs (k + 1) = sumStep s t := by rw [HS.out, HT.out]; rfl
        rw [e1]
        exact HX.out.set _
      case measure => simp [intOf]; omega
    · obtain rfl : k = zs.length := by omega
      go_wp2
      go_ret
      exact ⟨rfl, hbw⟩

theorem sumN_two (a b : Int) (ha : 0 ≤ a) : csumN [a, b] 2 = addT a b := by
  have h0 := hold_lo ha
  have h1 := hold_hi a
  show hold (hold (0 + hold a) + hold b) = hold (hold a + hold b)
  rw [Int.zero_add, hold_id h1]

set_option maxHeartbeats 1000000 in
theorem add_any (a b : Int) (w : World) (ha : 0 ≤ a) (hb : 0 ≤ b) :
    Calls Tryz.prog 46 #[.int .u64 a, .int .u64 b] w fun e w' => e = .returned (.int .u64 (addT a b)) ∧ Below w.heap.size w w' := by
  have H := Lib.hid (sum_any (some ⟨w.heap.size, 0, none⟩) 2 [a, b] (w.alloc (.cells #[.int .u64 a, .int .u64 b] 26)) (by simp) (fun j hj => by
    have : j = 0 ∨ j = 1 := by simp at hj; omega
    rcases this with rfl | rfl
    · exact ha
    · exact hb) (by rw [World.size_alloc]; exact rdU_two w a b))
  have HA := Lib.hid ha
  clear ha hb
  go_enter Tryz.func46, Tryz.ntmps46
  go_wp2_with fail
  refine H.out.mono ?_
  rintro e w1 ⟨rfl, hb⟩
  go_wp2
  go_ret
  exact ⟨ret_u64 (sumN_two a b HA.out), ((Below.refl _ _).alloc (Nat.le_refl _) _).trans (hb.mono (by simp))⟩

end Go.Proofs.YtlmdbeccfoncpaaGreatDoor

namespace Go.Proofs.YtlmdbeccfoncpaaGreatDoor
open Go.RowKit Go.Shelf

theorem mask32 (a : Nat) (ha : a < 18446744073709551616) : bits .and .u64 (a : Int) 4294967295 = ((a % 4294967296 : Nat) : Int) := by
  have h := bits_and_u64_nat a 4294967295 ha (by omega)
  have e : a &&& 4294967295 = a % 4294967296 := Nat.and_two_pow_sub_one_eq_mod a 32
  rw [e] at h
  exact h
theorem div32 (a : Nat) : (a : Int) / 4294967296 = ((a / 4294967296 : Nat) : Int) := by omega
theorem mulNat (a b : Nat) : (a : Int) * (b : Int) = ((a * b : Nat) : Int) := (Int.natCast_mul a b).symm
theorem addNat (a b : Nat) : (a : Int) + (b : Int) = ((a + b : Nat) : Int) := (Int.natCast_add a b).symm
theorem wrapNat (a : Nat) (ha : a < 18446744073709551616) : IntKind.u64.wrap (a : Int) = (a : Int) := by rw [IntKind.wrap_u64]; omega
theorem wrapMod (a : Nat) : IntKind.u64.wrap (a : Int) = ((a % 18446744073709551616 : Nat) : Int) := by rw [IntKind.wrap_u64]; omega

theorem hold_nn (a b : Int) (ha : 0 ≤ a) (hb : 0 ≤ b) : 0 ≤ hold a * hold b := Int.mul_nonneg (hold_lo ha) (hold_lo hb)

theorem hold_hold (n : Int) : hold (hold n) = hold n := hold_id (hold_hi n)

/-- How many ticks. -/
def needT (a r : Int) : Int := if 0 < a % r then a / r + 1 else a / r

theorem needT_bd (a r : Int) (ha : W64 a) (hr : 0 < r) : W64 (needT a r) := by
  unfold W64 needT at *
  have h1 : 0 ≤ a / r := Int.ediv_nonneg ha.1 (by omega)
  have h2 : a / r ≤ a := Int.ediv_le_self _ ha.1
  split
  · rename_i h
    have h3 : a / r ≠ a ∨ a / r ≠ 18446744073709551615 := by
      by_cases e : r = 1
      · subst e
        simp at h
      · have := Int.mul_ediv_add_emod a r
        by_cases e0 : a / r = a
        · rw [e0] at this
          have h4 : 2 * a ≤ r * a := Int.mul_le_mul_of_nonneg_right (by omega) ha.1
          omega
        · exact .inl e0
    rcases h3 with h3 | h3 <;> omega
  · omega

end Go.Proofs.YtlmdbeccfoncpaaGreatDoor

namespace Go.Proofs.YtlmdbeccfoncpaaGreatDoor
open Go.RowKit Go.Shelf

/-- Are the first k times? -/
def allT (zs : List Int) (k : Nat) : Prop := ∀ j, j < k → isT (zs[j]?.getD 0) = true

/-- What 'within' answers. -/
def WithinP (zs : List Int) (w : World) (e : Ending) (w' : World) : Prop :=
  ((e = .returned (.bool true) ∧ allT zs zs.length) ∨ (e = .returned (.bool false) ∧ ¬ allT zs zs.length)) ∧ w = w'

set_option maxRecDepth 100000 in
set_option maxHeartbeats 1000000 in
theorem withinT_any (a : Option Addr) (c B : Nat) (zs : List Int) (w : World) (hlen : zs.length ≤ 140737488355328) (hr : RdU w B a zs) :
    Calls Tryz.prog 94 #[.func (.func 95) #[] #[], .slice a zs.length c] w (WithinP zs w) := by
  have HR := Lib.hid hr
  clear hr
  go_enter Tryz.func94, Tryz.ntmps94
  go_wp2
  go_loop [9] (fun i => ∃ k : Nat, k ≤ zs.length ∧ i = .int .i64 k ∧ Hid (allT zs k)) (fun i => zs.length - (intOf i).toNat)
  case atStart => exact ⟨0, Nat.zero_le _, rfl, fun j hj => absurd hj (Nat.not_lt_zero j)⟩
  case round =>
    obtain ⟨k, hk, rfl, HA⟩ := hrel
    by_cases hlt : k < zs.length
    · rcases HR.out with rfl | ⟨g, o, rfl, hg, hcs⟩
      · simp at hlt
      have hck := hcs k hlt
      clear hcs
      obtain ⟨t, ht⟩ : ∃ t, t = zs[k]?.getD 0 := ⟨_, rfl⟩
      rw [← ht] at hck
      have HT := Lib.hid ht
      clear ht
      cases hq : isT t
      · go_wp2_with (go_at_call 95; refine (isTime_any _ _).mono ?_; rintro e w' ⟨rfl, rfl⟩)
        go_ret
        exact ⟨.inr ⟨rfl, fun h => by have := h k hlt; rw [← HT.out, hq] at this; cases this⟩, rfl⟩
      · go_wp2_with (go_at_call 95; refine (isTime_any _ _).mono ?_; rintro e w' ⟨rfl, rfl⟩)
        go_round
        case rel =>
          refine ⟨k + 1, by omega, by go_num, fun j hj => ?_⟩
          by_cases e : j = k
          · subst e
            rw [← HT.out]
            exact hq
          · exact HA.out j (by omega)
        case measure => simp [intOf]; omega
    · obtain rfl : k = zs.length := by omega
      go_wp2
      go_ret
      exact ⟨.inl ⟨rfl, HA.out⟩, rfl⟩

/-- What Check answers. -/
def chkT (b : Bool) : Int := if b then 0 else 2

set_option maxHeartbeats 1000000 in
theorem check_two (a b : Int) (w : World) :
    Calls Tryz.prog 59 #[.slice (some ⟨w.heap.size, 0, none⟩) 2 2] (w.alloc (.cells #[.int .u64 a, .int .u64 b] 26)) fun e w' => e = .returned (.int .i64 (chkT (isT a && isT b))) ∧ w.alloc (.cells #[.int .u64 a, .int .u64 b] 26) = w' := by
  have H := Lib.hid (withinT_any (some ⟨w.heap.size, 0, none⟩) 2 (w.heap.size + 1) [a, b] (w.alloc (.cells #[.int .u64 a, .int .u64 b] 26)) (by simp) (rdU_two w a b))
  have hv : allT [a, b] 2 ↔ (isT a && isT b) = true := by
    rw [Bool.and_eq_true]
    constructor
    · intro h
      exact ⟨h 0 (by omega), h 1 (by omega)⟩
    · rintro ⟨h0, h1⟩ j hj
      have : j = 0 ∨ j = 1 := by omega
      rcases this with rfl | rfl
      · exact h0
      · exact h1
  cases hq : (isT a && isT b)
  · rw [hq] at hv
    have HV := Lib.hid hv
    clear hv hq
    generalize w.alloc (.cells #[.int .u64 a, .int .u64 b] 26) = W at H ⊢
    go_enter Tryz.func59, Tryz.ntmps59
    go_wp2
    refine wp_scope_on 0 rfl ?_
    go_wp2_with fail
    refine H.out.mono ?_
    rintro e w' ⟨⟨rfl, h⟩ | ⟨rfl, h⟩, rfl⟩
    · exact absurd (HV.out.1 h) (by simp)
    · clear h
      go_wp2
      go_step3
      refine ⟨rfl, ?_⟩
      show Code.wp _ _ _ _ _
      go_wp2
      rw [Exit.noGoto_ret]
      go_ret
      exact ⟨rfl, rfl⟩
  · rw [hq] at hv
    have HV := Lib.hid hv
    clear hv hq
    generalize w.alloc (.cells #[.int .u64 a, .int .u64 b] 26) = W at H ⊢
    go_enter Tryz.func59, Tryz.ntmps59
    go_wp2
    refine wp_scope_on 0 rfl ?_
    go_wp2_with fail
    refine H.out.mono ?_
    rintro e w' ⟨⟨rfl, h⟩ | ⟨rfl, h⟩, rfl⟩
    · clear h
      go_wp2
      simp only [Exit.jump]
      go_ret
      exact ⟨rfl, rfl⟩
    · exact absurd (HV.out.2 trivial) h

set_option maxHeartbeats 1000000 in
theorem check_none (w : World) :
    Calls Tryz.prog 59 #[.slice none 0 0] w fun e w' => e = .returned (.int .i64 0) ∧ w = w' := by
  have H := Lib.hid (withinT_any none 0 w.heap.size [] w (by simp) (.inl rfl))
  go_enter Tryz.func59, Tryz.ntmps59
  go_wp2
  refine wp_scope_on 0 rfl ?_
  go_wp2_with fail
  refine H.out.mono ?_
  rintro e w' ⟨⟨rfl, h⟩ | ⟨rfl, h⟩, rfl⟩
  · clear h
    go_wp2
    simp only [Exit.jump]
    go_ret
    exact ⟨rfl, rfl⟩
  · exact absurd (fun j hj => absurd hj (Nat.not_lt_zero j)) h

end Go.Proofs.YtlmdbeccfoncpaaGreatDoor
