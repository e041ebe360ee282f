/- Package clock: sums of lists of times, Add. -/
import Derived.Test.YtjmlpmkpjmgfiaaClA
import Derived.Test.YtjmlpmkpjmgfiaaRange
namespace Go.Proofs.Ytjmlpmkpjmgfiaa
open Go.RowKit Go.Shelf

/-- A slice at a reads as these numbers of 64 bits. -/
def RdU (w : World) (B : Nat) (a : Option Addr) (zs : List Int) : Prop :=
  zs = [] ∨ ∃ b o, a = some ⟨b, o, none⟩ ∧ b < B ∧ ∀ j, j < zs.length → w.cell? ⟨b, o + j, none⟩ = some (.int .u64 (zs[j]?.getD 0))

theorem RdU.below {w w' : World} {B : Nat} {a : Option Addr} {zs : List Int} (h : RdU w B a zs) (hb : Below B w w') : RdU w' B a zs := by
  rcases h with h | ⟨b, o, e, hlt, hc⟩
  · exact .inl h
  · exact .inr ⟨b, o, e, hlt, fun j hj => (hb.cell (p := ⟨b, o + j, none⟩) hlt).trans (hc j hj)⟩

theorem RdU.mono {w : World} {B B' : Nat} {a : Option Addr} {zs : List Int} (h : RdU w B a zs) (hB : B ≤ B') : RdU w B' a zs := by
  rcases h with h | ⟨b, o, e, hlt, hc⟩
  · exact .inl h
  · exact .inr ⟨b, o, e, by omega, hc⟩

/-- Two numbers of a literal. -/
theorem rdU_two (w : World) (x y : Int) : RdU (w.alloc (.cells #[.int .u64 x, .int .u64 y] 28)) (w.heap.size + 1) (some ⟨w.heap.size, 0, none⟩) [x, y] := by
  refine .inr ⟨w.heap.size, 0, rfl, by omega, fun j hj => ?_⟩
  have : j = 0 ∨ j = 1 := by simp at hj; omega
  rcases this with rfl | rfl
  · simp
  · simp

/-- The sum of the first k. -/
def sumN (zs : List Int) : Nat → Int
  | 0 => 0
  | k + 1 => sumStep (sumN zs k) (zs[k]?.getD 0)

theorem sumN_bd (zs : List Int) (hz : ∀ j, j < zs.length → 0 ≤ zs[j]?.getD 0) : ∀ k, k ≤ zs.length → 0 ≤ sumN zs k ∧ sumN zs k ≤ 4611686018427387903
  | 0, _ => by simp [sumN]
  | k + 1, h => by
    have := sumN_bd zs hz k (by omega)
    exact ⟨sumStep_lo this.1 (hz k (by omega)), sumStep_hi _ _⟩

set_option maxRecDepth 100000 in
set_option maxHeartbeats 1000000 in
theorem sum_any (a : Option Addr) (c : Nat) (zs : List Int) (w : World) (hlen : zs.length ≤ 140737488355328) (hz : ∀ j, j < zs.length → 0 ≤ zs[j]?.getD 0) (hr : RdU w w.heap.size a zs) :
    Calls Try.prog 24 #[.slice a zs.length c] w fun e w' => e = .returned (.int .u64 (sumN zs zs.length)) ∧ Below w.heap.size w w' := by
  have hmf : ∀ (fn : Fn) (first cap : Array Value) (w : World), (Instr.makeFunc fn first cap).run Try.prog w = .ok (.func fn first cap) w := fun _ _ _ _ => rfl
  have HZ := Lib.hid hz
  have HB := Lib.hid (sumN_bd zs hz)
  clear hz
  go_enter Try.func24, Try.ntmps24
  go_wp2
  go_loopw [10] (fun i wr => ∃ k : Nat, k ≤ zs.length ∧ i = .int .i64 k ∧ Boxed wr w.heap.size 28 (.int .u64 (sumN zs k)) ∧ Below w.heap.size w wr) (fun i _ => zs.length - (intOf i).toNat)
  case atStart => exact ⟨0, Nat.zero_le _, rfl, Boxed.new w _ _, (Below.refl _ _).alloc (Nat.le_refl _) _⟩
  case round =>
    obtain ⟨k, hk, rfl, hbx, hbw⟩ := hrel
    have hcx := hbx.cell
    have hfx := hbx.frozen
    have HX := Lib.hid hbx
    clear hbx
    by_cases hlt : k < zs.length
    · have hzw := hr.below hbw
      rcases hzw with rfl | ⟨g, o, rfl, hg, hcs⟩
      · simp at hlt
      have hck := hcs k hlt
      clear hcs
      have hz0 := HZ.out k hlt
      obtain ⟨t, ht⟩ : ∃ t, t = zs[k]?.getD 0 := ⟨_, rfl⟩
      rw [← ht] at hck hz0
      have HT := Lib.hid ht
      obtain ⟨s, hs⟩ : ∃ s, s = sumN zs k := ⟨_, rfl⟩
      have hb0 := HB.out k hk
      rw [← hs] at hcx hb0
      have HS := Lib.hid hs
      clear ht hs
      go_wp2_with fail
      refine (sumC_any t s _ _ hz0 hb0.1 hb0.2 hcx hfx).mono ?_
      rintro e w1 ⟨rfl, rfl⟩
      go_wp2
      go_roundw
      case rel =>
        refine ⟨k + 1, by omega, by go_num, ?_, (hbw.setCell (p := ⟨w.heap.size, 0, none⟩) (Nat.le_refl _) _).drew⟩
        have e1 : sumN zs (k + 1) = sumStep s t := by rw [HS.out, HT.out]; rfl
        rw [e1]
        exact HX.out.set _
      case measure => simp [intOf]; omega
    · obtain rfl : k = zs.length := by omega
      go_wp2
      go_ret
      exact ⟨rfl, hbw⟩

theorem sumN_two (a b : Int) (ha : 0 ≤ a) : sumN [a, b] 2 = addT a b := by
  have h0 := hold_lo ha
  have h1 := hold_hi a
  show hold (hold (0 + hold a) + hold b) = hold (hold a + hold b)
  rw [Int.zero_add, hold_id h1]

set_option maxHeartbeats 1000000 in
theorem add_any (a b : Int) (w : World) (ha : 0 ≤ a) (hb : 0 ≤ b) :
    Calls Try.prog 8 #[.int .u64 a, .int .u64 b] w fun e w' => e = .returned (.int .u64 (addT a b)) ∧ Below w.heap.size w w' := by
  have H := Lib.hid (sum_any (some ⟨w.heap.size, 0, none⟩) 2 [a, b] (w.alloc (.cells #[.int .u64 a, .int .u64 b] 28)) (by simp) (fun j hj => by
    have : j = 0 ∨ j = 1 := by simp at hj; omega
    rcases this with rfl | rfl
    · exact ha
    · exact hb) (by rw [World.size_alloc]; exact rdU_two w a b))
  have HA := Lib.hid ha
  clear ha hb
  go_enter Try.func8, Try.ntmps8
  go_wp2_with fail
  refine H.out.mono ?_
  rintro e w1 ⟨rfl, hb⟩
  go_wp2
  go_ret
  exact ⟨ret_u64 (sumN_two a b HA.out), ((Below.refl _ _).alloc (Nat.le_refl _) _).trans (hb.mono (by simp))⟩

end Go.Proofs.Ytjmlpmkpjmgfiaa
