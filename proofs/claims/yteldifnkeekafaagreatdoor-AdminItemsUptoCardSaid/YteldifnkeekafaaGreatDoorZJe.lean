/- Joined texts. -/
import Derived.Test.YteldifnkeekafaaGreatDoorZJa
import Derived.Lib.Mul64
import Derived.Laws.Bits64b
import Derived.Deep.RegionWith
import Derived.Deep.RegionHeld3
import Derived.Deep.QuietTactic
import Derived.BigQuiet
set_option maxHeartbeats 1000000
namespace Go.Proofs.YteldifnkeekafaaGreatDoor
open Go.RowKit Go.Shelf

def isT (n : Int) : Bool := decide (n ≤ 4611686018427387903)

theorem isTime_any (n : Int) (w : World) :
  Calls Tryz.prog 140 #[.int .u64 n] w fun e w' => e = .returned (.bool (isT n)) ∧ w = w' := by
 go_enter Tryz.func140, Tryz.ntmps140
 go_wp2
 go_ret
 exact ⟨rfl, rfl⟩

def RdU (w : World) (B : Nat) (a : Option Addr) (zs : List Int) : Prop :=
 zs = [] ∨ ∃ b o, a = some ⟨b, o, none⟩ ∧ b < B ∧ ∀ j, j < zs.length → w.cell? ⟨b, o + j, none⟩ = some (.int .u64 (zs[j]?.getD 0))

def allT (zs : List Int) (k : Nat) : Prop := ∀ j, j < k → isT (zs[j]?.getD 0) = true

def WithinP (zs : List Int) (w : World) (e : Ending) (w' : World) : Prop :=
 ((e = .returned (.bool true) ∧ allT zs zs.length) ∨ (e = .returned (.bool false) ∧ ¬ allT zs zs.length)) ∧ w = w'

set_option maxRecDepth 100000 in
theorem withinT_any (a : Option Addr) (c B : Nat) (zs : List Int) (w : World) (hlen : zs.length ≤ 140737488355328) (hr : RdU w B a zs) :
  Calls Tryz.prog 139 #[.func (.func 140) #[] #[], .slice a zs.length c] w (WithinP zs w) := by
 have HR := h_ hr
 clear hr
 go_enter Tryz.func139, Tryz.ntmps139
 go_wp2
 go_loop [9] (fun i => ∃ k : Nat, k ≤ zs.length ∧ i = .int .i64 k ∧ Hid (allT zs k)) (fun i => zs.length - (intOf i).toNat)
 case atStart => exact ⟨0, Nat.zero_le _, rfl, fun j hj => absurd hj (Nat.not_lt_zero j)⟩
 case round =>
  obtain ⟨k, hk, rfl, HA⟩ := hrel
  by_cases hlt : k < zs.length
  ·rcases HR.out with rfl | ⟨g, o, rfl, hg, hcs⟩
   ·simp at hlt
   have hck := hcs k hlt
   clear hcs
   obtain ⟨t, ht⟩ : ∃ t, t = zs[k]?.getD 0 := ⟨_, rfl⟩
   rw [← ht] at hck
   have HT := h_ ht
   clear ht
   cases hq : isT t
   ·go_wp2_with (go_at_call 140; refine (isTime_any _ _).mono ?_; rintro e w' ⟨rfl, rfl⟩)
    go_ret
    exact ⟨.inr ⟨rfl, fun h => by have := h k hlt; rw [← HT.out, hq] at this; cases this⟩, rfl⟩
   ·go_wp2_with (go_at_call 140; refine (isTime_any _ _).mono ?_; rintro e w' ⟨rfl, rfl⟩)
    go_round
    case rel =>
     refine ⟨k + 1, by omega, by go_num, fun j hj => ?_⟩
     by_cases e : j = k
     ·subst e
      rw [← HT.out]
      exact hq
     ·exact HA.out j (by omega)
    case measure => simp [intOf]; omega
  ·obtain rfl : k = zs.length := by omega
   go_wp2
   go_ret
   exact ⟨.inl ⟨rfl, HA.out⟩, rfl⟩

def chkT (b : Bool) : Int := if b then 0 else 2

end Go.Proofs.YteldifnkeekafaaGreatDoor
