/- Contracts of package octet's Put and Least, for every number, every width. -/
import Derived.Test.YtncemmhbbkpieaaDoorOctA
import Derived.Shelf.Abstract
namespace Go.Proofs.YtncemmhbbkpieaaDoor
open Go.RowKit Go.Shelf

theorem isW_turned (x : Int) : ((1 : Int) == x || (2 == x || (4 == x || 8 == x))) = isW x := by
  unfold isW
  rw [BEq.comm (a := (1 : Int)), BEq.comm (a := (2 : Int)), BEq.comm (a := (4 : Int)), BEq.comm (a := (8 : Int))]

set_option maxHeartbeats 1000000 in
theorem right_any (x : Int) (w : World) :
    Calls Tryd.prog 65 #[.int .i64 x] w fun e w' => e = .returned (.bool (isW x)) ∧ Below w.heap.size w w' := by
  have hmf : ∀ (fn : Fn) (first cap : Array Value) (w : World), (Instr.makeFunc fn first cap).run Tryd.prog w = .ok (.func fn first cap) w := fun _ _ _ _ => rfl
  go_enter Tryd.func65, Tryd.ntmps65
  go_wp2_with (go_at_call 73; refine (widths_any _).mono ?_; rintro e w' ⟨rfl, rfl⟩)
  refine (first_any 80 _ (1 == x) (2 == x) (4 == x) (8 == x) _ (enters_of Tryd.func80 (by kernel_rfl) rfl) ?_).mono ?_
  · intro w' hb
    have hc : w'.cell? ⟨w.heap.size, 0, none⟩ = some (.int .i64 x) := cell_box (Below.trans ((Below.refl _ _).alloc (Nat.le_refl _) _) (hb.mono (by simp)))
    exact ⟨rightC_any 1 x _ w' hc, rightC_any 2 x _ w' hc, rightC_any 4 x _ w' hc, rightC_any 8 x _ w' hc⟩
  · rintro e w1 ⟨rfl, hb⟩
    go_wp2
    go_ret
    exact ⟨congrArg (fun b => Ending.returned (.bool b)) (isW_turned x), (((Below.refl _ _).alloc (Nat.le_refl _) _).alloc (by simp) _).trans (hb.mono (by simp; omega))⟩

def leastOf (n : Int) : Int := firstW (fits 1 n) (fits 2 n) (fits 4 n) (fits 8 n)

set_option maxHeartbeats 1000000 in
theorem least_any (n : Int) (w : World) (hn : U64 n) :
    Calls Tryd.prog 60 #[.int .u64 n] w fun e w' => e = .returned (.int .i64 (leastOf n)) ∧ Below w.heap.size w w' := by
  have hmf : ∀ (fn : Fn) (first cap : Array Value) (w : World), (Instr.makeFunc fn first cap).run Tryd.prog w = .ok (.func fn first cap) w := fun _ _ _ _ => rfl
  have Hn := Lib.hid hn
  clear hn
  go_enter Tryd.func60, Tryd.ntmps60
  go_wp2_with (go_at_call 73; refine (widths_any _).mono ?_; rintro e w' ⟨rfl, rfl⟩)
  refine (first_any 74 _ (fits 1 n) (fits 2 n) (fits 4 n) (fits 8 n) _ (enters_of Tryd.func74 (by kernel_rfl) rfl) ?_).mono ?_
  · intro w' hb
    have hc : w'.cell? ⟨w.heap.size, 0, none⟩ = some (.int .u64 n) := cell_box (Below.trans ((Below.refl _ _).alloc (Nat.le_refl _) _) (hb.mono (by simp)))
    exact ⟨leastC_any 1 n _ w' rfl Hn.out hc, leastC_any 2 n _ w' rfl Hn.out hc, leastC_any 4 n _ w' rfl Hn.out hc, leastC_any 8 n _ w' rfl Hn.out hc⟩
  · rintro e w1 ⟨rfl, hb⟩
    go_wp2
    go_ret
    exact ⟨rfl, (((Below.refl _ _).alloc (Nat.le_refl _) _).alloc (by simp) _).trans (hb.mono (by simp; omega))⟩

end Go.Proofs.YtncemmhbbkpieaaDoor
