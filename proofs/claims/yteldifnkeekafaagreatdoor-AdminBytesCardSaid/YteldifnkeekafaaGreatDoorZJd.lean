/- Joined texts. -/
import Derived.Test.YteldifnkeekafaaGreatDoorZJb
import Derived.Lib.SlBytesConst
import Derived.Lib.SmallJoins
import Derived.Deep.RegionHeld3
namespace Go.Proofs.YteldifnkeekafaaGreatDoor
open Go.RowKit Go.Shelf

theorem rdB_lit (w : World) (t : TypeId) (C : Array Value) (fr : Nat × Nat) (bs : List UInt8) (hC : C = (bs.map encB).toArray) : RdB (w.alloc (.cells C t fr)) (w.heap.size + 1) (some ⟨w.heap.size, 0, none⟩) bs := by
 refine .inr ⟨w.heap.size, 0, rfl, by omega, fun j hj => ?_⟩
 rw [Nat.zero_add, World.cell?_alloc_mark, hC]
 have := encB_at bs j hj
 simpa using this

theorem rdP_pair (w : World) (B : Nat) (hB : B ≤ w.heap.size) (t : TypeId) (a1 a2 : Option Addr) (c1 c2 : Nat) (p1 p2 : List UInt8) (h1 : RdB w B a1 p1) (h2 : RdB w B a2 p2) (l1 : p1.length ≤ c1) (l2 : p2.length ≤ c2) :
  RdP (w.alloc (.cells #[.slice a1 p1.length c1, .slice a2 p2.length c2] t)) (w.alloc (.cells #[.slice a1 p1.length c1, .slice a2 p2.length c2] t)).heap.size (some ⟨w.heap.size, 0, none⟩) [p1, p2] := by
 refine .inr ⟨w.heap.size, 0, rfl, by simp, fun j hj => ?_⟩
 have hb : Below B w (w.alloc (.cells #[.slice a1 p1.length c1, .slice a2 p2.length c2] t)) := bR.alloc hB _
 rw [Nat.zero_add, World.cell?_alloc_mark]
 simp at hj
 have hj2 : j = 0 ∨ j = 1 := by omega
 rcases hj2 with rfl | rfl
 ·exact ⟨a1, c1, rfl, l1, (h1.below hb).mono (by simp; omega)⟩
 ·exact ⟨a2, c2, rfl, l2, (h2.below hb).mono (by simp; omega)⟩

end Go.Proofs.YteldifnkeekafaaGreatDoor
