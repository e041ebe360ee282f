/- Joined texts. -/
import Derived.Test.YteldifnkeekafaaGreatDoorZKp
import Derived.Test.YteldifnkeekafaaGreatDoorZKq
import Derived.Test.YteldifnkeekafaaGreatDoorZCa
import Derived.Deep.QuietTactic
import Derived.BigQuiet
import Derived.IntWalk
import Derived.Test.YteldifnkeekafaaGreatDoorZKv
set_option linter.unusedSimpArgs false
set_option linter.unusedVariables false
namespace Go.Proofs.YteldifnkeekafaaGreatDoor
open Go.RowKit Go.Shelf

theorem ofNat_toNat {k : Nat} (h : k < 256) : (UInt8.ofNat k).toNat = k := by
 rw [UInt8.toNat_ofNat']
 omega

def Box5 (W : World) (b : Nat) (v0 v1 v2 v3 v4 : Value) : Prop :=
 W.cell? ⟨b, 0, none⟩ = some v0 ∧ W.cell? ⟨b, 1, none⟩ = some v1 ∧ W.cell? ⟨b, 2, none⟩ = some v2 ∧ W.cell? ⟨b, 3, none⟩ = some v3 ∧ W.cell? ⟨b, 4, none⟩ = some v4

theorem Box5.later {W W' : World} {b B : Nat} {v0 v1 v2 v3 v4 : Value} (h : Box5 W b v0 v1 v2 v3 v4) (hb : Below B W W') (hlt : b < B) : Box5 W' b v0 v1 v2 v3 v4 :=
 ⟨(hb.cell (p := ⟨b, 0, none⟩) hlt).trans h.1, (hb.cell (p := ⟨b, 1, none⟩) hlt).trans h.2.1, (hb.cell (p := ⟨b, 2, none⟩) hlt).trans h.2.2.1, (hb.cell (p := ⟨b, 3, none⟩) hlt).trans h.2.2.2.1, (hb.cell (p := ⟨b, 4, none⟩) hlt).trans h.2.2.2.2⟩

theorem box5_new (w : World) (v0 v1 v2 v3 v4 : Value) (t : TypeId) : Box5 (w.alloc (.cells #[v0, v1, v2, v3, v4] t)) w.heap.size v0 v1 v2 v3 v4 := by
 refine ⟨?_, ?_, ?_, ?_, ?_⟩ <;> simp

theorem box1_later (w : World) (v0 v1 v2 v3 v4 : Value) (t : TypeId) (w' : World)
  (hb : Below (w.alloc (.cells #[v0, v1, v2, v3, v4] t)).heap.size (w.alloc (.cells #[v0, v1, v2, v3, v4] t)) w') : Box5 w' w.heap.size v0 v1 v2 v3 v4 :=
 (box5_new w v0 v1 v2 v3 v4 t).later hb (by simp)

end Go.Proofs.YteldifnkeekafaaGreatDoor
