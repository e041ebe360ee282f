/- An item's box: its five cells. -/
import Derived.Test.YtncemmhbbkpieaaDoorCbB
namespace Go.Proofs.YtncemmhbbkpieaaDoor
open Go.RowKit Go.Shelf
set_option linter.unusedSimpArgs false

/-- An item's box. -/
def Box5 (W : World) (b : Nat) (v0 v1 v2 v3 v4 : Value) : Prop :=
  W.cell? ⟨b, 0, none⟩ = some v0 ∧ W.cell? ⟨b, 1, none⟩ = some v1 ∧ W.cell? ⟨b, 2, none⟩ = some v2 ∧ W.cell? ⟨b, 3, none⟩ = some v3 ∧ W.cell? ⟨b, 4, none⟩ = some v4

theorem Box5.later {W W' : World} {b B : Nat} {v0 v1 v2 v3 v4 : Value} (h : Box5 W b v0 v1 v2 v3 v4) (hb : Below B W W') (hlt : b < B) : Box5 W' b v0 v1 v2 v3 v4 :=
  ⟨(hb.cell (p := ⟨b, 0, none⟩) hlt).trans h.1, (hb.cell (p := ⟨b, 1, none⟩) hlt).trans h.2.1, (hb.cell (p := ⟨b, 2, none⟩) hlt).trans h.2.2.1, (hb.cell (p := ⟨b, 3, none⟩) hlt).trans h.2.2.2.1, (hb.cell (p := ⟨b, 4, none⟩) hlt).trans h.2.2.2.2⟩

theorem box5_new (w : World) (v0 v1 v2 v3 v4 : Value) (t : TypeId) : Box5 (w.alloc (.cells #[v0, v1, v2, v3, v4] t)) w.heap.size v0 v1 v2 v3 v4 := by
  refine ⟨?_, ?_, ?_, ?_, ?_⟩ <;> simp

theorem box5_alloc {W : World} {b : Nat} {v0 v1 v2 v3 v4 : Value} (h : Box5 W b v0 v1 v2 v3 v4) (hlt : b < W.heap.size) (o : Obj) : Box5 (W.alloc o) b v0 v1 v2 v3 v4 :=
  h.later ((Below.refl _ _).alloc (Nat.le_refl _) o) hlt

/-- Both boxes, in every later world. -/
theorem boxes_later (w : World) (v0 v1 v2 v3 v4 u0 u1 u2 u3 u4 : Value) (t : TypeId) (w' : World)
    (hb : Below ((w.alloc (.cells #[v0, v1, v2, v3, v4] t)).alloc (.cells #[u0, u1, u2, u3, u4] t)).heap.size ((w.alloc (.cells #[v0, v1, v2, v3, v4] t)).alloc (.cells #[u0, u1, u2, u3, u4] t)) w') :
    Box5 w' w.heap.size v0 v1 v2 v3 v4 ∧ Box5 w' (w.heap.size + 1) u0 u1 u2 u3 u4 := by
  have h1 := box5_new (w.alloc (.cells #[v0, v1, v2, v3, v4] t)) u0 u1 u2 u3 u4 t
  rw [World.size_alloc] at h1
  exact ⟨(box5_alloc (box5_new w v0 v1 v2 v3 v4 t) (by simp) _).later hb (by simp; omega), h1.later hb (by simp)⟩

theorem box1_later (w : World) (v0 v1 v2 v3 v4 : Value) (t : TypeId) (w' : World)
    (hb : Below (w.alloc (.cells #[v0, v1, v2, v3, v4] t)).heap.size (w.alloc (.cells #[v0, v1, v2, v3, v4] t)) w') : Box5 w' w.heap.size v0 v1 v2 v3 v4 :=
  (box5_new w v0 v1 v2 v3 v4 t).later hb (by simp)

end Go.Proofs.YtncemmhbbkpieaaDoor
