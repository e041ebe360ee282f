/- slices.Clone of bytes; package octet's Each. -/
import Derived.Test.YtncemmhbbkpieaaDoorOctF
import Derived.Test.YtncemmhbbkpieaaDoorOwn
namespace Go.Proofs.YtncemmhbbkpieaaDoor
open Go.RowKit Go.Shelf

theorem info_u8 : (Tryd.prog.info? 5).map (fun i => (i.zero, i.size, i.bytes)) = some (some (.int .u8 0), 1, 1) := by kernel_rfl
theorem info_bytes : (Tryd.prog.info? 22).map (fun i => (i.zero, i.size, i.bytes)) = some (some (.slice none 0 0), 1, 24) := by kernel_rfl

/-- What a copy of bytes is. -/
def CloneP (w : World) (bs : List UInt8) (e : Ending) (w' : World) : Prop :=
  ∃ v, e = .returned v ∧ OwnV w' w.heap.size 5 v (bs.map encB) ∧ Below w.heap.size w w'

/-- What package octet's Each hands out. -/
def EachP (w : World) (bs : List UInt8) (e : Ending) (w' : World) : Prop :=
  ∃ Bs a c, e = .returned (.func (.func 81) #[] #[.pointer (some ⟨Bs, 0, none⟩)]) ∧ w.heap.size ≤ Bs ∧ w'.cell? ⟨Bs, 0, none⟩ = some (.slice a bs.length c) ∧ RdB w' w'.heap.size a bs ∧ Bs < w'.heap.size ∧ Below w.heap.size w w'

end Go.Proofs.YtncemmhbbkpieaaDoor
