/- Joined texts. -/
import Derived.Test.YtiahakbkagipkaaGreatDoorZKm
import Derived.BigQuiet
import Derived.Deep.QuietTactic
set_option linter.unusedSimpArgs false
set_option linter.unusedVariables false
set_option maxRecDepth 100000
namespace Go.Proofs.YtiahakbkagipkaaGreatDoor
open Go Go.RowKit Go.Shelf

def RdK (w : World) (g : Nat) (ks : List Int) : Prop := g < w.heap.size ∧ ∀ j, j < ks.length → w.cell? ⟨g, j, none⟩ = some (.int .i64 (ks[j]?.getD 0))

theorem RdK.on {w w' : World} {g : Nat} {ks : List Int} (h : RdK w g ks) (hb : Below w.heap.size w w') : RdK w' g ks :=
 ⟨Nat.lt_of_lt_of_le h.1 hb.size, fun j hj => (hb.cell (p := ⟨g, j, none⟩) h.1).trans (h.2 j hj)⟩

end Go.Proofs.YtiahakbkagipkaaGreatDoor
