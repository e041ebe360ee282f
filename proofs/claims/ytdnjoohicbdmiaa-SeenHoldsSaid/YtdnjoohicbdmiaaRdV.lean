/- A slice that came in, from whatever place on, reads as these cells. -/
import Derived.Test.YtdnjoohicbdmiaaBase
namespace Go.Proofs.Ytdnjoohicbdmiaa
open Go Go.RowKit Go.Shelf

/-- A slice that came in reads as these cells. -/
def RdV (w : World) (A : Option Addr) (xs : List Value) : Prop := ∀ j u, xs[j]? = some u → ∃ g o, A = some ⟨g, o, none⟩ ∧ g < w.heap.size ∧ w.cell? ⟨g, o + j, none⟩ = some u
theorem RdV.on {w w' : World} {A : Option Addr} {xs : List Value} (h : RdV w A xs) (hb : Below w.heap.size w w') : RdV w' A xs := fun j u hu => by
  obtain ⟨g, o, e, hg, hc⟩ := h j u hu
  exact ⟨g, o, e, Nat.lt_of_lt_of_le hg hb.size, (hb.cell (p := ⟨g, o + j, none⟩) hg).trans hc⟩

end Go.Proofs.Ytdnjoohicbdmiaa
