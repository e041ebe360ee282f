/- Package disk: maps and writes that are cloned. -/
import Derived.Test.YtekeooeapiodmaaZDkK
import Derived.Shelf.SlMaps.Clone
import Derived.Deep.Onto
namespace Go.Proofs.Ytekeooeapiodmaa
open Go Go.RowKit Go.Shelf
set_option linter.unusedSimpArgs false
set_option linter.unusedVariables false
set_option maxRecDepth 100000

attribute [local go_sem] Oper.semAt_some

theorem IMap.block {w : World} {b : Nat} {f : Int → Option Value} (h : IMap w b f) : ∃ es c, w.heap[b]? = some (.map es c) ∧ IMap (w.alloc (.map es c)) w.heap.size f := by
  obtain ⟨es, c, h1, h2⟩ := h
  exact ⟨es, c, h1, es, c, (MapKept.heap_alloc w _).1, h2⟩

end Go.Proofs.Ytekeooeapiodmaa

