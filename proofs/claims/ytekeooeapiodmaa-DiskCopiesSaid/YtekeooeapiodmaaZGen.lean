/- Words of any program: boxes, drawn regions, rows of cells. -/
import Derived.Test.YtekeooeapiodmaaZBase
import Derived.Maps.AppendAt
import Derived.OwnWalk
import Derived.Deep.CutRange
import Derived.Deep.RegionHeld3
namespace Go.Proofs.Ytekeooeapiodmaa
open Go Go.RowKit Go.Shelf
set_option linter.unusedSimpArgs false
set_option linter.unusedVariables false
set_option maxRecDepth 100000

theorem box_at {w w' : World} {cs : Array Value} {t : TypeId} (h : Below (w.alloc (.cells cs t)).heap.size (w.alloc (.cells cs t)) w') (i : Nat) : w'.cell? ⟨w.heap.size, i, none⟩ = cs[i]? :=
  (h.cell (p := ⟨w.heap.size, i, none⟩) (by simp)).trans (by rw [World.cell?_alloc_mark])

theorem take_listed {P : Program} {l : List Oper} {Q : Exit → Act → World → Prop} {md : Region.Mode} {S : World → Prop} {i : Nat} {oi : Oper} {v : Value} {fuel : Nat} {listed : Array Bool} {a : Act} {w : World} (hi : l[i]? = some oi)
    (hs : Region.noSelect l.toArray = true) (hf : Region.free md l.toArray listed i = true) (hr : (Region.ready md l.toArray listed).contains i = true)
    (hQ : ∀ c a w, Q (.panic c) (a.put oi.dst v) w → Q (.panic c) a w) (hy : YieldsIf P l.toArray S oi v a) (hS : S w)
    (h : wpAnyH P md l.toArray Q S fuel (listed.setIfInBounds i true) (a.put oi.dst v) w) : wpAnyH P md l.toArray Q S (fuel + 1) listed a w :=
  wpAnyH_take (by simpa using hi) hs hf hr hQ hy hS h

/-- A row of cells that may be written. -/
def RowB (w : World) (b : Nat) (vs : List Value) : Prop := (∀ i v, vs[i]? = some v → w.cell? ⟨b, i, none⟩ = some v) ∧ ∀ i, w.frozen? ⟨b, i, none⟩ = false

theorem RowB.on {w w' : World} {b : Nat} {vs : List Value} (h : RowB w b vs) (hb : Below w.heap.size w w') (hlt : b < w.heap.size) : RowB w' b vs :=
  ⟨fun i v hv => (hb.cell (p := ⟨b, i, none⟩) hlt).trans (h.1 i v hv), fun i => (hb.frozen (p := ⟨b, i, none⟩) hlt).trans (h.2 i)⟩

theorem RowB.set {w : World} {b : Nat} {vs : List Value} (h : RowB w b vs) (i : Nat) (v : Value) : RowB (w.setCell ⟨b, i, none⟩ v) b (vs.set i v) := by
  refine ⟨fun j u hj => ?_, fun j => (World.frozen?_setCell ..).trans (h.2 j)⟩
  by_cases e : i = j
  · subst e
    rw [List.getElem?_set] at hj
    simp only [if_true] at hj
    split at hj
    · rename_i hi
      injection hj with hj
      subst hj
      exact World.cell?_setCell_same _ _ _ (h.1 i _ (List.getElem?_eq_getElem hi))
    · cases hj
  · rw [List.getElem?_set_ne e] at hj
    exact (World.cell?_setCell_other _ _ _ _ (by simp <;> omega)).trans (h.1 j u hj)

theorem RowB.other {w : World} {b c i : Nat} {vs : List Value} (h : RowB w b vs) (hne : c ≠ b) (v : Value) : RowB (w.setCell ⟨c, i, none⟩ v) b vs :=
  ⟨fun j u hj => (World.cell?_setCell_other _ _ _ _ (by intro h'; injection h' with h1; exact hne h1)).trans (h.1 j u hj), fun j => (World.frozen?_setCell ..).trans (h.2 j)⟩

theorem RowB.new (w : World) (vs : List Value) (t : TypeId) : RowB (w.alloc (.cells vs.toArray t)) w.heap.size vs :=
  ⟨fun i v hv => by rw [World.cell?_alloc_mark]; simpa using hv, fun i => World.frozen?_alloc_new _ _ _ _⟩

/-- All cells of a row at once. -/
theorem r5 {w : World} {b : Nat} {c0 c1 c2 c3 c4 : Value} (h : RowB w b [c0, c1, c2, c3, c4]) : w.cell? ⟨b, 0, none⟩ = some c0 ∧ w.cell? ⟨b, 1, none⟩ = some c1 ∧ w.cell? ⟨b, 2, none⟩ = some c2 ∧ w.cell? ⟨b, 3, none⟩ = some c3 ∧ w.cell? ⟨b, 4, none⟩ = some c4 := ⟨h.1 0 _ rfl, h.1 1 _ rfl, h.1 2 _ rfl, h.1 3 _ rfl, h.1 4 _ rfl⟩

end Go.Proofs.Ytekeooeapiodmaa

