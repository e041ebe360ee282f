/- Maps told as lists of pairs: a range over one, at the operations of a walk within a fence. -/
import Derived.Test.YthfndphngeaihaaDoorMapW
import Derived.Test.YthfndphngeaihaaDoorIterR
import Derived.Sort.MapsRangeIn
namespace Go.Proofs.YthfndphngeaihaaDoor
open Go Go.RowKit Go.Shelf
open Go.ChangeMaps (setBlock)
set_option linter.unusedSimpArgs false
set_option linter.unusedVariables false
set_option linter.unusedSectionVars false
set_option maxRecDepth 100000

theorem RngK.notCells {κ : Type} [DecidableEq κ] {enc : κ → Value} {w : World} {b r : Nat} {l todo : List (κ × Value)} (h : RngK enc w b r l todo) : ∀ o, w.heap[r]? = some o → o.isCells = false := fun o ho => by
  obtain ⟨h1, h2, es, cl, si, se, c0, h3, h4, h5⟩ := h
  rw [h4] at ho
  injection ho with ho
  rw [← ho]
  rfl

section
variable {κ : Type} [DecidableEq κ] {enc : κ → Value} {P : Program} (w : World) {F : Fence} {n : Nat} {ops : Array Oper} {rest : List Oper} {o : Oper} {a : Act} {Q : Exit → Act → World → Prop}
theorem wpListIn_range_K (hg : o.guard = none) (m : Operand) (t : TypeId) (hop : o.op = Op.range t m) (kt et : TypeId) (ht : P.underlying t = some (.map kt et)) (b : Nat) (l : List (κ × Value)) (hm : a.eval m = .map (some b)) (h : KMap enc w b l)
    (hK : ∀ o', RngK enc (w.alloc o') b w.heap.size l l → o'.isCells = false → wpListIn F n P ops Q rest (a.put o.dst (.pointer (some ⟨w.heap.size, 0, none⟩))) (w.alloc o')) : wpListIn F n P ops Q (o :: rest) a w := by
  refine wpListIn_plain hg fun K' hK' => ?_
  obtain ⟨o', hrun, hr⟩ := h.range ht
  have hc := hr.notCells
  rw [World.alloc_heap_new] at hc
  unfold Oper.wpIn
  refine ⟨by simp [Oper.about, hop], ?_⟩
  rw [Oper.semAt_plain F _ _ (by rw [hop]; intro c hc'; cases hc')]
  simp [execOp, hop, hm, hrun, Result.andThen]
  exact hK' _ _ (hK o' hr (hc _ rfl))
theorem wpListIn_next_K (hg : o.guard = none) (it : Operand) (hop : o.op = Op.next it false) (kt : TypeId) (K : KeyK P kt enc) (b r : Nat) (l todo : List (κ × Value)) (hit : a.eval it = .pointer (some ⟨r, 0, none⟩)) (h : RngK enc w b r l todo)
    (hDone : todo = [] → wpListIn F n P ops Q rest (a.put o.dst (.tuple #[.bool false])) w)
    (hMore : ∀ (k : κ) (v : Value) (w1 : World) (o' : Obj) (pre post : List (κ × Value)), todo = pre ++ (k, v) :: post → (w1 = w ∨ w1 = w.drew) → RngK enc (setBlock w1 r o') b r l (pre ++ post) →
      (∀ w' : World, w'.heap[b]? = w.heap[b]? → w'.heap[r]? = some o' → (Instr.entry (.pointer (some ⟨r, 0, none⟩))).run P w' = .ok (.tuple #[enc k, v]) w') → wpListIn F n P ops Q rest (a.put o.dst (.tuple #[.bool true, enc k, v])) (setBlock w1 r o')) : wpListIn F n P ops Q (o :: rest) a w := by
  refine wpListIn_plain hg fun K' hK' => ?_
  unfold Oper.wpIn
  refine ⟨by simp [Oper.about, hop], ?_⟩
  rw [Oper.semAt_plain F _ _ (by rw [hop]; intro c hc'; cases hc')]
  rcases h.next K o.type with ⟨h0, hrun⟩ | ⟨k, v, w1, o', pre, post, e, hw, hrun, hr, hen⟩
  · simp [execOp, hop, hit, hrun, Result.andThen]
    exact hK' _ _ (hDone h0)
  · simp [execOp, hop, hit, hrun, Result.andThen]
    exact hK' _ _ (hMore k v w1 o' pre post e hw hr hen)
end

/-- The range's own step, as a growth: its block is no row of cells. -/
theorem grownBy_setBlock (w : World) (r : Nat) (o : Obj) : w.grownBy (setBlock w r o) (some r) := ⟨rfl, rfl, rfl, by rw [setBlock_size]; exact Nat.le_refl _, fun b _ hn => setBlock_block _ _ _ _ (fun e => hn (by rw [e]))⟩

end Go.Proofs.YthfndphngeaihaaDoor
