/- Maps told as lists of pairs: a range over one, at the operations of a walk; clone. -/
import Derived.Test.YtdnjoohicbdmiaaMapK
import Derived.Maps.RangeWalk
import Derived.Shelf.SlMaps.Clone
namespace Go.Proofs.Ytdnjoohicbdmiaa
open Go Go.RowKit Go.Shelf
open Go.ChangeMaps (setBlock)
set_option linter.unusedSimpArgs false
set_option linter.unusedVariables false
set_option linter.unusedSectionVars false
set_option maxRecDepth 100000

section
variable {κ : Type} [DecidableEq κ] {enc : κ → Value} {P : Program} (w : World) {ops : Array Oper} {rest : List Oper} {o : Oper} {a : Act} {Q : Exit → Act → World → Prop}
theorem wpList_range_K (hg : o.guard = none) (m : Operand) (t : TypeId) (hop : o.op = Op.range t m) (kt et : TypeId) (ht : P.underlying t = some (.map kt et)) (b : Nat) (l : List (κ × Value)) (hm : a.eval m = .map (some b)) (h : KMap enc w b l)
    (hK : ∀ o', RngK enc (w.alloc o') b w.heap.size l l → wpList P ops Q rest (a.put o.dst (.pointer (some ⟨w.heap.size, 0, none⟩))) (w.alloc o')) : wpList P ops Q (o :: rest) a w := by
  refine wpList_plain hg fun K' hK' => ?_
  obtain ⟨o', hrun, hr⟩ := h.range ht
  unfold Oper.wp
  simp [execOp, hop, hm, hrun, Result.andThen]
  exact hK' _ _ (hK o' hr)
theorem wpList_next_K (hg : o.guard = none) (it : Operand) (hop : o.op = Op.next it false) (kt : TypeId) (K : KeyK P kt enc) (b r : Nat) (l todo : List (κ × Value)) (hit : a.eval it = .pointer (some ⟨r, 0, none⟩)) (h : RngK enc w b r l todo)
    (hDone : todo = [] → wpList P ops Q rest (a.put o.dst (.tuple #[.bool false])) w)
    (hMore : ∀ (k : κ) (v : Value) (w1 : World) (o' : Obj) (pre post : List (κ × Value)), todo = pre ++ (k, v) :: post → (w1 = w ∨ w1 = w.drew) → RngK enc (setBlock w1 r o') b r l (pre ++ post) →
      (∀ w' : World, w'.heap[b]? = w.heap[b]? → w'.heap[r]? = some o' → (Instr.entry (.pointer (some ⟨r, 0, none⟩))).run P w' = .ok (.tuple #[enc k, v]) w') → wpList P ops Q rest (a.put o.dst (.tuple #[.bool true, enc k, v])) (setBlock w1 r o')) : wpList P ops Q (o :: rest) a w := by
  refine wpList_plain hg fun K' hK' => ?_
  unfold Oper.wp
  rcases h.next K o.type with ⟨h0, hrun⟩ | ⟨k, v, w1, o', pre, post, e, hw, hrun, hr, hen⟩
  · simp [execOp, hop, hit, hrun, Result.andThen]
    exact hK' _ _ (hDone h0)
  · simp [execOp, hop, hit, hrun, Result.andThen]
    exact hK' _ _ (hMore k v w1 o' pre post e hw hr hen)
end

theorem RngK.left {κ : Type} [DecidableEq κ] {enc : κ → Value} {w : World} {b r : Nat} {l todo : List (κ × Value)} (h : RngK enc w b r l todo) : w.rangeLeft b r = todo.length := by
  obtain ⟨h1, h2, es, cl, si, se, c0, h3, h4, h5, h6, h7, h8, h9, h10, h11⟩ := h
  have := congrArg List.length h11
  simp only [List.length_map] at this
  unfold World.rangeLeft
  simp only [h3, h4]
  rw [← this, Array.length_toList]
theorem own_base {w : World} {B B' : Nat} {e : TypeId} {k : Nat} {v : Value} {n : Nat} {xs : List Value} (h : w.ownsRow B e k v n xs) (hB : B' ≤ B) : w.ownsRow B' e k v n xs := by
  refine ⟨h.1, ?_⟩
  rcases h.2 with h2 | ⟨g, cap, cur, hv, hb, rest⟩
  · exact .inl h2
  · exact .inr ⟨g, cap, cur, hv, Nat.le_trans hB hb, rest⟩

/-- Of a sublist with other keys each once: what is found. -/
theorem lk_sub {κ : Type} [DecidableEq κ] {l m : List (κ × Value)} (hn : (l.map (·.1)).Nodup) (hs : m.Sublist l) {k : κ} {v : Value} (h : lk m k = some v) : lk l k = some v := lk_of_mem hn (hs.subset (lk_mem h))
theorem lk_split {κ : Type} [DecidableEq κ] {pre post : List (κ × Value)} {k : κ} {v : Value} (hn : ((pre ++ (k, v) :: post).map (·.1)).Nodup) (q : κ) : lk (pre ++ post) q = if q = k then none else lk (pre ++ (k, v) :: post) q := by
  have h1 : (pre ++ (k, v) :: post)[pre.length]? = some (k, v) := by simp
  have h2 := dl_at hn h1
  have h3 : (pre ++ (k, v) :: post).eraseIdx pre.length = pre ++ post := by
    rw [List.eraseIdx_append_of_length_le (Nat.le_refl _)]
    simp
  rw [h3] at h2
  rw [← h2, lk_dl]

end Go.Proofs.Ytdnjoohicbdmiaa
