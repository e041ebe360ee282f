/- More words of iterators: no iterator is nil; two ways that are over; a range whose element lies in a variable of its own. -/
import Derived.Test.YtekeooeapiodmaaZIter
namespace Go.Proofs.Ytekeooeapiodmaa
open Go.RowKit Go.Shelf
set_option linter.unusedSimpArgs false
set_option linter.unusedVariables false

theorem eqlIn_func_nil {P : Program} (w : World) (d : Nat) (t : TypeId) (ps rs : Array TypeId) (b : Bool) (fn : Fn) (f c : Array Value) (h : P.underlying t = some (.func ps rs b)) :
    (Op.equalIn (d + 1) t (.func fn f c) .nilFunc).run P w = .ok false w := by
  simp [Op.equalIn, run_underlying h]

theorem eql_func_nil {P : Program} (w : World) (t : TypeId) (ps rs : Array TypeId) (b : Bool) (fn : Fn) (f c : Array Value) (h : P.underlying t = some (.func ps rs b)) :
    (binOp .eql t (.func fn f c) .nilFunc).run P w = .ok (.bool false) w := by
  simp only [binOp]
  simp [Op.equal, Op.maxDepth, eqlIn_func_nil w 9999 t ps rs b fn f c h]

/-- The way out behind two loops. -/
theorem marks_two {P : Program} {fn : Func} {R : Ending → World → Prop} {tmps : Array Value} {w : World} {v : Value} {D1 D2 : Nat} (h2 : w.heap[D2]? = some (.deferred (some []))) (h1 : (w.putObj D2 (.deferred none)).heap[D1]? = some (.deferred (some [])))
    (hr : (results fn tmps).run P ((w.putObj D2 (.deferred none)).putObj D1 (.deferred none)) = .ok v ((w.putObj D2 (.deferred none)).putObj D1 (.deferred none))) (hR : R (.returned v) ((w.putObj D2 (.deferred none)).putObj D1 (.deferred none))) :
    bodyPostM Fence.wide 9 P fn R .ret { tmps := tmps, defers := [{ target := .collected D2, args := #[] }, { target := .collected D1, args := #[] }] } w :=
  ⟨by simp, .inl ⟨_, _, rfl, run_takeDeferred h2, by simp, .inl ⟨_, _, rfl, run_takeDeferred h1, v, hr, hR⟩⟩⟩

end Go.Proofs.Ytekeooeapiodmaa

