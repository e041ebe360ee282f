/- More words of iterators: no iterator is nil; two ways that are over; a range whose element lies in a variable of its own. -/
import Derived.Test.YtekeooeapiodmaaZIter
namespace Go.Proofs.Ytekeooeapiodmaa
open Go.RowKit Go.Shelf
set_option linter.unusedSimpArgs false
set_option linter.unusedVariables false

theorem eqlIn_func_nil {P : Program} (w : World) (d : Nat) (t : TypeId) (ps rs : Array TypeId) (b : Bool) (fn : Fn) (f c : Array Value) (h : P.underlying t = some (.func ps rs b)) :
    (Op.equalIn (d + 1) t (.func fn f c) .nilFunc).run P w = .ok false w := by
  simp [Op.equalIn, run_underlying h]

theorem eql_func_nil {P : Program} (w : World) (t : TypeId) (ps rs : Array TypeId) (b : Bool) (fn : Fn) (f c : Array Value) (h : P.underlying t = some (.func ps rs b)) :
    (binOp .eql t (.func fn f c) .nilFunc).run P w = .ok (.bool false) w := by
  simp only [binOp]
  simp [Op.equal, Op.maxDepth, eqlIn_func_nil w 9999 t ps rs b fn f c h]

end Go.Proofs.Ytekeooeapiodmaa

