/- A range over a function, at the wide fence, where the iterator is known to hand over 'enc 0', 'enc 1', .. up to N of them: so the walk of a round may use which round it is. Also: the way out of a function that holds such a loop. -/
import Derived.Test.YtekeooeapiodmaaZBase
import Derived.RangeFuncNested
import Derived.RangeFuncBound
import Derived.RangeFuncCalls
import Derived.RangeFuncLeaves
import Derived.OwnWalkIn
import Derived.TacticsInMore
import Derived.LoopNIn
import Derived.LoopIn
namespace Go.Proofs.Ytekeooeapiodmaa
open Go.RowKit Go.Shelf

variable {P : Program}

/-- The blocks of which S speaks lie as they lay. -/
def KeepB (S : Nat → Prop) (W W' : World) : Prop := ∀ b, S b → W'.heap[b]? = W.heap[b]?

theorem KeepB.refl (S : Nat → Prop) (W : World) : KeepB S W W := fun _ _ => rfl
theorem KeepB.trans {S : Nat → Prop} {A B C : World} (h : KeepB S A B) (k : KeepB S B C) : KeepB S A C := fun b hb => (k b hb).trans (h b hb)
theorem KeepB.setCell {S : Nat → Prop} {A B : World} (h : KeepB S A B) {p : Addr} (hp : ¬ S p.block) (u : Value) : KeepB S A (B.setCell p u) :=
  fun b hb => (Below.heap_setCell B p u b (fun e => hp (e ▸ hb))).trans (h b hb)
theorem KeepB.alloc {S : Nat → Prop} {A B : World} (h : KeepB S A B) (hS : ∀ b, S b → b < B.heap.size) (o : Obj) : KeepB S A (B.alloc o) :=
  fun b hb => (Below.heap_alloc B o b (hS b hb)).trans (h b hb)
theorem KeepB.grown {S : Nat → Prop} {A B C : World} {row : Option Nat} (h : KeepB S A B) (hS : ∀ b, S b → b < B.heap.size) (hg : B.grownBy C row) (hr : ∀ r, row = some r → ¬ S r) : KeepB S A C :=
  fun b hb => (hg.block b (hS b hb) (fun e => hr b e.symm hb)).trans (h b hb)

/-- A function's contract from its body, where the body holds such a loop. -/
theorem calls_of_marks {f : FuncId} {fn : Func} {c : Code} {args : Array Value} {w : World} {R : Ending → World → Prop} (hf : P.funcs[f]? = some fn) (hb : fn.body = some c)
    (h : c.wp P (bodyPostM Fence.wide 9 P fn R) { tmps := args ++ Array.replicate (fn.ntmps - args.size) undef, defers := [] } w) : Calls P f args w R :=
  callsIn_wide.1 (callsIn_of_wp_marks (n := 9) hf hb trivial (wpIn_wide.2 h))

/-- The way out, where no loop was come to. -/
theorem marks_none {fn : Func} {R : Ending → World → Prop} {tmps : Array Value} {w : World} {v : Value} (hr : (results fn tmps).run P w = .ok v w) (hR : R (.returned v) w) :
    bodyPostM Fence.wide 9 P fn R .ret { tmps := tmps, defers := [] } w := ⟨v, hr, hR⟩

/-- The way out behind one loop. -/
theorem marks_one {fn : Func} {R : Ending → World → Prop} {tmps : Array Value} {w : World} {v : Value} {D : Nat} (hD : w.heap[D]? = some (.deferred (some [])))
    (hr : (results fn tmps).run P (w.putObj D (.deferred none)) = .ok v (w.putObj D (.deferred none))) (hR : R (.returned v) (w.putObj D (.deferred none))) :
    bodyPostM Fence.wide 9 P fn R .ret { tmps := tmps, defers := [{ target := .collected D, args := #[] }] } w :=
  ⟨by simp, .inl ⟨_, _, rfl, run_takeDeferred hD, v, hr, hR⟩⟩

end Go.Proofs.Ytekeooeapiodmaa

