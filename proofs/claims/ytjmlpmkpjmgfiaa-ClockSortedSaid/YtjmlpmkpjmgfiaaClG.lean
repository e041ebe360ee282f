/- The document's answer of clock.Both. -/
import Derived.Test.YtjmlpmkpjmgfiaaClF
namespace Go.Proofs.Ytjmlpmkpjmgfiaa
open Go.RowKit Go.Shelf

theorem below5 (w : World) (a b c d e : Obj) : Below w.heap.size w (((((w.alloc a).alloc b).alloc c).alloc d).alloc e) :=
  (((((Below.refl _ _).alloc (Nat.le_refl _) _).alloc (by simp) _).alloc (by simp; omega) _).alloc (by simp; omega) _).alloc (by simp; omega) _
theorem below6 (w : World) (a b c d e f : Obj) : Below w.heap.size w ((((((w.alloc a).alloc b).alloc c).alloc d).alloc e).alloc f) :=
  (below5 w a b c d e).alloc (by simp; omega) _

theorem bothB_1 {f u g v : Int} (h : rightT f u = false) : bothB f u g v = false := by simp [bothB, h]
theorem bothB_2 {f u g v : Int} (h : rightT g v = false) : bothB f u g v = false := by simp [bothB, h]

end Go.Proofs.Ytjmlpmkpjmgfiaa
