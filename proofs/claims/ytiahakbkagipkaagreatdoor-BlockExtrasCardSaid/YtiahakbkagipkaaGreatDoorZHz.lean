/- Joined texts. -/
import Derived.Test.YtiahakbkagipkaaGreatDoorZBl
import Derived.Test.YtiahakbkagipkaaGreatDoorZCy
import Derived.Test.YtiahakbkagipkaaGreatDoorZNz
import Derived.Test.YtiahakbkagipkaaGreatDoorZPz
import Derived.Test.YtiahakbkagipkaaGreatDoorZBk
import Derived.Test.YtiahakbkagipkaaGreatDoorZKh
import Derived.Test.YtiahakbkagipkaaGreatDoorZCa
set_option linter.unusedSimpArgs false
set_option linter.unusedVariables false
set_option maxRecDepth 100000
namespace Go.Proofs.YtiahakbkagipkaaGreatDoor
open Go Go.RowKit Go.Shelf

attribute [local go_sem] Oper.semAt_some

attribute [local go_sem] Oper.semAt_some

attribute [local go_sem] Oper.semAt_some

theorem liConsB {w : World} {S : Nat → Prop} {x : It} {l : List It} {v0 v1 v2 v3 v4 : Value} {ys : List Value} (hx : ItS w S (.agg #[v0, v1, v2, v3, v4]) x) (h : LI w S ys l) : LI w S (v0 :: v1 :: v2 :: v3 :: v4 :: ys) (x :: l) :=
 LI.app (l := [x]) (m := l) h (LI.one hx)

theorem rowItemsB {w : World} {ys : List Value} {l : List It} {cs : Array Value} {t : TypeId} (hcs : cs.toList = ys) (hl : LI (w.alloc (.cells cs t)) (newB (bare (w.alloc (.cells cs t))) (w.alloc (.cells cs t))) ys l) (hn : l.length ≤ 1000) :
  ItV (w.alloc (.cells cs t)) (w.alloc (.cells cs t)).heap.size (listV (some ⟨w.heap.size, 0, none⟩) l.length l.length) (itLs l) ∧ SrcI (w.alloc (.cells cs t)) (some ⟨w.heap.size, 0, none⟩) l := by
 have hc : ∀ j u, ys[j]? = some u → (w.alloc (.cells cs t)).cell? ⟨w.heap.size, 0 + j, none⟩ = some u := fun j u hu => by
  rw [Nat.zero_add, World.cell?_alloc_mark, ← hu, ← hcs]
  simp
 have hg : w.heap.size < (w.alloc (.cells cs t)).heap.size := by simp
 refine ⟨ItS.itV (fun b q => q.2) _ (itS_list rfl (Nat.le_refl _) (by omega) ⟨Nat.zero_le _, hg⟩ (LI.itSL hl hc)), ys, hl, .inr ⟨_, 0, rfl, hg, hc⟩⟩

end Go.Proofs.YtiahakbkagipkaaGreatDoor
