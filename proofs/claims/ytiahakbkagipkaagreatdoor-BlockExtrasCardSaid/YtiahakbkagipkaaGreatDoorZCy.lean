/- Joined texts. -/
import Derived.Test.YtiahakbkagipkaaGreatDoorZCz
import Derived.IntWalk
import Derived.Test.YtiahakbkagipkaaGreatDoorZKv
import Derived.Test.YtiahakbkagipkaaGreatDoorZKp
import Derived.Test.YtiahakbkagipkaaGreatDoorZBx
set_option linter.unusedSimpArgs false
set_option linter.unusedVariables false
namespace Go.Proofs.YtiahakbkagipkaaGreatDoor
open Go.RowKit Go.Shelf

def Later (W w : World) : Prop := Below W.heap.size W w

theorem Later.on {W w w' : World} (h : Later W w) (hb : Below w.heap.size w w') : Later W w' := below_on h hb
theorem Later.below {W w : World} (h : Later W w) : Below W.heap.size W w := h

def MemB (w : World) (g n : Nat) : Prop :=
 (∀ j, j < n → ∃ x : Int, 0 ≤ x ∧ x < 256 ∧ w.cell? ⟨g, j, none⟩ = some (.int .u8 x)) ∧ w.cell? ⟨g, n, none⟩ = some (.int .u8 77) ∧ (∀ j, w.frozen? ⟨g, j, none⟩ = false) ∧ g < w.heap.size

theorem MemB.later {w w' : World} {g n : Nat} (h : MemB w g n) (hb : Below w.heap.size w w') : MemB w' g n :=
 ⟨fun j hj => by
  obtain ⟨x, h0, h1, hc⟩ := h.1 j hj
  exact ⟨x, h0, h1, (hb.cell (p := ⟨g, j, none⟩) h.2.2.2).trans hc⟩, (hb.cell (p := ⟨g, n, none⟩) h.2.2.2).trans h.2.1, fun j => (hb.frozen (p := ⟨g, j, none⟩) h.2.2.2).trans (h.2.2.1 j), Nat.lt_of_lt_of_le h.2.2.2 hb.size⟩

theorem MemB.set {w : World} {g n k : Nat} {x : Int} (h : MemB w g n) (hk : k < n) (h0 : 0 ≤ x) (h1 : x < 256) : MemB (w.setCell ⟨g, k, none⟩ (.int .u8 x)) g n := by
 refine ⟨fun j hj => ?_, ?_, fun j => by rw [World.frozen?_setCell]; exact h.2.2.1 j, by rw [World.size_setCell]; exact h.2.2.2⟩
 ·by_cases e : j = k
  ·subst e
   obtain ⟨y, _, _, hc⟩ := h.1 j hj
   exact ⟨x, h0, h1, World.cell?_setCell_same _ _ _ hc⟩
  ·rw [World.cell?_setCell_other _ _ _ _ (by intro q; injection q with _ q; omega)]
   exact h.1 j hj
 ·rw [World.cell?_setCell_other _ _ _ _ (by intro q; injection q with _ q; omega)]
  exact h.2.1

theorem Box5.but {G b : Nat} {W W' : World} {v0 v1 v2 v3 v4 : Value} (h : Box5 W b v0 v1 v2 v3 v4) (hb : But G W W') (hlt : b < W.heap.size) (hne : b ≠ G) : Box5 W' b v0 v1 v2 v3 v4 :=
 ⟨(hb.cell hlt hne).trans h.1, (hb.cell hlt hne).trans h.2.1, (hb.cell hlt hne).trans h.2.2.1, (hb.cell hlt hne).trans h.2.2.2.1, (hb.cell hlt hne).trans h.2.2.2.2⟩

end Go.Proofs.YtiahakbkagipkaaGreatDoor
