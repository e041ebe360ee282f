/- Joined texts. -/
import Derived.Test.YtiahakbkagipkaaGreatDoorZJd
namespace Go.Proofs.YtiahakbkagipkaaGreatDoor
open Go.RowKit Go.Shelf

def OpenF (w : World) (G k B g o : Nat) (A0 A1 : Option Addr) (C0 C1 : Nat) (p t : List UInt8) (w' : World) : Prop :=
 KindAt w G k w' ∧ B ≤ w'.heap.size ∧ g < B ∧ w'.cell? ⟨g, o, none⟩ = some (.slice A0 p.length C0) ∧ w'.cell? ⟨g, o + 1, none⟩ = some (.slice A1 t.length C1) ∧ RdB w' B A0 p ∧ RdB w' B A1 t

theorem OpenF.later {w : World} {G k B g o : Nat} {A0 A1 : Option Addr} {C0 C1 : Nat} {p t : List UInt8} {w1 w2 : World} (h : OpenF w G k B g o A0 A1 C0 C1 p t w1) (hb : Below w1.heap.size w1 w2) : OpenF w G k B g o A0 A1 C0 C1 p t w2 := by
 obtain ⟨h1, hB, hg, h2, h3, h4, h5⟩ := h
 have l2 := World.block_lt_of_cell? w1 _ h2
 exact ⟨h1.later hb, Nat.le_trans hB hb.size, hg, (hb.cell l2).trans h2, (hb.cell (p := ⟨g, o + 1, none⟩) l2).trans h3, h4.below (hb.mono hB), h5.below (hb.mono hB)⟩

theorem OpenF.held {w : World} {G k B g o : Nat} {A0 A1 : Option Addr} {C0 C1 : Nat} {p t : List UInt8} {w1 : World} (h : OpenF w G k B g o A0 A1 C0 C1 p t w1) :
  (w1.cell? ⟨g, o, none⟩ = some (.slice A0 p.length C0) ∧ w1.cell? ⟨g, o + 1, none⟩ = some (.slice A1 t.length C1) ∧
   w1.cell? ⟨G, 0, none⟩ = some (.int .i64 (wdN k)) ∧ w1.cell? ⟨G, 1, none⟩ = some (.int .u32 (onN k)) ∧ w1.cell? ⟨G, 2, none⟩ = some (.int .u32 (fxN k))) ∧ OpenF w G k B g o A0 A1 C0 C1 p t w1 :=
 ⟨⟨h.2.2.2.1, h.2.2.2.2.1, h.1.held.1⟩, h⟩

end Go.Proofs.YtiahakbkagipkaaGreatDoor
