/- Joined texts. -/
import Derived.Test.YtiahakbkagipkaaGreatDoorZKr
namespace Go.Proofs.YtiahakbkagipkaaGreatDoor
open Go.RowKit Go.Shelf

theorem RdB.of_own {w : World} {base G n C : Nat} {e : TypeId} {bs : List UInt8} (h : OwnV w base e (.slice (some ⟨G, 0, none⟩) n C) (bs.map encB)) : RdB w w.heap.size (some ⟨G, 0, none⟩) bs := by
 obtain ⟨A, C', hv, _, hr, _⟩ := h.bytes
 injection hv with e1
 rw [e1]
 exact hr

end Go.Proofs.YtiahakbkagipkaaGreatDoor
