/- Joined texts. -/
import Derived.Test.YteldifnkeekafaaGreatDoorZCz
import Derived.IntWalk
import Derived.Test.YteldifnkeekafaaGreatDoorZKv
import Derived.Test.YteldifnkeekafaaGreatDoorZKp
import Derived.Test.YteldifnkeekafaaGreatDoorZBx
set_option linter.unusedSimpArgs false
set_option linter.unusedVariables false
namespace Go.Proofs.YteldifnkeekafaaGreatDoor
open Go.RowKit Go.Shelf

def Later (W w : World) : Prop := Below W.heap.size W w

theorem ownB_length (k n : Int) (b s : List UInt8) (m : Nat) : (ownB k n b s m).length ≤ 9 + b.length + s.length := by
 have h0 := (head_length 0 n).2
 have h2 := (head_length 2 b.length).2
 have h3 := (head_length 3 s.length).2
 have h4 := (head_length 4 m).2
 have h7 := (head_length 7 (20 + n)).2
 have h8 := (head_length 7 22).2
 unfold ownB
 split
 ·omega
 ·split
  ·rw [List.length_append]; omega
  ·split
   ·rw [List.length_append]; omega
   ·split
    ·omega
    ·split <;> omega

end Go.Proofs.YteldifnkeekafaaGreatDoor
