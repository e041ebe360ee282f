/- How a record that came in is opened. -/
import Derived.Test.YteldifnkeekafaaGreatDoorZNmOp
import Derived.Test.YteldifnkeekafaaGreatDoorZAdG
set_option maxRecDepth 100000
namespace Go.Proofs.YteldifnkeekafaaGreatDoor
open Go.ChangeShapes Go.WideShapes Go.ChangeAt Go.RowKit


section
variable {H : Type} {enc : TypeId × Value → H} {W : World}

end

end Go.Proofs.YteldifnkeekafaaGreatDoor

