/- How endpoints and names that came in are opened. -/
import Derived.Test.YteldifnkeekafaaGreatDoorZKh
import Derived.ProofKit
import Derived.OpenShut
import Derived.ChangeOld
import Derived.SizedLaws
set_option maxRecDepth 100000
namespace Go.Proofs.YteldifnkeekafaaGreatDoor
open Go.ChangeShapes Go.WideShapes Go.ChangeAt Go.RowKit


section
variable {H : Type} {enc : TypeId × Value → H} {W : World}

end
end Go.Proofs.YteldifnkeekafaaGreatDoor

