/- CborHolds, walked: what its boxes hold; how a text is judged. -/
import Derived.Test.YteldifnkeekafaaGreatDoorZCz
import Derived.Test.YteldifnkeekafaaGreatDoorZCy
import Derived.Test.YteldifnkeekafaaGreatDoorZKq
import Derived.Test.YteldifnkeekafaaGreatDoorZKl
import Derived.Deep.QuietTactic
import Derived.BigQuiet
set_option linter.unusedSimpArgs false
namespace Go.Proofs.YteldifnkeekafaaGreatDoor
open Go.RowKit Go.Shelf

end Go.Proofs.YteldifnkeekafaaGreatDoor

