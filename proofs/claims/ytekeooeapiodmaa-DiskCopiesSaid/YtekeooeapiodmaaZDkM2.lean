/- DiskPlays, walked: the loop. -/
import Derived.Test.YtekeooeapiodmaaZDkM1
namespace Go.Proofs.Ytekeooeapiodmaa
open Go Go.RowKit Go.Shelf
set_option linter.unusedSimpArgs false
set_option linter.unusedVariables false
set_option maxRecDepth 100000

attribute [local go_sem] Oper.semAt_some

end Go.Proofs.Ytekeooeapiodmaa

