/- Package disk: the document's Same. -/
import Derived.Test.YtekeooeapiodmaaZKb
import Derived.Test.YtekeooeapiodmaaZDkVu
import Derived.BigQuiet
namespace Go.Proofs.Ytekeooeapiodmaa
open Go Go.RowKit Go.Shelf
set_option linter.unusedSimpArgs false
set_option linter.unusedVariables false
set_option maxRecDepth 100000

attribute [local go_sem] Oper.semAt_some

theorem txt_list (s : List UInt8) : (txt s).toList = s := by rw [ByteArray.toList_eq]; rfl

end Go.Proofs.Ytekeooeapiodmaa

