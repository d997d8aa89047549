/- The specification's l4Guess. -/
import Derived.Test.YtndfmgbdfcggmaaGreatDoorJk
import Derived.Test.YtndfmgbdfcggmaaGreatDoorJdM
import Derived.Lib.QuietBelow
namespace Go.Proofs.YtndfmgbdfcggmaaGreatDoor
open Go.RowKit Go.Shelf Go.Lib
set_option linter.unusedVariables false

end Go.Proofs.YtndfmgbdfcggmaaGreatDoor
