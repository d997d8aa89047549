/- Two memories compared field by field: the rows. -/
import Derived.Test.YtlgacbjopobeoaaGreatDoorMbM
import Derived.Test.YtlgacbjopobeoaaGreatDoorAM
import Derived.Lib.QuietBelow
import Derived.Deep.Cut
namespace Go.Proofs.YtlgacbjopobeoaaGreatDoor
open Go.RowKit
set_option linter.unusedVariables false

end Go.Proofs.YtlgacbjopobeoaaGreatDoor
