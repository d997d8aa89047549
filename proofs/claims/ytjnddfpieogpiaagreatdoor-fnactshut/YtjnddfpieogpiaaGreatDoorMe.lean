/- Two memories compared field by field: the rows. -/
import Derived.Test.YtjnddfpieogpiaaGreatDoorMbM
import Derived.Test.YtjnddfpieogpiaaGreatDoorAM
import Derived.Lib.QuietBelow
import Derived.Deep.Cut
namespace Go.Proofs.YtjnddfpieogpiaaGreatDoor
open Go.RowKit
set_option linter.unusedVariables false

end Go.Proofs.YtjnddfpieogpiaaGreatDoor
