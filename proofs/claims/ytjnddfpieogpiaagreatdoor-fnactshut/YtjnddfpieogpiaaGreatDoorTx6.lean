/- A real number taken apart: the program's realParts. -/
import Derived.Test.YtjnddfpieogpiaaGreatDoorFmAM
import Derived.Test.YtjnddfpieogpiaaGreatDoorAM
import Derived.Deep.Light
import Derived.Deep.LoopGhost
namespace Go.Proofs.YtjnddfpieogpiaaGreatDoor.Rr
open Go.RowKit
set_option linter.unusedVariables false

theorem unary_fneg2 (b : Nat) : Op.unary .neg (.float .f64 b) = pure (.float .f64 (Op.negFloat .f64 b)) := rfl
attribute [go_sem] unary_fneg2

end Go.Proofs.YtjnddfpieogpiaaGreatDoor.Rr
