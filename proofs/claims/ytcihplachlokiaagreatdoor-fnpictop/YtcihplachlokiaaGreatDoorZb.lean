/- Instructions handed in. -/
import Derived.Test.YtcihplachlokiaaGreatDoorGeM
import Derived.Test.YtcihplachlokiaaGreatDoorZaM
namespace Go.Proofs.YtcihplachlokiaaGreatDoor
open Go.RowKit
set_option linter.unusedVariables false

section
variable {H : Type} {enc : TypeId × Value → H} {w : World} {base : Nat} {sp : Nat → Bool} {held : Bool}
end
end Go.Proofs.YtcihplachlokiaaGreatDoor