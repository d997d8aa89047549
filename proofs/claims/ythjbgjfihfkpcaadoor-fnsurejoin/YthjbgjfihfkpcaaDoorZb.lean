/- Instructions handed in. -/
import Derived.Test.YthjbgjfihfkpcaaDoorGeM
import Derived.Test.YthjbgjfihfkpcaaDoorZaM
namespace Go.Proofs.YthjbgjfihfkpcaaDoor
open Go.RowKit
set_option linter.unusedVariables false

section
variable {H : Type} {enc : TypeId × Value → H} {w : World} {base : Nat} {sp : Nat → Bool} {held : Bool}
end
end Go.Proofs.YthjbgjfihfkpcaaDoor