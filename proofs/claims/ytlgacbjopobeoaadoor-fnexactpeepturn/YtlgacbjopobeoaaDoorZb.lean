/- Instructions handed in. -/
import Derived.Test.YtlgacbjopobeoaaDoorGeM
import Derived.Test.YtlgacbjopobeoaaDoorZaM
namespace Go.Proofs.YtlgacbjopobeoaaDoor
open Go.RowKit
set_option linter.unusedVariables false

section
variable {H : Type} {enc : TypeId × Value → H} {w : World} {base : Nat} {sp : Nat → Bool} {held : Bool}
end
end Go.Proofs.YtlgacbjopobeoaaDoor