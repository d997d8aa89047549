/- Instructions handed in. -/
import Derived.Test.YtbncgacnikmomaaDoorGeM
import Derived.Test.YtbncgacnikmomaaDoorZaM
namespace Go.Proofs.YtbncgacnikmomaaDoor
open Go.RowKit
set_option linter.unusedVariables false

section
variable {H : Type} {enc : TypeId × Value → H} {w : World} {base : Nat} {sp : Nat → Bool} {held : Bool}
end
end Go.Proofs.YtbncgacnikmomaaDoor