/- Instructions handed in. -/
import Derived.Test.YtbncgacnikmomaaGeM
import Derived.Test.YtbncgacnikmomaaZaM
namespace Go.Proofs.Ytbncgacnikmomaa
open Go.RowKit
set_option linter.unusedVariables false

section
variable {H : Type} {enc : TypeId × Value → H} {w : World} {base : Nat} {sp : Nat → Bool} {held : Bool}
end
end Go.Proofs.Ytbncgacnikmomaa