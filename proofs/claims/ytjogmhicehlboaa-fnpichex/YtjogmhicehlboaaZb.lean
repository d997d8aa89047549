/- Instructions handed in. -/
import Derived.Test.YtjogmhicehlboaaGeM
import Derived.Test.YtjogmhicehlboaaZaM
namespace Go.Proofs.Ytjogmhicehlboaa
open Go.RowKit
set_option linter.unusedVariables false

section
variable {H : Type} {enc : TypeId × Value → H} {w : World} {base : Nat} {sp : Nat → Bool} {held : Bool}
end
end Go.Proofs.Ytjogmhicehlboaa