/- Decimals: the specification's l26Dec (of a seat without strconv). -/
import Derived.Test.YtjnddfpieogpiaaGreatDoorAM
import Derived.Lib.ItoaMem
import Derived.Lib.ItoaLen
import Derived.Lib.QuietBelow
import Derived.Laws.IdiomStrings
import Derived.Deep.LoopGhost
import Derived.Deep.Light
namespace Go.Proofs.YtjnddfpieogpiaaGreatDoor
open Go.RowKit Go.Lib
set_option linter.unusedVariables false

open Go.Lib (decDigits itoa nDigits)

theorem decDigits_step (u : Nat) (h : 10 ≤ u) : decDigits u = decDigits (u / 10) ++ [UInt8.ofNat (48 + u % 10)] := by
  rw [decDigits, dif_neg (by omega)]

end Go.Proofs.YtjnddfpieogpiaaGreatDoor
