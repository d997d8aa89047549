/- A memory copied field by field: toMem, toDevArg of the laws. -/
import Derived.Test.YtjnddfpieogpiaaDoorRows
import Derived.Test.YtjnddfpieogpiaaDoorMb
import Derived.WalkKit
import Derived.ProofKit
import Derived.Handy
import Derived.WalkLawsBesides
import Derived.Deep.QuietTactic
import Derived.BigQuiet
import Derived.Deep.RegionWith
import Derived.WalkSpells
import Derived.Deep.LoopGhost
namespace Go.Proofs.YtjnddfpieogpiaaDoor
open Go.RowKit
set_option linter.unusedVariables false

end Go.Proofs.YtjnddfpieogpiaaDoor
