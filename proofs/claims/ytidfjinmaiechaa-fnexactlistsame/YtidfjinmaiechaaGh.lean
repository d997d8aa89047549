/- The specification's TreeSame. -/
import Derived.Test.YtidfjinmaiechaaGg
namespace Go.Proofs.Ytidfjinmaiechaa
open Go.RowKit
set_option linter.unusedVariables false


end Go.Proofs.Ytidfjinmaiechaa
