/- The specification's TreeSame. -/
import Derived.Test.YthjbgjfihfkpcaaDoorGg
namespace Go.Proofs.YthjbgjfihfkpcaaDoor
open Go.RowKit
set_option linter.unusedVariables false


end Go.Proofs.YthjbgjfihfkpcaaDoor
