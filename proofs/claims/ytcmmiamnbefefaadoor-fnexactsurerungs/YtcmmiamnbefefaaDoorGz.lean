/- Copies of ladders, with their room. -/
import Derived.Test.YtcmmiamnbefefaaDoorGd
namespace Go.Proofs.YtcmmiamnbefefaaDoor
open Go.RowKit
set_option linter.unusedVariables false

end Go.Proofs.YtcmmiamnbefefaaDoor
