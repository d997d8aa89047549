/- Nothing is laid. -/
import Derived.Test.YtbncgacnikmomaaChecked
namespace Go.Proofs.Ytbncgacnikmomaa
end Go.Proofs.Ytbncgacnikmomaa
