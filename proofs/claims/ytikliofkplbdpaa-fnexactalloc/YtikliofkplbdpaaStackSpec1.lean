/- The stack's calls by the model: sizes, words, places, the call at its beginning, the act of a step. -/
import Derived.Test.YtikliofkplbdpaaRows
import Derived.WalkKit
import Derived.ProofKit
import Derived.OpenShut
import Derived.ShutString
import Derived.Test.YtikliofkplbdpaaCallFns
namespace Go.Proofs.Ytikliofkplbdpaa
open Go.ChangeShapes Go.WideShapes Go.ChangeAt Go.RowKit
set_option linter.unusedVariables false

def inB (x lo hi : Int) : Bool := decide (lo ≤ x ∧ x ≤ hi)

end Go.Proofs.Ytikliofkplbdpaa
