/- Whether cells are a ring's, by the program. -/
import Derived.Test.YtpfofjcfaelocaaRows
import Derived.WalkKit
import Derived.ProofKit
import Derived.OpenShut
import Derived.ShutString
import Derived.Test.YtpfofjcfaelocaaRiMod
import Derived.Test.YtpfofjcfaelocaaMemFns
namespace Go.Proofs.Ytpfofjcfaelocaa
open Go.ChangeShapes Go.WideShapes Go.ChangeAt Go.RowKit
set_option linter.unusedVariables false

def rngB (n : Int) (m : Nat) : Bool := rzB n && decide ((m : Int) = 2 + 2 * n)

end Go.Proofs.Ytpfofjcfaelocaa
