/- Whether a pool is well: both sides. -/
import Derived.Test.YtdcnakpkmgepgaaRows
import Derived.WalkKit
import Derived.ProofKit
import Derived.OpenShut
import Derived.ShutString
import Derived.Test.YtdcnakpkmgepgaaSpecPoolOk2
import Derived.Test.YtdcnakpkmgepgaaImplPoolOk
namespace Go.Proofs.Ytdcnakpkmgepgaa
open Go.ChangeShapes Go.WideShapes Go.ChangeAt Go.RowKit
set_option linter.unusedVariables false

theorem plOk_both : True := trivial

end Go.Proofs.Ytdcnakpkmgepgaa
