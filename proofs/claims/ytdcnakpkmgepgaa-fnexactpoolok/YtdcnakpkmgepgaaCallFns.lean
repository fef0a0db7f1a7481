/- Calls and acts by value: copied, held against one another. -/
import Derived.Test.YtdcnakpkmgepgaaRows
import Derived.WalkKit
import Derived.ProofKit
import Derived.OpenShut
import Derived.ShutString
import Derived.Test.YtdcnakpkmgepgaaStackPlain
import Derived.Test.YtdcnakpkmgepgaaBasePlain
namespace Go.Proofs.Ytdcnakpkmgepgaa
open Go.ChangeShapes Go.WideShapes Go.ChangeAt Go.RowKit
set_option linter.unusedVariables false



end Go.Proofs.Ytdcnakpkmgepgaa
