/- Rows of texts: held against one another, marked, looked at again. -/
import Derived.Test.YtijmjpjclhgaoaaRows
import Derived.WalkKit
import Derived.ProofKit
import Derived.OpenShut
import Derived.ShutString
import Derived.Test.YtijmjpjclhgaoaaSliceRow
import Derived.Test.YtijmjpjclhgaoaaMarkText
import Derived.Deep.QuietTactic
import Derived.BigQuiet
import Derived.Deep.RegionWith
namespace Go.Proofs.Ytijmjpjclhgaoaa
open Go.ChangeShapes Go.WideShapes Go.ChangeAt Go.RowKit
set_option linter.unusedVariables false

theorem ret_boolx {a b : Bool} (h : a = b) : Ending.returned (.bool a) = .returned (.bool b) := by rw [h]
theorem ret_ints {k : IntKind} {a b : Int} (h : a = b) : Ending.returned (.int k a) = .returned (.int k b) := by rw [h]

def marks (k0 n : Nat) : List Value := (List.range n).map fun j => Value.string (mt (k0 + j))
theorem marks_len (k0 n : Nat) : (marks k0 n).length = n := by simp [marks]

end Go.Proofs.Ytijmjpjclhgaoaa
