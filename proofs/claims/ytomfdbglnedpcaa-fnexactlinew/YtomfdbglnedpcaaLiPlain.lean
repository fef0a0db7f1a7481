/- The list's cells, plainly. -/
import Derived.Test.YtomfdbglnedpcaaRows
import Derived.WalkKit
import Derived.ProofKit
import Derived.OpenShut
import Derived.ShutString
import Derived.Test.YtomfdbglnedpcaaStackPlain
namespace Go.Proofs.Ytomfdbglnedpcaa
open Go.ChangeShapes Go.WideShapes Go.ChangeAt Go.RowKit
set_option linter.unusedVariables false

def liNewL (n : Int) : List Int := if szB n = true then List.replicate (1 + 2 * n.toNat) 0 else []
theorem liNewL_len (n : Int) : (liNewL n).length ≤ 33 := by
  unfold liNewL
  by_cases h : szB n = true
  · rw [if_pos h]
    have : 1 ≤ n ∧ n ≤ 16 := of_decide_eq_true h
    simp
    omega
  · rw [if_neg h]; simp

end Go.Proofs.Ytomfdbglnedpcaa
