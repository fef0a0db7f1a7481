/- Rows of threads: measured, copied, held against one another. -/
import Derived.Test.YtikliofkplbdpaaRows
import Derived.WalkKit
import Derived.ProofKit
import Derived.OpenShut
import Derived.ShutString
import Derived.Test.YtikliofkplbdpaaCallRows
import Derived.Test.YtikliofkplbdpaaIntCopy
import Derived.Test.YtikliofkplbdpaaMemFns
namespace Go.Proofs.Ytikliofkplbdpaa
open Go.ChangeShapes Go.WideShapes Go.ChangeAt Go.RowKit
set_option linter.unusedVariables false

def szR (l : Int) (n : Nat) : Int := if l < n then -1 else l - n
def szTh (t : Th) : Nat := t.cs.length + t.bs.length + t.es.length
def pS (ts : List Th) : Nat → Nat
  | 0 => 0
  | k + 1 => pS ts k + szTh (ts.getD k default)
def szThs (ts : List Th) : Nat := ts.length + pS ts ts.length
theorem pS_mono (ts : List Th) {a b : Nat} (h : a ≤ b) : pS ts a ≤ pS ts b := by
  induction b with
  | zero => obtain rfl : a = 0 := by omega
            exact Nat.le_refl _
  | succ b ih =>
    by_cases e : a = b + 1
    · subst e; exact Nat.le_refl _
    · exact Nat.le_trans (ih (by omega)) (Nat.le_add_right _ _)
def TsLim (ts : List Th) : Prop := ∀ j (hj : j < ts.length), ts[j].cs.length ≤ 9223372036854775807 ∧ ts[j].bs.length ≤ 9223372036854775807 ∧ ts[j].es.length ≤ 9223372036854775807
theorem getD_at {α : Type} [Inhabited α] (ts : List α) (k : Nat) (h : k < ts.length) : ts.getD k default = ts[k] := by simp [List.getD, List.getElem?_eq_getElem h]
theorem pS_step (ts : List Th) (k : Nat) (h : k < ts.length) : pS ts (k + 1) = pS ts k + szTh ts[k] := by
  show pS ts k + szTh (ts.getD k default) = _
  rw [getD_at ts k h]

end Go.Proofs.Ytikliofkplbdpaa
