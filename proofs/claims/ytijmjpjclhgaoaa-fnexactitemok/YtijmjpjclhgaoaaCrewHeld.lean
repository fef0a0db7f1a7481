/- Threads and crews marked, and looked at again: whole. -/
import Derived.Test.YtijmjpjclhgaoaaRows
import Derived.WalkKit
import Derived.ProofKit
import Derived.OpenShut
import Derived.ShutString
import Derived.Test.YtijmjpjclhgaoaaCrewMark
namespace Go.Proofs.Ytijmjpjclhgaoaa
open Go.ChangeShapes Go.WideShapes Go.ChangeAt Go.RowKit
set_option linter.unusedVariables false

theorem oT_le (ts : List Th) (k0 n : Nat) : oT ts k0 n ≤ k0 + 10 * pS ts n + n := by
  induction n with
  | zero => exact Nat.le_refl _
  | succ n ih =>
    show oT ts k0 n + szM (ts.getD n default) ≤ k0 + 10 * (pS ts n + szTh (ts.getD n default)) + (n + 1)
    unfold szM szTh
    omega
theorem cw_end (C : Cw) (h : C.m.length + szThs C.ts ≤ 1048576) : endM 1 C ≤ 1073741824 := by
  have := oT_le C.ts (1 + C.m.length) C.ts.length
  unfold szThs at h
  unfold endM
  omega

end Go.Proofs.Ytijmjpjclhgaoaa
