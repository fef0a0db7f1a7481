/- A text of one byte. -/
import Derived.Test.YtijmjpjclhgaoaaRows
import Derived.WalkKit
import Derived.ProofKit
import Derived.OpenShut
import Derived.ShutString
import Derived.Test.YtijmjpjclhgaoaaNumPlain
import Derived.Laws.IdiomStrings
namespace Go.Proofs.Ytijmjpjclhgaoaa
open Go.ChangeShapes Go.WideShapes Go.ChangeAt Go.RowKit
set_option linter.unusedVariables false

theorem one_byte (x : Int) (d : Nat) (h : x = ((48 + d : Nat) : Int)) (hd : d < 10) (W : World) (b : Nat) (hc : W.cell? ⟨b, 0, none⟩ = some (.int .u8 x)) :
    (convert 107 9 (.slice (some ⟨b, 0, none⟩) 1 1)).run Try.prog W = .ok (.string ⟨#[digB d]⟩) W := by
  have e : (digB d).toNat = 48 + d := by unfold digB; simp; omega
  have := run_convert_bytes_back (P := Try.prog) W 107 9 5 ⟨b, 0, none⟩ 1 [digB d] Try.underlying107 Try.underlying5 Try.underlying9 (fun j hj => by
    have hj0 : j = 0 := by simpa using hj
    subst hj0
    show W.cell? ⟨b, 0, none⟩ = some (.int .u8 ((digB d).toNat : Int))
    rw [hc, e, h])
  simpa using this

end Go.Proofs.Ytijmjpjclhgaoaa
