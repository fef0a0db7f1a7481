/- Worlds below a block: plain lemmas. -/
import Derived.Test.YtpokelkaonbefaaRows
import Derived.WalkKit
import Derived.ProofKit
import Derived.OpenShut
import Derived.ShutString
namespace Go.Proofs.Ytpokelkaonbefaa
open Go.ChangeShapes Go.WideShapes Go.ChangeAt Go.RowKit
set_option linter.unusedVariables false

theorem bcell {W w1 : World} (hb : Below W.heap.size W w1) : (∀ b o, b < W.heap.size → w1.cell? ⟨b, o, none⟩ = W.cell? ⟨b, o, none⟩) ∧ (∀ b o, b < W.heap.size → w1.frozen? ⟨b, o, none⟩ = W.frozen? ⟨b, o, none⟩) :=
  ⟨fun b o h => hb.cell (p := ⟨b, o, none⟩) h, fun b o h => hb.frozen (p := ⟨b, o, none⟩) h⟩
theorem hidIt {p : Prop} (h : p) : Hid p := h
theorem below_cell {B : Nat} {w w' : World} {b o : Nat} {x : Option Value} (h : Below B w w') (hb : b < B) (hx : w.cell? ⟨b, o, none⟩ = x) : w'.cell? ⟨b, o, none⟩ = x := (h.cell (p := ⟨b, o, none⟩) hb).trans hx
theorem below_frozen {B : Nat} {w w' : World} {b o : Nat} {x : Bool} (h : Below B w w') (hb : b < B) (hx : w.frozen? ⟨b, o, none⟩ = x) : w'.frozen? ⟨b, o, none⟩ = x := (h.frozen (p := ⟨b, o, none⟩) hb).trans hx
theorem have_intro {P Q : Prop} (h : P) (k : P → Q) : Q := k h

end Go.Proofs.Ytpokelkaonbefaa
