/- Worlds below a block: plain lemmas. -/
import Derived.Test.YtikliofkplbdpaaRows
import Derived.WalkKit
import Derived.ProofKit
import Derived.OpenShut
import Derived.ShutString
namespace Go.Proofs.Ytikliofkplbdpaa
open Go.ChangeShapes Go.WideShapes Go.ChangeAt Go.RowKit
set_option linter.unusedVariables false

theorem bcell {W w1 : World} (hb : Below W.heap.size W w1) : (∀ b o, b < W.heap.size → w1.cell? ⟨b, o, none⟩ = W.cell? ⟨b, o, none⟩) ∧ (∀ b o, b < W.heap.size → w1.frozen? ⟨b, o, none⟩ = W.frozen? ⟨b, o, none⟩) :=
  ⟨fun b o h => hb.cell (p := ⟨b, o, none⟩) h, fun b o h => hb.frozen (p := ⟨b, o, none⟩) h⟩
theorem hidIt {p : Prop} (h : p) : Hid p := h
theorem below_cell {B : Nat} {w w' : World} {b o : Nat} {x : Option Value} (h : Below B w w') (hb : b < B) (hx : w.cell? ⟨b, o, none⟩ = x) : w'.cell? ⟨b, o, none⟩ = x := (h.cell (p := ⟨b, o, none⟩) hb).trans hx
theorem below_frozen {B : Nat} {w w' : World} {b o : Nat} {x : Bool} (h : Below B w w') (hb : b < B) (hx : w.frozen? ⟨b, o, none⟩ = x) : w'.frozen? ⟨b, o, none⟩ = x := (h.frozen (p := ⟨b, o, none⟩) hb).trans hx
theorem have_intro {P Q : Prop} (h : P) (k : P → Q) : Q := k h
theorem below_bk {X Y : World} (b : Below X.heap.size X Y) {n : Nat} (h : n < X.heap.size) : (∀ o, Y.cell? ⟨n, o, none⟩ = X.cell? ⟨n, o, none⟩) ∧ ∀ o, Y.frozen? ⟨n, o, none⟩ = X.frozen? ⟨n, o, none⟩ := ⟨fun o => b.cell (p := ⟨n, o, none⟩) h, fun o => b.frozen (p := ⟨n, o, none⟩) h⟩

end Go.Proofs.Ytikliofkplbdpaa
