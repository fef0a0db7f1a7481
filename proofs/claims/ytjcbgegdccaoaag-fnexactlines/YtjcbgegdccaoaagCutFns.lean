/- Cut and Lines of the model and of the program: the rows of their parts. -/
import Derived.Test.YtjcbgegdccaoaagRows
import Derived.WalkKit
import Derived.ProofKit
import Derived.OpenShut
import Derived.ShutString
import Derived.Test.YtjcbgegdccaoaagCutImpl
import Derived.Test.YtjcbgegdccaoaagSliceRow
namespace Go.Proofs.Ytjcbgegdccaoaag
open Go.ChangeShapes Go.WideShapes Go.ChangeAt Go.RowKit
set_option linter.unusedVariables false

theorem spec_Cut (s : ByteArray) (w : World) (hs : s.size ≤ 1048576) :
    Calls Try.prog 14 #[.string s] w fun e w' => ∃ v, e = .returned v ∧ Row w' w.heap.size w'.heap.size v ((cutAll s 32).map Value.string) ∧ Below w.heap.size w w' := by
  have h : ∀ W : World, Calls Try.prog 26 #[.string s, .int .u8 32] W fun e w' => ∃ v, e = .returned v ∧ w'.ownsRow W.heap.size 9 1 v (cutAll s 32).length ((cutAll s 32).map Value.string) ∧ Below W.heap.size W w' := fun W => spec_cut s 32 W hs
  have H : Hid _ := h
  clear h
  go_enter Try.func14, Try.ntmps14
  go_wp2_with (go_at_call 26; refine (H.out _).mono ?_; rintro e w1 ⟨v, rfl, o1, b1⟩)
  go_ret
  exact ⟨v, rfl, Row.of_owns o1, b1⟩
theorem impl_Cut (s : ByteArray) (w : World) (hs : s.size ≤ 1048576) :
    Calls Try.prog 15 #[.string s] w fun e w' => ∃ v, e = .returned v ∧ Row w' w.heap.size w'.heap.size v ((cutAll s 32).map Value.string) ∧ Below w.heap.size w w' := by
  have h : ∀ W : World, Calls Try.prog 27 #[.string s, .int .i32 32] W fun e w' => ∃ v, e = .returned v ∧ w'.ownsRow W.heap.size 9 1 v (cutAll s 32).length ((cutAll s 32).map Value.string) ∧ Below W.heap.size W w' := fun W => impl_cut s 32 (by decide) W hs
  have H : Hid _ := h
  clear h
  go_enter Try.func15, Try.ntmps15
  go_wp2_with (go_at_call 27; refine (H.out _).mono ?_; rintro e w1 ⟨v, rfl, o1, b1⟩)
  go_ret
  exact ⟨v, rfl, Row.of_owns o1, b1⟩

end Go.Proofs.Ytjcbgegdccaoaag
