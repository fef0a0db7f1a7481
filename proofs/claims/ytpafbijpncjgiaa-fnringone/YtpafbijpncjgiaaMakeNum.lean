/- MakeNum of the model: a number in its range. -/
import Derived.Test.YtpafbijpncjgiaaRows
import Derived.WalkKit
import Derived.ProofKit
import Derived.OpenShut
import Derived.ShutString
import Derived.Test.YtpafbijpncjgiaaDraw
namespace Go.Proofs.Ytpafbijpncjgiaa
open Go.ChangeShapes Go.WideShapes Go.ChangeAt Go.RowKit
set_option linter.unusedVariables false

theorem cur_new (w : World) (a : Option Addr) (len cap : Nat) (h : Int) : Cur (w.alloc (.cells #[.slice a len cap, .int .i64 0, .int .i64 h] 60)) w.heap.size a len cap 0 h := by
  have hg := heap_alloc_new w (.cells #[.slice a len cap, .int .i64 0, .int .i64 h] 60)
  refine ⟨?_, ?_, ?_, ?_, ?_, Nat.zero_le _⟩
  all_goals first | (unfold World.cell?; rw [hg]; rfl) | (unfold World.frozen?; rw [hg]; rfl)
set_option maxHeartbeats 1000000 in
set_option maxRecDepth 100000 in
theorem make_num (w : World) (a : Option Addr) (len cap : Nat) (n : Int) (hB : Bytes w w.heap.size a len) (h1 : 256 < n) (h2 : n ≤ 4294967296) :
    Calls Try.prog 9 #[.slice a len cap, .int .i64 n] w fun e w' => ∃ x : Int, e = .returned (.int .i64 x) ∧ 0 ≤ x ∧ x < n ∧ Below w.heap.size w w' := by
  go_enter Try.func9, Try.ntmps9
  go_wp2_with fail
  refine (new_any _ a len cap hB).mono ?_
  rintro e w1 ⟨h, rfl, rfl⟩
  go_wp2_with fail
  have hb1 : ∀ v, Below w.heap.size w (w.alloc (.cells #[.slice a len cap, .int .i64 0, .int .i64 v] 60)) := fun v => (Below.refl _ _).alloc (Nat.le_refl _) _
  refine (below_big _ w.heap.size a len cap 0 _ n (Bytes.below hB (hb1 _)) (cur_new w a len cap _) h1 h2).mono ?_
  rintro e w2 ⟨x, rfl, x1, x2, b2, _⟩
  go_wp2
  go_ret
  exact ⟨x, rfl, x1, x2, (hb1 _).trans b2⟩

end Go.Proofs.Ytpafbijpncjgiaa
