/- The walk of the law of StCall, over the contracts of the two functions. -/
import Derived.Test.YtabcmnoadoebpaaRows
import Derived.WalkKit
import Derived.ProofKit
import Derived.OpenShut
import Derived.ShutString
import Derived.Test.YtabcmnoadoebpaaCallFns
namespace Go.Proofs.Ytabcmnoadoebpaa
open Go.ChangeShapes Go.WideShapes Go.ChangeAt Go.RowKit
set_option linter.unusedVariables false

set_option maxHeartbeats 800000 in
set_option maxRecDepth 100000 in
theorem walk_StCall (k a : Int) (w : World)
    (hS : ∀ W, Calls Try.prog 20 #[.int .i64 k, .int .i64 a] W fun e w' => e = .returned (.agg #[.int .i64 (stCall k a).k, .int .i64 (stCall k a).a, .int .i64 (stCall k a).x, .int .i64 (stCall k a).pc, .int .i64 (stCall k a).p, .int .i64 (stCall k a).c, .int .i64 (stCall k a).w, .int .i64 (stCall k a).r, .int .i64 (stCall k a).v, .bool (stCall k a).d]) ∧ Below W.heap.size W w')
    (hI : ∀ W, Calls Try.prog 13 #[.int .i64 k, .int .i64 a] W fun e w' => e = .returned (.agg #[.int .i64 (stCall k a).k, .int .i64 (stCall k a).a, .int .i64 (stCall k a).x, .int .i64 (stCall k a).pc, .int .i64 (stCall k a).p, .int .i64 (stCall k a).c, .int .i64 (stCall k a).w, .int .i64 (stCall k a).r, .int .i64 (stCall k a).v, .bool (stCall k a).d]) ∧ Below W.heap.size W w') :
    Calls Try.prog 5 #[.int .i64 k, .int .i64 a] w fun e w' => e = .returned (.bool true) ∧ Below w.heap.size w w' := by
  have HS := hidIt hS
  have HI := hidIt hI
  clear hS hI
  generalize stCall k a = c at HS HI
  go_enter Try.func5, Try.ntmps5
  go_wp2_with fail
  refine (HS.out _).mono ?_
  rintro e w1 ⟨rfl, b1⟩
  have z1 := b1.size
  go_wp2_with fail
  refine (HI.out _).mono ?_
  rintro e w2 ⟨rfl, b2⟩
  have z2 := b2.size
  simp at z2
  obtain ⟨c2, -⟩ := below_bk b2 (n := w1.heap.size) (by simp)
  have hz : w1.heap.size < w2.heap.size := by omega
  go_wp2_with fail
  refine (eq_call c _).mono ?_
  rintro e w3 ⟨rfl, b3⟩
  go_wp2
  go_ret
  exact ⟨rfl, ((((b1.alloc z1 _).trans (b2.mono (by simp <;> omega))).alloc (by omega) _)).trans (b3.mono (by simp <;> omega))⟩

end Go.Proofs.Ytabcmnoadoebpaa
