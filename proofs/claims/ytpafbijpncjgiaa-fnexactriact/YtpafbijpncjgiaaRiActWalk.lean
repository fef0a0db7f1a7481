/- The walk of the law of RiAct, over the contracts of the two functions. -/
import Derived.Test.YtpafbijpncjgiaaRows
import Derived.WalkKit
import Derived.ProofKit
import Derived.OpenShut
import Derived.ShutString
import Derived.Test.YtpafbijpncjgiaaCallFns
namespace Go.Proofs.Ytpafbijpncjgiaa
open Go.ChangeShapes Go.WideShapes Go.ChangeAt Go.RowKit
set_option linter.unusedVariables false

set_option maxHeartbeats 800000 in
set_option maxRecDepth 100000 in
theorem walk_RiAct (n : Int) (c : Cl) (w : World) (ac : Ac) (ok : Bool)
    (hS : ∀ W, Calls Try.prog 22 #[.int .i64 n, .agg #[.int .i64 c.k, .int .i64 c.a, .int .i64 c.x, .int .i64 c.pc, .int .i64 c.p, .int .i64 c.c, .int .i64 c.w, .int .i64 c.r, .int .i64 c.v, .bool c.d]] W fun e w' => e = .returned (.tuple #[.agg #[.int .i64 ac.k, .int .i64 ac.t, .int .i64 ac.a, .int .i64 ac.b], .bool ok]) ∧ Below W.heap.size W w')
    (hI : ∀ W, Calls Try.prog 24 #[.int .i64 n, .agg #[.int .i64 c.k, .int .i64 c.a, .int .i64 c.x, .int .i64 c.pc, .int .i64 c.p, .int .i64 c.c, .int .i64 c.w, .int .i64 c.r, .int .i64 c.v, .bool c.d]] W fun e w' => e = .returned (.tuple #[.agg #[.int .i64 ac.k, .int .i64 ac.t, .int .i64 ac.a, .int .i64 ac.b], .bool ok]) ∧ Below W.heap.size W w') :
    Calls Try.prog 6 #[.int .i64 n, .agg #[.int .i64 c.k, .int .i64 c.a, .int .i64 c.x, .int .i64 c.pc, .int .i64 c.p, .int .i64 c.c, .int .i64 c.w, .int .i64 c.r, .int .i64 c.v, .bool c.d]] w fun e w' => e = .returned (.bool true) ∧ Below w.heap.size w w' := by
  have HS := hidIt hS
  have HI := hidIt hI
  clear hS hI
  go_enter Try.func6, Try.ntmps6
  go_wp2_with fail
  refine (to_call c _).mono ?_
  rintro e w1 ⟨rfl, b1⟩
  have z1 := b1.size
  simp at z1
  obtain ⟨c1, -⟩ := below_bk b1 (n := w.heap.size) (by simp)
  go_wp2_with fail
  refine (HS.out _).mono ?_
  rintro e w2 ⟨rfl, b2⟩
  have z2 := b2.size
  obtain ⟨c2, -⟩ := below_bk b2 (n := w.heap.size) (by omega)
  have hz2 : w.heap.size < w2.heap.size := by omega
  go_wp2_with fail
  refine (to_call c _).mono ?_
  rintro e w3 ⟨rfl, b3⟩
  have z3 := b3.size
  simp at z3
  obtain ⟨c3, -⟩ := below_bk b3 (n := w2.heap.size) (by simp)
  go_wp2_with fail
  refine (HI.out _).mono ?_
  rintro e w4 ⟨rfl, b4⟩
  have z4 := b4.size
  obtain ⟨c4, -⟩ := below_bk b4 (n := w2.heap.size) (by omega)
  have hz4 : w2.heap.size < w4.heap.size := by omega
  go_wp2_with fail
  refine (eq_act ac _).mono ?_
  rintro e w5 ⟨rfl, b5⟩
  go_wp2
  go_ret
  exact ⟨rfl, (((((((((Below.refl w.heap.size w).alloc (Nat.le_refl _) _).trans (b1.mono (by simp <;> omega))).trans (b2.mono (by omega))).alloc (by omega) _).trans (b3.mono (by simp <;> omega))).trans (b4.mono (by omega))).alloc (by omega) _)).trans (b5.mono (by simp <;> omega))⟩

end Go.Proofs.Ytpafbijpncjgiaa
