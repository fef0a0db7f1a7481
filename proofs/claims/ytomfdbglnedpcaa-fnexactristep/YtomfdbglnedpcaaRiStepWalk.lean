/- The walk of the law of RiStep, put together. -/
import Derived.Test.YtomfdbglnedpcaaRows
import Derived.WalkKit
import Derived.ProofKit
import Derived.OpenShut
import Derived.ShutString
import Derived.Test.YtomfdbglnedpcaaRiStepReg1
import Derived.Test.YtomfdbglnedpcaaRiStepReg2
import Derived.Test.YtomfdbglnedpcaaRiStepReg3
namespace Go.Proofs.Ytomfdbglnedpcaa
open Go.ChangeShapes Go.WideShapes Go.ChangeAt Go.RowKit
set_option linter.unusedVariables false

theorem walk_RiStep (n : Int) (c : Cl) (m0 : Value) (xs L : List Int) (co : Cl) (B : Bool) (w : World) (r0 : InRow w m0 xs) (n0 : xs.length ≤ maxLen) (hl : L.length ≤ 4194304)
    (hS : xs.length ≤ 1048576 → ∀ lo hi v W, hi ≤ W.heap.size → Row W lo hi v (ints xs) → Calls Try.prog 10 #[.int .i64 n, .agg #[v], .agg #[.int .i64 c.k, .int .i64 c.a, .int .i64 c.x, .int .i64 c.pc, .int .i64 c.p, .int .i64 c.c, .int .i64 c.w, .int .i64 c.r, .int .i64 c.v, .bool c.d]] W fun e w' => ∃ v', e = .returned (.tuple #[.agg #[v'], .agg #[.int .i64 co.k, .int .i64 co.a, .int .i64 co.x, .int .i64 co.pc, .int .i64 co.p, .int .i64 co.c, .int .i64 co.w, .int .i64 co.r, .int .i64 co.v, .bool co.d], .bool B]) ∧ Row w' W.heap.size w'.heap.size v' (ints L) ∧ Below W.heap.size W w')
    (hI : xs.length ≤ 1048576 → ∀ lo hi v W, hi ≤ W.heap.size → Row W lo hi v (ints xs) → Calls Try.prog 13 #[.int .i64 n, .agg #[v], .agg #[.int .i64 c.k, .int .i64 c.a, .int .i64 c.x, .int .i64 c.pc, .int .i64 c.p, .int .i64 c.c, .int .i64 c.w, .int .i64 c.r, .int .i64 c.v, .bool c.d]] W fun e w' => ∃ v', e = .returned (.tuple #[.agg #[v'], .agg #[.int .i64 co.k, .int .i64 co.a, .int .i64 co.x, .int .i64 co.pc, .int .i64 co.p, .int .i64 co.c, .int .i64 co.w, .int .i64 co.r, .int .i64 co.v, .bool co.d], .bool B]) ∧ Row w' W.heap.size w'.heap.size v' (ints L) ∧ Below W.heap.size W w') :
    Calls Try.prog 3 #[.int .i64 n, .agg #[m0], .agg #[.int .i64 c.k, .int .i64 c.a, .int .i64 c.x, .int .i64 c.pc, .int .i64 c.p, .int .i64 c.c, .int .i64 c.w, .int .i64 c.r, .int .i64 c.v, .bool c.d]] w fun e w' => e = .returned (.bool true) ∧ Below w.heap.size w w' :=
  riSkel.2.2.2 ⟨ri_reg1⟩ ⟨ri_reg2⟩ ⟨ri_reg3⟩ n c m0 xs L co B w r0 n0 hl hS hI

end Go.Proofs.Ytomfdbglnedpcaa
