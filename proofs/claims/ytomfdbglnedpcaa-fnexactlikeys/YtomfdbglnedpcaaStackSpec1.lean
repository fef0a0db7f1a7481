/- The stack's calls by the model: sizes, words, places, the call at its beginning, the act of a step. -/
import Derived.Test.YtomfdbglnedpcaaRows
import Derived.WalkKit
import Derived.ProofKit
import Derived.OpenShut
import Derived.ShutString
import Derived.Test.YtomfdbglnedpcaaCallFns
namespace Go.Proofs.Ytomfdbglnedpcaa
open Go.ChangeShapes Go.WideShapes Go.ChangeAt Go.RowKit
set_option linter.unusedVariables false

theorem spec_size (n : Int) (w : World) :
    Calls Try.prog 41 #[.int .i64 n] w fun e w' => e = .returned (.bool (szB n)) ∧ w' = w := by
  by_cases h1 : 1 ≤ n
  · by_cases h2 : n ≤ 16
    · have hb : szB n = true := decide_eq_true ⟨h1, h2⟩
      rw [hb]
      clear hb
      go_enter Try.func41, Try.ntmps41
      go_wp2
      go_ret
      simp
    · have hb : szB n = false := decide_eq_false (by omega)
      rw [hb]
      clear hb
      go_enter Try.func41, Try.ntmps41
      go_wp2
      go_ret
      simp
  · have hb : szB n = false := decide_eq_false (by omega)
    rw [hb]
    clear hb
    go_enter Try.func41, Try.ntmps41
    go_wp2
    go_ret
    exact ⟨rfl, rfl⟩
def inB (x lo hi : Int) : Bool := decide (lo ≤ x ∧ x ≤ hi)
theorem spec_in (x lo hi : Int) (w : World) :
    Calls Try.prog 81 #[.int .i64 x, .int .i64 lo, .int .i64 hi] w fun e w' => e = .returned (.bool (inB x lo hi)) ∧ w' = w := by
  by_cases h1 : lo ≤ x
  · by_cases h2 : x ≤ hi
    · have hb : inB x lo hi = true := decide_eq_true ⟨h1, h2⟩
      rw [hb]
      clear hb
      go_enter Try.func81, Try.ntmps81
      go_wp2
      go_ret
      simp
    · have hb : inB x lo hi = false := decide_eq_false (by omega)
      rw [hb]
      clear hb
      go_enter Try.func81, Try.ntmps81
      go_wp2
      go_ret
      simp
  · have hb : inB x lo hi = false := decide_eq_false (by omega)
    rw [hb]
    clear hb
    go_enter Try.func81, Try.ntmps81
    go_wp2
    go_ret
    exact ⟨rfl, rfl⟩
set_option maxRecDepth 100000 in
theorem spec_load (t : Int) (w : World) :
    Calls Try.prog 47 #[.int .i64 t] w fun e w' => e = .returned (.tuple #[.agg #[.int .i64 1, .int .i64 t, .int .i64 0, .int .i64 0], .bool true]) ∧ w' = w.alloc (.cells #[.int .i64 1, .int .i64 t, .int .i64 0, .int .i64 0] 44) := by
  go_enter Try.func47, Try.ntmps47
  go_wp2
  exact bodyPost_ret (v := .tuple #[.agg #[.int .i64 1, .int .i64 t, .int .i64 0, .int .i64 0], .bool true]) (by simp [results, Try.results47, go_sem]) rfl ⟨rfl, rfl⟩
set_option maxRecDepth 100000 in
theorem spec_store (t a : Int) (w : World) :
    Calls Try.prog 49 #[.int .i64 t, .int .i64 a] w fun e w' => e = .returned (.tuple #[.agg #[.int .i64 2, .int .i64 t, .int .i64 a, .int .i64 0], .bool true]) ∧ w' = w.alloc (.cells #[.int .i64 2, .int .i64 t, .int .i64 a, .int .i64 0] 44) := by
  go_enter Try.func49, Try.ntmps49
  go_wp2
  exact bodyPost_ret (v := .tuple #[.agg #[.int .i64 2, .int .i64 t, .int .i64 a, .int .i64 0], .bool true]) (by simp [results, Try.results49, go_sem]) rfl ⟨rfl, rfl⟩
set_option maxRecDepth 100000 in
theorem spec_cas (t a b : Int) (w : World) :
    Calls Try.prog 48 #[.int .i64 t, .int .i64 a, .int .i64 b] w fun e w' => e = .returned (.tuple #[.agg #[.int .i64 3, .int .i64 t, .int .i64 a, .int .i64 b], .bool true]) ∧ w' = w.alloc (.cells #[.int .i64 3, .int .i64 t, .int .i64 a, .int .i64 b] 44) := by
  go_enter Try.func48, Try.ntmps48
  go_wp2
  exact bodyPost_ret (v := .tuple #[.agg #[.int .i64 3, .int .i64 t, .int .i64 a, .int .i64 b], .bool true]) (by simp [results, Try.results48, go_sem]) rfl ⟨rfl, rfl⟩

end Go.Proofs.Ytomfdbglnedpcaa
