/- The stack's calls by the model: sizes, words, places, the call at its beginning, the act of a step. -/
import Derived.Test.YtpfofjcfaelocaaRows
import Derived.WalkKit
import Derived.ProofKit
import Derived.OpenShut
import Derived.ShutString
import Derived.Test.YtpfofjcfaelocaaCallFns
namespace Go.Proofs.Ytpfofjcfaelocaa
open Go.ChangeShapes Go.WideShapes Go.ChangeAt Go.RowKit
set_option linter.unusedVariables false

theorem spec_size (n : Int) (w : World) :
    Calls Try.prog 44 #[.int .i64 n] w fun e w' => e = .returned (.bool (szB n)) ∧ w' = w := by
  by_cases h1 : 1 ≤ n
  · by_cases h2 : n ≤ 16
    · have hb : szB n = true := decide_eq_true ⟨h1, h2⟩
      rw [hb]
      clear hb
      go_enter Try.func44, Try.ntmps44
      go_wp2
      go_ret
      simp
    · have hb : szB n = false := decide_eq_false (by omega)
      rw [hb]
      clear hb
      go_enter Try.func44, Try.ntmps44
      go_wp2
      go_ret
      simp
  · have hb : szB n = false := decide_eq_false (by omega)
    rw [hb]
    clear hb
    go_enter Try.func44, Try.ntmps44
    go_wp2
    go_ret
    exact ⟨rfl, rfl⟩
def inB (x lo hi : Int) : Bool := decide (lo ≤ x ∧ x ≤ hi)
set_option maxRecDepth 100000 in
theorem spec_stcall (k a : Int) (w : World) :
    Calls Try.prog 31 #[.int .i64 k, .int .i64 a] w fun e w' => e = .returned (.agg #[.int .i64 (stCall k a).k, .int .i64 (stCall k a).a, .int .i64 (stCall k a).x, .int .i64 (stCall k a).pc, .int .i64 (stCall k a).p, .int .i64 (stCall k a).c, .int .i64 (stCall k a).w, .int .i64 (stCall k a).r, .int .i64 (stCall k a).v, .bool (stCall k a).d]) ∧ Below w.heap.size w w' := by
  by_cases h1 : k = 1
  · subst h1
    go_enter Try.func31, Try.ntmps31
    go_wp2
    exact bodyPost_ret (v := .agg #[.int .i64 (stCall 1 a).k, .int .i64 (stCall 1 a).a, .int .i64 (stCall 1 a).x, .int .i64 (stCall 1 a).pc, .int .i64 (stCall 1 a).p, .int .i64 (stCall 1 a).c, .int .i64 (stCall 1 a).w, .int .i64 (stCall 1 a).r, .int .i64 (stCall 1 a).v, .bool (stCall 1 a).d]) (by simp [results, Try.results31, go_sem, stCall, clZero]) rfl ⟨rfl, by repeat (first | exact Below.refl _ _ | refine Below.setCell ?_ (by simp <;> omega) _ | refine Below.alloc ?_ (by simp <;> omega) _)⟩
  · by_cases h2 : k = 2
    · subst h2
      clear h1
      go_enter Try.func31, Try.ntmps31
      go_wp2
      exact bodyPost_ret (v := .agg #[.int .i64 (stCall 2 a).k, .int .i64 (stCall 2 a).a, .int .i64 (stCall 2 a).x, .int .i64 (stCall 2 a).pc, .int .i64 (stCall 2 a).p, .int .i64 (stCall 2 a).c, .int .i64 (stCall 2 a).w, .int .i64 (stCall 2 a).r, .int .i64 (stCall 2 a).v, .bool (stCall 2 a).d]) (by simp [results, Try.results31, go_sem, stCall, clZero]) rfl ⟨rfl, by repeat (first | exact Below.refl _ _ | refine Below.setCell ?_ (by simp <;> omega) _ | refine Below.alloc ?_ (by simp <;> omega) _)⟩
    · have e1 : (k == 1) = false := by simpa using h1
      have e2 : (k == 2) = false := by simpa using h2
      have e3 : stCall k a = clZero := by unfold stCall; rw [if_neg h1, if_neg h2]
      rw [e3]
      clear h1 h2 e3
      go_enter Try.func31, Try.ntmps31
      go_wp2
      exact bodyPost_ret (v := .agg #[.int .i64 clZero.k, .int .i64 clZero.a, .int .i64 clZero.x, .int .i64 clZero.pc, .int .i64 clZero.p, .int .i64 clZero.c, .int .i64 clZero.w, .int .i64 clZero.r, .int .i64 clZero.v, .bool clZero.d]) (by simp [results, Try.results31, go_sem, clZero]) rfl ⟨rfl, by repeat (first | exact Below.refl _ _ | refine Below.setCell ?_ (by simp <;> omega) _ | refine Below.alloc ?_ (by simp <;> omega) _)⟩

end Go.Proofs.Ytpfofjcfaelocaa
