/- LiCall: the call at its beginning, by the model and by the program, and the walk of its law. -/
import Derived.Test.YtpfofjcfaelocaaRows
import Derived.WalkKit
import Derived.ProofKit
import Derived.OpenShut
import Derived.ShutString
import Derived.Test.YtpfofjcfaelocaaCallFns
namespace Go.Proofs.Ytpfofjcfaelocaa
open Go.ChangeShapes Go.WideShapes Go.ChangeAt Go.RowKit
set_option linter.unusedVariables false

def liCall (k a x : Int) : Cl := if k = 1 then { clZero with k := 1, a := a, x := x } else if k = 2 then { clZero with k := 2, a := a } else if k = 3 then { clZero with k := 3, a := a } else clZero
set_option maxRecDepth 100000 in
theorem spec_licall (k a x : Int) (w : World) :
    Calls Try.prog 33 #[.int .i64 k, .int .i64 a, .int .i64 x] w fun e w' => e = .returned (.agg #[.int .i64 (liCall k a x).k, .int .i64 (liCall k a x).a, .int .i64 (liCall k a x).x, .int .i64 (liCall k a x).pc, .int .i64 (liCall k a x).p, .int .i64 (liCall k a x).c, .int .i64 (liCall k a x).w, .int .i64 (liCall k a x).r, .int .i64 (liCall k a x).v, .bool (liCall k a x).d]) ∧ Below w.heap.size w w' := by
  by_cases h1 : k = 1
  · subst h1
    go_enter Try.func33, Try.ntmps33
    go_wp2
    exact bodyPost_ret (v := .agg #[.int .i64 (liCall 1 a x).k, .int .i64 (liCall 1 a x).a, .int .i64 (liCall 1 a x).x, .int .i64 (liCall 1 a x).pc, .int .i64 (liCall 1 a x).p, .int .i64 (liCall 1 a x).c, .int .i64 (liCall 1 a x).w, .int .i64 (liCall 1 a x).r, .int .i64 (liCall 1 a x).v, .bool (liCall 1 a x).d]) (by simp [results, Try.results33, go_sem, liCall, clZero]) rfl ⟨rfl, by repeat (first | exact Below.refl _ _ | refine Below.setCell ?_ (by simp <;> omega) _ | refine Below.alloc ?_ (by simp <;> omega) _)⟩
  · by_cases h2 : k = 2
    · subst h2
      clear h1
      go_enter Try.func33, Try.ntmps33
      go_wp2
      exact bodyPost_ret (v := .agg #[.int .i64 (liCall 2 a x).k, .int .i64 (liCall 2 a x).a, .int .i64 (liCall 2 a x).x, .int .i64 (liCall 2 a x).pc, .int .i64 (liCall 2 a x).p, .int .i64 (liCall 2 a x).c, .int .i64 (liCall 2 a x).w, .int .i64 (liCall 2 a x).r, .int .i64 (liCall 2 a x).v, .bool (liCall 2 a x).d]) (by simp [results, Try.results33, go_sem, liCall, clZero]) rfl ⟨rfl, by repeat (first | exact Below.refl _ _ | refine Below.setCell ?_ (by simp <;> omega) _ | refine Below.alloc ?_ (by simp <;> omega) _)⟩
    · by_cases h3 : k = 3
      · subst h3
        clear h1 h2
        go_enter Try.func33, Try.ntmps33
        go_wp2
        exact bodyPost_ret (v := .agg #[.int .i64 (liCall 3 a x).k, .int .i64 (liCall 3 a x).a, .int .i64 (liCall 3 a x).x, .int .i64 (liCall 3 a x).pc, .int .i64 (liCall 3 a x).p, .int .i64 (liCall 3 a x).c, .int .i64 (liCall 3 a x).w, .int .i64 (liCall 3 a x).r, .int .i64 (liCall 3 a x).v, .bool (liCall 3 a x).d]) (by simp [results, Try.results33, go_sem, liCall, clZero]) rfl ⟨rfl, by repeat (first | exact Below.refl _ _ | refine Below.setCell ?_ (by simp <;> omega) _ | refine Below.alloc ?_ (by simp <;> omega) _)⟩
      · have e1 : (k == 1) = false := by simpa using h1
        have e2 : (k == 2) = false := by simpa using h2
        have e3 : (k == 3) = false := by simpa using h3
        have e4 : liCall k a x = clZero := by unfold liCall; rw [if_neg h1, if_neg h2, if_neg h3]
        rw [e4]
        clear h1 h2 h3 e4
        go_enter Try.func33, Try.ntmps33
        go_wp2
        exact bodyPost_ret (v := .agg #[.int .i64 clZero.k, .int .i64 clZero.a, .int .i64 clZero.x, .int .i64 clZero.pc, .int .i64 clZero.p, .int .i64 clZero.c, .int .i64 clZero.w, .int .i64 clZero.r, .int .i64 clZero.v, .bool clZero.d]) (by simp [results, Try.results33, go_sem, clZero]) rfl ⟨rfl, by repeat (first | exact Below.refl _ _ | refine Below.setCell ?_ (by simp <;> omega) _ | refine Below.alloc ?_ (by simp <;> omega) _)⟩
set_option maxRecDepth 100000 in
theorem impl_licall (k a x : Int) (w : World) :
    Calls Try.prog 55 #[.int .i64 k, .int .i64 a, .int .i64 x] w fun e w' => e = .returned (.agg #[.int .i64 (liCall k a x).k, .int .i64 (liCall k a x).a, .int .i64 (liCall k a x).x, .int .i64 (liCall k a x).pc, .int .i64 (liCall k a x).p, .int .i64 (liCall k a x).c, .int .i64 (liCall k a x).w, .int .i64 (liCall k a x).r, .int .i64 (liCall k a x).v, .bool (liCall k a x).d]) ∧ Below w.heap.size w w' := by
  by_cases h1 : k = 1
  · subst h1
    go_enter Try.func55, Try.ntmps55
    go_wp2
    exact bodyPost_ret (v := .agg #[.int .i64 (liCall 1 a x).k, .int .i64 (liCall 1 a x).a, .int .i64 (liCall 1 a x).x, .int .i64 (liCall 1 a x).pc, .int .i64 (liCall 1 a x).p, .int .i64 (liCall 1 a x).c, .int .i64 (liCall 1 a x).w, .int .i64 (liCall 1 a x).r, .int .i64 (liCall 1 a x).v, .bool (liCall 1 a x).d]) (by simp [results, Try.results55, go_sem, liCall, clZero]) rfl ⟨rfl, by repeat (first | exact Below.refl _ _ | refine Below.setCell ?_ (by simp <;> omega) _ | refine Below.alloc ?_ (by simp <;> omega) _)⟩
  · by_cases h2 : k = 2
    · subst h2
      clear h1
      go_enter Try.func55, Try.ntmps55
      go_wp2
      exact bodyPost_ret (v := .agg #[.int .i64 (liCall 2 a x).k, .int .i64 (liCall 2 a x).a, .int .i64 (liCall 2 a x).x, .int .i64 (liCall 2 a x).pc, .int .i64 (liCall 2 a x).p, .int .i64 (liCall 2 a x).c, .int .i64 (liCall 2 a x).w, .int .i64 (liCall 2 a x).r, .int .i64 (liCall 2 a x).v, .bool (liCall 2 a x).d]) (by simp [results, Try.results55, go_sem, liCall, clZero]) rfl ⟨rfl, by repeat (first | exact Below.refl _ _ | refine Below.setCell ?_ (by simp <;> omega) _ | refine Below.alloc ?_ (by simp <;> omega) _)⟩
    · by_cases h3 : k = 3
      · subst h3
        clear h1 h2
        go_enter Try.func55, Try.ntmps55
        go_wp2
        exact bodyPost_ret (v := .agg #[.int .i64 (liCall 3 a x).k, .int .i64 (liCall 3 a x).a, .int .i64 (liCall 3 a x).x, .int .i64 (liCall 3 a x).pc, .int .i64 (liCall 3 a x).p, .int .i64 (liCall 3 a x).c, .int .i64 (liCall 3 a x).w, .int .i64 (liCall 3 a x).r, .int .i64 (liCall 3 a x).v, .bool (liCall 3 a x).d]) (by simp [results, Try.results55, go_sem, liCall, clZero]) rfl ⟨rfl, by repeat (first | exact Below.refl _ _ | refine Below.setCell ?_ (by simp <;> omega) _ | refine Below.alloc ?_ (by simp <;> omega) _)⟩
      · have e1 : (k == 1) = false := by simpa using h1
        have e2 : (k == 2) = false := by simpa using h2
        have e3 : (k == 3) = false := by simpa using h3
        have e4 : liCall k a x = clZero := by unfold liCall; rw [if_neg h1, if_neg h2, if_neg h3]
        rw [e4]
        clear h1 h2 h3 e4
        go_enter Try.func55, Try.ntmps55
        go_wp2
        exact bodyPost_ret (v := .agg #[.int .i64 clZero.k, .int .i64 clZero.a, .int .i64 clZero.x, .int .i64 clZero.pc, .int .i64 clZero.p, .int .i64 clZero.c, .int .i64 clZero.w, .int .i64 clZero.r, .int .i64 clZero.v, .bool clZero.d]) (by simp [results, Try.results55, go_sem, clZero]) rfl ⟨rfl, by repeat (first | exact Below.refl _ _ | refine Below.setCell ?_ (by simp <;> omega) _ | refine Below.alloc ?_ (by simp <;> omega) _)⟩

end Go.Proofs.Ytpfofjcfaelocaa
