/- LiCall: the call at its beginning, by the model and by the program, and the walk of its law. -/
import Derived.Test.YtomfdbglnedpcaaRows
import Derived.WalkKit
import Derived.ProofKit
import Derived.OpenShut
import Derived.ShutString
import Derived.Test.YtomfdbglnedpcaaCallFns
namespace Go.Proofs.Ytomfdbglnedpcaa
open Go.ChangeShapes Go.WideShapes Go.ChangeAt Go.RowKit
set_option linter.unusedVariables false

def liCall (k a x : Int) : Cl := if k = 1 then { clZero with k := 1, a := a, x := x } else if k = 2 then { clZero with k := 2, a := a } else if k = 3 then { clZero with k := 3, a := a } else clZero
set_option maxRecDepth 100000 in
theorem spec_licall (k a x : Int) (w : World) :
    Calls Try.prog 20 #[.int .i64 k, .int .i64 a, .int .i64 x] w fun e w' => e = .returned (.agg #[.int .i64 (liCall k a x).k, .int .i64 (liCall k a x).a, .int .i64 (liCall k a x).x, .int .i64 (liCall k a x).pc, .int .i64 (liCall k a x).p, .int .i64 (liCall k a x).c, .int .i64 (liCall k a x).w, .int .i64 (liCall k a x).r, .int .i64 (liCall k a x).v, .bool (liCall k a x).d]) ∧ Below w.heap.size w w' := by
  by_cases h1 : k = 1
  · subst h1
    go_enter Try.func20, Try.ntmps20
    go_wp2
    exact bodyPost_ret (v := .agg #[.int .i64 (liCall 1 a x).k, .int .i64 (liCall 1 a x).a, .int .i64 (liCall 1 a x).x, .int .i64 (liCall 1 a x).pc, .int .i64 (liCall 1 a x).p, .int .i64 (liCall 1 a x).c, .int .i64 (liCall 1 a x).w, .int .i64 (liCall 1 a x).r, .int .i64 (liCall 1 a x).v, .bool (liCall 1 a x).d]) (by simp [results, Try.results20, go_sem, liCall, clZero]) rfl ⟨rfl, by repeat (first | exact Below.refl _ _ | refine Below.setCell ?_ (by simp <;> omega) _ | refine Below.alloc ?_ (by simp <;> omega) _)⟩
  · by_cases h2 : k = 2
    · subst h2
      clear h1
      go_enter Try.func20, Try.ntmps20
      go_wp2
      exact bodyPost_ret (v := .agg #[.int .i64 (liCall 2 a x).k, .int .i64 (liCall 2 a x).a, .int .i64 (liCall 2 a x).x, .int .i64 (liCall 2 a x).pc, .int .i64 (liCall 2 a x).p, .int .i64 (liCall 2 a x).c, .int .i64 (liCall 2 a x).w, .int .i64 (liCall 2 a x).r, .int .i64 (liCall 2 a x).v, .bool (liCall 2 a x).d]) (by simp [results, Try.results20, go_sem, liCall, clZero]) rfl ⟨rfl, by repeat (first | exact Below.refl _ _ | refine Below.setCell ?_ (by simp <;> omega) _ | refine Below.alloc ?_ (by simp <;> omega) _)⟩
    · by_cases h3 : k = 3
      · subst h3
        clear h1 h2
        go_enter Try.func20, Try.ntmps20
        go_wp2
        exact bodyPost_ret (v := .agg #[.int .i64 (liCall 3 a x).k, .int .i64 (liCall 3 a x).a, .int .i64 (liCall 3 a x).x, .int .i64 (liCall 3 a x).pc, .int .i64 (liCall 3 a x).p, .int .i64 (liCall 3 a x).c, .int .i64 (liCall 3 a x).w, .int .i64 (liCall 3 a x).r, .int .i64 (liCall 3 a x).v, .bool (liCall 3 a x).d]) (by simp [results, Try.results20, go_sem, liCall, clZero]) rfl ⟨rfl, by repeat (first | exact Below.refl _ _ | refine Below.setCell ?_ (by simp <;> omega) _ | refine Below.alloc ?_ (by simp <;> omega) _)⟩
      · have e1 : (k == 1) = false := by simpa using h1
        have e2 : (k == 2) = false := by simpa using h2
        have e3 : (k == 3) = false := by simpa using h3
        have e4 : liCall k a x = clZero := by unfold liCall; rw [if_neg h1, if_neg h2, if_neg h3]
        rw [e4]
        clear h1 h2 h3 e4
        go_enter Try.func20, Try.ntmps20
        go_wp2
        exact bodyPost_ret (v := .agg #[.int .i64 clZero.k, .int .i64 clZero.a, .int .i64 clZero.x, .int .i64 clZero.pc, .int .i64 clZero.p, .int .i64 clZero.c, .int .i64 clZero.w, .int .i64 clZero.r, .int .i64 clZero.v, .bool clZero.d]) (by simp [results, Try.results20, go_sem, clZero]) rfl ⟨rfl, by repeat (first | exact Below.refl _ _ | refine Below.setCell ?_ (by simp <;> omega) _ | refine Below.alloc ?_ (by simp <;> omega) _)⟩
set_option maxRecDepth 100000 in
theorem impl_licall (k a x : Int) (w : World) :
    Calls Try.prog 21 #[.int .i64 k, .int .i64 a, .int .i64 x] w fun e w' => e = .returned (.agg #[.int .i64 (liCall k a x).k, .int .i64 (liCall k a x).a, .int .i64 (liCall k a x).x, .int .i64 (liCall k a x).pc, .int .i64 (liCall k a x).p, .int .i64 (liCall k a x).c, .int .i64 (liCall k a x).w, .int .i64 (liCall k a x).r, .int .i64 (liCall k a x).v, .bool (liCall k a x).d]) ∧ Below w.heap.size w w' := by
  by_cases h1 : k = 1
  · subst h1
    go_enter Try.func21, Try.ntmps21
    go_wp2
    exact bodyPost_ret (v := .agg #[.int .i64 (liCall 1 a x).k, .int .i64 (liCall 1 a x).a, .int .i64 (liCall 1 a x).x, .int .i64 (liCall 1 a x).pc, .int .i64 (liCall 1 a x).p, .int .i64 (liCall 1 a x).c, .int .i64 (liCall 1 a x).w, .int .i64 (liCall 1 a x).r, .int .i64 (liCall 1 a x).v, .bool (liCall 1 a x).d]) (by simp [results, Try.results21, go_sem, liCall, clZero]) rfl ⟨rfl, by repeat (first | exact Below.refl _ _ | refine Below.setCell ?_ (by simp <;> omega) _ | refine Below.alloc ?_ (by simp <;> omega) _)⟩
  · by_cases h2 : k = 2
    · subst h2
      clear h1
      go_enter Try.func21, Try.ntmps21
      go_wp2
      exact bodyPost_ret (v := .agg #[.int .i64 (liCall 2 a x).k, .int .i64 (liCall 2 a x).a, .int .i64 (liCall 2 a x).x, .int .i64 (liCall 2 a x).pc, .int .i64 (liCall 2 a x).p, .int .i64 (liCall 2 a x).c, .int .i64 (liCall 2 a x).w, .int .i64 (liCall 2 a x).r, .int .i64 (liCall 2 a x).v, .bool (liCall 2 a x).d]) (by simp [results, Try.results21, go_sem, liCall, clZero]) rfl ⟨rfl, by repeat (first | exact Below.refl _ _ | refine Below.setCell ?_ (by simp <;> omega) _ | refine Below.alloc ?_ (by simp <;> omega) _)⟩
    · by_cases h3 : k = 3
      · subst h3
        clear h1 h2
        go_enter Try.func21, Try.ntmps21
        go_wp2
        exact bodyPost_ret (v := .agg #[.int .i64 (liCall 3 a x).k, .int .i64 (liCall 3 a x).a, .int .i64 (liCall 3 a x).x, .int .i64 (liCall 3 a x).pc, .int .i64 (liCall 3 a x).p, .int .i64 (liCall 3 a x).c, .int .i64 (liCall 3 a x).w, .int .i64 (liCall 3 a x).r, .int .i64 (liCall 3 a x).v, .bool (liCall 3 a x).d]) (by simp [results, Try.results21, go_sem, liCall, clZero]) rfl ⟨rfl, by repeat (first | exact Below.refl _ _ | refine Below.setCell ?_ (by simp <;> omega) _ | refine Below.alloc ?_ (by simp <;> omega) _)⟩
      · have e1 : (k == 1) = false := by simpa using h1
        have e2 : (k == 2) = false := by simpa using h2
        have e3 : (k == 3) = false := by simpa using h3
        have e4 : liCall k a x = clZero := by unfold liCall; rw [if_neg h1, if_neg h2, if_neg h3]
        rw [e4]
        clear h1 h2 h3 e4
        go_enter Try.func21, Try.ntmps21
        go_wp2
        exact bodyPost_ret (v := .agg #[.int .i64 clZero.k, .int .i64 clZero.a, .int .i64 clZero.x, .int .i64 clZero.pc, .int .i64 clZero.p, .int .i64 clZero.c, .int .i64 clZero.w, .int .i64 clZero.r, .int .i64 clZero.v, .bool clZero.d]) (by simp [results, Try.results21, go_sem, clZero]) rfl ⟨rfl, by repeat (first | exact Below.refl _ _ | refine Below.setCell ?_ (by simp <;> omega) _ | refine Below.alloc ?_ (by simp <;> omega) _)⟩
set_option maxHeartbeats 800000 in
set_option maxRecDepth 100000 in
theorem walk_LiCall (k a x : Int) (w : World)
    (hS : ∀ W, Calls Try.prog 20 #[.int .i64 k, .int .i64 a, .int .i64 x] W fun e w' => e = .returned (.agg #[.int .i64 (liCall k a x).k, .int .i64 (liCall k a x).a, .int .i64 (liCall k a x).x, .int .i64 (liCall k a x).pc, .int .i64 (liCall k a x).p, .int .i64 (liCall k a x).c, .int .i64 (liCall k a x).w, .int .i64 (liCall k a x).r, .int .i64 (liCall k a x).v, .bool (liCall k a x).d]) ∧ Below W.heap.size W w')
    (hI : ∀ W, Calls Try.prog 21 #[.int .i64 k, .int .i64 a, .int .i64 x] W fun e w' => e = .returned (.agg #[.int .i64 (liCall k a x).k, .int .i64 (liCall k a x).a, .int .i64 (liCall k a x).x, .int .i64 (liCall k a x).pc, .int .i64 (liCall k a x).p, .int .i64 (liCall k a x).c, .int .i64 (liCall k a x).w, .int .i64 (liCall k a x).r, .int .i64 (liCall k a x).v, .bool (liCall k a x).d]) ∧ Below W.heap.size W w') :
    Calls Try.prog 5 #[.int .i64 k, .int .i64 a, .int .i64 x] w fun e w' => e = .returned (.bool true) ∧ Below w.heap.size w w' := by
  have HS := hidIt hS
  have HI := hidIt hI
  clear hS hI
  generalize liCall k a x = c at HS HI
  go_enter Try.func5, Try.ntmps5
  go_wp2_with fail
  refine (HS.out _).mono ?_
  rintro e w1 ⟨rfl, b1⟩
  have z1 := b1.size
  go_wp2_with fail
  refine (HI.out _).mono ?_
  rintro e w2 ⟨rfl, b2⟩
  have z2 := b2.size
  simp at z2
  obtain ⟨c2, -⟩ := below_bk b2 (n := w1.heap.size) (by simp)
  have hz : w1.heap.size < w2.heap.size := by omega
  go_wp2_with fail
  refine (eq_call c _).mono ?_
  rintro e w3 ⟨rfl, b3⟩
  go_wp2
  go_ret
  exact ⟨rfl, ((((b1.alloc z1 _).trans (b2.mono (by simp <;> omega))).alloc (by omega) _)).trans (b3.mono (by simp <;> omega))⟩

end Go.Proofs.Ytomfdbglnedpcaa
