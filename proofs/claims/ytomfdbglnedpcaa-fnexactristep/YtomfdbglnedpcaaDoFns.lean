/- Acts, by the model and by the program, in one form. -/
import Derived.Test.YtomfdbglnedpcaaRows
import Derived.WalkKit
import Derived.ProofKit
import Derived.OpenShut
import Derived.ShutString
import Derived.Test.YtomfdbglnedpcaaSpecDo
import Derived.Test.YtomfdbglnedpcaaImplDo
namespace Go.Proofs.Ytomfdbglnedpcaa
open Go.ChangeShapes Go.WideShapes Go.ChangeAt Go.RowKit
set_option linter.unusedVariables false

def doT (xs : List Int) (k t a b : Int) : Int := if actB xs.length k t a b = true then actTold (xs.getD t.toNat 0) k a else 0
def doL (xs : List Int) (k t a b : Int) : List Int := if actB xs.length k t a b = true then memDo xs k t a b else []
theorem doL_len (xs : List Int) (k t a b : Int) : (doL xs k t a b).length ≤ xs.length := by unfold doL memDo; split <;> simp
theorem spec_do (lo hi : Nat) (v : Value) (xs : List Int) (k t a b : Int) (w : World) (hn : xs.length ≤ 4194304) (hh : hi ≤ w.heap.size) (r : Row w lo hi v (ints xs)) :
    Calls Try.prog 34 #[.agg #[v], .agg #[.int .i64 k, .int .i64 t, .int .i64 a, .int .i64 b]] w fun e w' => ∃ v', e = .returned (.tuple #[.agg #[v'], .int .i64 (doT xs k t a b), .bool (actB xs.length k t a b)]) ∧ Row w' w.heap.size w'.heap.size v' (ints (doL xs k t a b)) ∧ Below w.heap.size w w' := by
  by_cases h : actB xs.length k t a b = true
  · have hb := actB_of h
    obtain ⟨i, rfl⟩ : ∃ i : Nat, t = i := ⟨t.toNat, by omega⟩
    have e1 : doT xs k i a b = actTold (xs.getD i 0) k a := by unfold doT; rw [if_pos h]; simp
    have e2 : doL xs k i a b = memDo xs k i a b := by unfold doL; rw [if_pos h]
    rw [e1, e2, h]
    exact spec_do_yes lo hi v xs i k a b w hn hh r h
  · have e1 : doT xs k t a b = 0 := by unfold doT; rw [if_neg h]
    have e2 : doL xs k t a b = [] := by unfold doL; rw [if_neg h]
    have h' : actB xs.length k t a b = false := by simpa using h
    rw [e1, e2, h']
    obtain ⟨ad, c, rfl⟩ := r.form
    refine (spec_do_no ad xs.length c k t a b w hn h').mono ?_
    rintro e w' ⟨rfl, b⟩
    exact ⟨_, rfl, ⟨none, 0, rfl, .inl rfl⟩, b⟩
theorem impl_do (lo hi : Nat) (v : Value) (xs : List Int) (k t a b : Int) (w : World) (hn : xs.length ≤ 4194304) (hh : hi ≤ w.heap.size) (r : Row w lo hi v (ints xs)) :
    Calls Try.prog 40 #[.agg #[v], .agg #[.int .i64 k, .int .i64 t, .int .i64 a, .int .i64 b]] w fun e w' => ∃ v', e = .returned (.tuple #[.agg #[v'], .int .i64 (doT xs k t a b), .bool (actB xs.length k t a b)]) ∧ Row w' w.heap.size w'.heap.size v' (ints (doL xs k t a b)) ∧ Below w.heap.size w w' := by
  by_cases h : actB xs.length k t a b = true
  · have hb := actB_of h
    obtain ⟨i, rfl⟩ : ∃ i : Nat, t = i := ⟨t.toNat, by omega⟩
    have e1 : doT xs k i a b = actTold (xs.getD i 0) k a := by unfold doT; rw [if_pos h]; simp
    have e2 : doL xs k i a b = memDo xs k i a b := by unfold doL; rw [if_pos h]
    rw [e1, e2, h]
    exact impl_do_yes lo hi v xs i k a b w hn hh r h
  · have e1 : doT xs k t a b = 0 := by unfold doT; rw [if_neg h]
    have e2 : doL xs k t a b = [] := by unfold doL; rw [if_neg h]
    have h' : actB xs.length k t a b = false := by simpa using h
    rw [e1, e2, h']
    obtain ⟨ad, c, rfl⟩ := r.form
    refine (impl_do_no ad xs.length c k t a b w hn h').mono ?_
    rintro e w' ⟨rfl, b⟩
    exact ⟨_, rfl, ⟨none, 0, rfl, .inl rfl⟩, b⟩

end Go.Proofs.Ytomfdbglnedpcaa
