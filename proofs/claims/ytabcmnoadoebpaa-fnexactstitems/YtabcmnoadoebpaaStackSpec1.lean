/- The stack's calls by the model: sizes, words, places, the call at its beginning, the act of a step. -/
import Derived.Test.YtabcmnoadoebpaaRows
import Derived.WalkKit
import Derived.ProofKit
import Derived.OpenShut
import Derived.ShutString
import Derived.Test.YtabcmnoadoebpaaCallFns
namespace Go.Proofs.Ytabcmnoadoebpaa
open Go.ChangeShapes Go.WideShapes Go.ChangeAt Go.RowKit
set_option linter.unusedVariables false

theorem spec_size (n : Int) (w : World) :
    Calls Try.prog 45 #[.int .i64 n] w fun e w' => e = .returned (.bool (szB n)) ∧ w' = w := by
  by_cases h1 : 1 ≤ n
  · by_cases h2 : n ≤ 16
    · have hb : szB n = true := decide_eq_true ⟨h1, h2⟩
      rw [hb]
      clear hb
      go_enter Try.func45, Try.ntmps45
      go_wp2
      go_ret
      simp
    · have hb : szB n = false := decide_eq_false (by omega)
      rw [hb]
      clear hb
      go_enter Try.func45, Try.ntmps45
      go_wp2
      go_ret
      simp
  · have hb : szB n = false := decide_eq_false (by omega)
    rw [hb]
    clear hb
    go_enter Try.func45, Try.ntmps45
    go_wp2
    go_ret
    exact ⟨rfl, rfl⟩
def inB (x lo hi : Int) : Bool := decide (lo ≤ x ∧ x ≤ hi)
theorem spec_in (x lo hi : Int) (w : World) :
    Calls Try.prog 49 #[.int .i64 x, .int .i64 lo, .int .i64 hi] w fun e w' => e = .returned (.bool (inB x lo hi)) ∧ w' = w := by
  by_cases h1 : lo ≤ x
  · by_cases h2 : x ≤ hi
    · have hb : inB x lo hi = true := decide_eq_true ⟨h1, h2⟩
      rw [hb]
      clear hb
      go_enter Try.func49, Try.ntmps49
      go_wp2
      go_ret
      simp
    · have hb : inB x lo hi = false := decide_eq_false (by omega)
      rw [hb]
      clear hb
      go_enter Try.func49, Try.ntmps49
      go_wp2
      go_ret
      simp
  · have hb : inB x lo hi = false := decide_eq_false (by omega)
    rw [hb]
    clear hb
    go_enter Try.func49, Try.ntmps49
    go_wp2
    go_ret
    exact ⟨rfl, rfl⟩
theorem spec_word (x : Int) (w : World) (l : -9223372036854775808 ≤ x) (u : x ≤ 9223372036854775807) :
    Calls Try.prog 50 #[.int .i64 x] w fun e w' => e = .returned (.tuple #[.int .i64 (unT x), .int .i64 (unI x)]) ∧ w' = w := by
  go_enter Try.func50, Try.ntmps50
  go_wp2_with fail
  refine (spec_unpack x _ l u).mono ?_
  rintro e w1 ⟨rfl, rfl⟩
  go_wp2
  go_ret2
  exact ⟨rfl, rfl⟩
theorem spec_head (x : Int) (w : World) (l : -9223372036854775808 ≤ x) (u : x ≤ 9223372036854775807) :
    Calls Try.prog 59 #[.int .i64 x] w fun e w' => e = .returned (.int .i64 (if unB x = true then x else 0)) ∧ w' = w := by
  by_cases h : unB x = true
  · rw [if_pos h]
    go_enter Try.func59, Try.ntmps59
    go_wp2_with fail
    refine (spec_unpack x _ l u).mono ?_
    rintro e w1 ⟨rfl, rfl⟩
    rw [h]
    go_wp2
    go_ret
    exact ⟨rfl, rfl⟩
  · rw [if_neg h]
    have h : unB x = false := by simpa using h
    go_enter Try.func59, Try.ntmps59
    go_wp2_with fail
    refine (spec_unpack x _ l u).mono ?_
    rintro e w1 ⟨rfl, rfl⟩
    rw [h]
    go_wp2
    go_ret
    exact ⟨rfl, rfl⟩
theorem spec_place (k a x pc p cc cw r v : Int) (d : Bool) (w : World) (l : -9223372036854775808 ≤ cw) (u : cw ≤ 9223372036854775807) :
    Calls Try.prog 47 #[.agg #[.int .i64 k, .int .i64 a, .int .i64 x, .int .i64 pc, .int .i64 p, .int .i64 cc, .int .i64 cw, .int .i64 r, .int .i64 v, .bool d]] w fun e w' => e = .returned (.int .i64 (placeOf k a cw)) ∧ w' = w.alloc (.cells #[.int .i64 k, .int .i64 a, .int .i64 x, .int .i64 pc, .int .i64 p, .int .i64 cc, .int .i64 cw, .int .i64 r, .int .i64 v, .bool d] 32) := by
  have hb := un_bd cw
  by_cases h : k = 1
  · have e1 : placeOf k a cw = a := by unfold placeOf; rw [if_pos h]
    rw [e1]
    have h' : (k == 1) = true := by simpa using h
    clear h e1
    go_enter Try.func47, Try.ntmps47
    go_wp2_with fail
    go_ret
    exact ⟨rfl, rfl⟩
  · have e1 : placeOf k a cw = unI cw - 1 := by unfold placeOf; rw [if_neg h]
    rw [e1]
    have h' : (k == 1) = false := by simpa using h
    clear h e1
    go_enter Try.func47, Try.ntmps47
    go_wp2_with fail
    refine (spec_word cw _ l u).mono ?_
    rintro e w1 ⟨rfl, rfl⟩
    go_wp2
    go_ret
    exact ⟨rfl, rfl⟩
set_option maxRecDepth 100000 in
theorem spec_load (t : Int) (w : World) :
    Calls Try.prog 48 #[.int .i64 t] w fun e w' => e = .returned (.tuple #[.agg #[.int .i64 1, .int .i64 t, .int .i64 0, .int .i64 0], .bool true]) ∧ w' = w.alloc (.cells #[.int .i64 1, .int .i64 t, .int .i64 0, .int .i64 0] 45) := by
  go_enter Try.func48, Try.ntmps48
  go_wp2
  exact bodyPost_ret (v := .tuple #[.agg #[.int .i64 1, .int .i64 t, .int .i64 0, .int .i64 0], .bool true]) (by simp [results, Try.results48, go_sem]) rfl ⟨rfl, rfl⟩
set_option maxRecDepth 100000 in
theorem spec_store (t a : Int) (w : World) :
    Calls Try.prog 51 #[.int .i64 t, .int .i64 a] w fun e w' => e = .returned (.tuple #[.agg #[.int .i64 2, .int .i64 t, .int .i64 a, .int .i64 0], .bool true]) ∧ w' = w.alloc (.cells #[.int .i64 2, .int .i64 t, .int .i64 a, .int .i64 0] 45) := by
  go_enter Try.func51, Try.ntmps51
  go_wp2
  exact bodyPost_ret (v := .tuple #[.agg #[.int .i64 2, .int .i64 t, .int .i64 a, .int .i64 0], .bool true]) (by simp [results, Try.results51, go_sem]) rfl ⟨rfl, rfl⟩
set_option maxRecDepth 100000 in
theorem spec_cas (t a b : Int) (w : World) :
    Calls Try.prog 54 #[.int .i64 t, .int .i64 a, .int .i64 b] w fun e w' => e = .returned (.tuple #[.agg #[.int .i64 3, .int .i64 t, .int .i64 a, .int .i64 b], .bool true]) ∧ w' = w.alloc (.cells #[.int .i64 3, .int .i64 t, .int .i64 a, .int .i64 b] 45) := by
  go_enter Try.func54, Try.ntmps54
  go_wp2
  exact bodyPost_ret (v := .tuple #[.agg #[.int .i64 3, .int .i64 t, .int .i64 a, .int .i64 b], .bool true]) (by simp [results, Try.results54, go_sem]) rfl ⟨rfl, rfl⟩
set_option maxRecDepth 100000 in
theorem spec_stcall (k a : Int) (w : World) :
    Calls Try.prog 20 #[.int .i64 k, .int .i64 a] w fun e w' => e = .returned (.agg #[.int .i64 (stCall k a).k, .int .i64 (stCall k a).a, .int .i64 (stCall k a).x, .int .i64 (stCall k a).pc, .int .i64 (stCall k a).p, .int .i64 (stCall k a).c, .int .i64 (stCall k a).w, .int .i64 (stCall k a).r, .int .i64 (stCall k a).v, .bool (stCall k a).d]) ∧ Below w.heap.size w w' := by
  by_cases h1 : k = 1
  · subst h1
    go_enter Try.func20, Try.ntmps20
    go_wp2
    exact bodyPost_ret (v := .agg #[.int .i64 (stCall 1 a).k, .int .i64 (stCall 1 a).a, .int .i64 (stCall 1 a).x, .int .i64 (stCall 1 a).pc, .int .i64 (stCall 1 a).p, .int .i64 (stCall 1 a).c, .int .i64 (stCall 1 a).w, .int .i64 (stCall 1 a).r, .int .i64 (stCall 1 a).v, .bool (stCall 1 a).d]) (by simp [results, Try.results20, go_sem, stCall, clZero]) rfl ⟨rfl, by repeat (first | exact Below.refl _ _ | refine Below.setCell ?_ (by simp <;> omega) _ | refine Below.alloc ?_ (by simp <;> omega) _)⟩
  · by_cases h2 : k = 2
    · subst h2
      clear h1
      go_enter Try.func20, Try.ntmps20
      go_wp2
      exact bodyPost_ret (v := .agg #[.int .i64 (stCall 2 a).k, .int .i64 (stCall 2 a).a, .int .i64 (stCall 2 a).x, .int .i64 (stCall 2 a).pc, .int .i64 (stCall 2 a).p, .int .i64 (stCall 2 a).c, .int .i64 (stCall 2 a).w, .int .i64 (stCall 2 a).r, .int .i64 (stCall 2 a).v, .bool (stCall 2 a).d]) (by simp [results, Try.results20, go_sem, stCall, clZero]) rfl ⟨rfl, by repeat (first | exact Below.refl _ _ | refine Below.setCell ?_ (by simp <;> omega) _ | refine Below.alloc ?_ (by simp <;> omega) _)⟩
    · have e1 : (k == 1) = false := by simpa using h1
      have e2 : (k == 2) = false := by simpa using h2
      have e3 : stCall k a = clZero := by unfold stCall; rw [if_neg h1, if_neg h2]
      rw [e3]
      clear h1 h2 e3
      go_enter Try.func20, Try.ntmps20
      go_wp2
      exact bodyPost_ret (v := .agg #[.int .i64 clZero.k, .int .i64 clZero.a, .int .i64 clZero.x, .int .i64 clZero.pc, .int .i64 clZero.p, .int .i64 clZero.c, .int .i64 clZero.w, .int .i64 clZero.r, .int .i64 clZero.v, .bool clZero.d]) (by simp [results, Try.results20, go_sem, clZero]) rfl ⟨rfl, by repeat (first | exact Below.refl _ _ | refine Below.setCell ?_ (by simp <;> omega) _ | refine Below.alloc ?_ (by simp <;> omega) _)⟩

end Go.Proofs.Ytabcmnoadoebpaa
