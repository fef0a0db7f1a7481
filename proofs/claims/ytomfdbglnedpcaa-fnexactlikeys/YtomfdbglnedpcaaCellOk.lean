/- Which acts may be done: by the model and by the program. -/
import Derived.Test.YtomfdbglnedpcaaRows
import Derived.WalkKit
import Derived.ProofKit
import Derived.OpenShut
import Derived.ShutString
import Derived.Test.YtomfdbglnedpcaaCellPlain
import Derived.Test.YtomfdbglnedpcaaMemFns
namespace Go.Proofs.Ytomfdbglnedpcaa
open Go.ChangeShapes Go.WideShapes Go.ChangeAt Go.RowKit
set_option linter.unusedVariables false

set_option maxHeartbeats 800000 in
theorem spec_actok (ad : Option Addr) (n c : Nat) (k t a b : Int) (w : World) (hn : n ≤ 4194304) :
    Calls Try.prog 73 #[.agg #[.slice ad n c], .agg #[.int .i64 k, .int .i64 t, .int .i64 a, .int .i64 b]] w fun e w' => e = .returned (.bool (actB n k t a b)) ∧ Below w.heap.size w w' := by
  go_enter Try.func73, Try.ntmps73
  go_wp2
  all_goals
    go_ret
    refine ⟨ret_boolx (actB_eq ?_), ((Below.refl _ _).alloc (Nat.le_refl _) _).alloc (by simp) _⟩
    simp <;> omega

theorem impl_kindok (k t a b : Int) (w : World) :
    Calls Try.prog 103 #[.agg #[.int .i64 k, .int .i64 t, .int .i64 a, .int .i64 b]] w fun e w' => e = .returned (.bool (kindB k a b)) ∧ Below w.heap.size w w' := by
  go_enter Try.func103, Try.ntmps103
  go_wp2
  all_goals
    go_ret
    refine ⟨ret_boolx (kindB_eq ?_), ((Below.refl _ _).alloc (Nat.le_refl _) _)⟩
    simp only [beq_iff_eq, beq_eq_false_iff_ne, ne_eq, Bool.false_eq_true, false_iff, true_iff] at *
    omega

theorem impl_hascell (ad : Option Addr) (n c : Nat) (t : Int) (w : World) :
    Calls Try.prog 92 #[.agg #[.slice ad n c], .int .i64 t] w fun e w' => e = .returned (.bool (hasB n t)) ∧ Below w.heap.size w w' := by
  go_enter Try.func92, Try.ntmps92
  go_wp2
  all_goals
    go_ret
    refine ⟨ret_boolx (hasB_eq ?_), ((Below.refl _ _).alloc (Nat.le_refl _) _)⟩
    simp <;> omega

theorem impl_actok (ad : Option Addr) (n c : Nat) (k t a b : Int) (w : World) (hn : n ≤ 4194304) :
    Calls Try.prog 78 #[.agg #[.slice ad n c], .agg #[.int .i64 k, .int .i64 t, .int .i64 a, .int .i64 b]] w fun e w' => e = .returned (.bool (actB n k t a b)) ∧ Below w.heap.size w w' := by
  rw [actB_parts]
  by_cases h1 : kindB k a b = true
  · by_cases h2 : hasB n t = true
    · go_enter Try.func78, Try.ntmps78
      go_wp2_with fail
      refine (impl_kindok k t a b _).mono ?_
      rintro e w1 ⟨rfl, b1⟩
      obtain ⟨hc1, hf1⟩ := bcell b1
      have hz1 := b1.size
      simp at hz1
      rw [h1]
      go_wp2_with fail
      refine (impl_hascell ad n c t _).mono ?_
      rintro e w2 ⟨rfl, b2⟩
      have c2 : w2.cell? ⟨w.heap.size, 0, none⟩ = some (.slice ad n c) := by
        rw [b2.cell (p := ⟨w.heap.size, 0, none⟩) (by show w.heap.size < w1.heap.size; omega), b1.cell (p := ⟨w.heap.size, 0, none⟩) (by simp <;> omega)]
        simp [go_sem]
      rw [h2]
      go_wp2
      go_ret
      exact ⟨ret_boolx (by rw [h1, h2]; simp <;> omega), (((Below.refl _ _).alloc (Nat.le_refl _) _).alloc (by simp) _).trans (b1.mono (by simp <;> omega)) |>.trans (b2.mono (by omega))⟩
    · have h2 : hasB n t = false := by simpa using h2
      go_enter Try.func78, Try.ntmps78
      go_wp2_with fail
      refine (impl_kindok k t a b _).mono ?_
      rintro e w1 ⟨rfl, b1⟩
      obtain ⟨hc1, hf1⟩ := bcell b1
      have hz1 := b1.size
      simp at hz1
      rw [h1]
      go_wp2_with fail
      refine (impl_hascell ad n c t _).mono ?_
      rintro e w2 ⟨rfl, b2⟩
      rw [h2]
      go_wp2
      go_ret
      exact ⟨ret_boolx (by rw [h1, h2]; simp <;> omega), (((Below.refl _ _).alloc (Nat.le_refl _) _).alloc (by simp) _).trans (b1.mono (by simp <;> omega)) |>.trans (b2.mono (by omega))⟩
  · have h1 : kindB k a b = false := by simpa using h1
    go_enter Try.func78, Try.ntmps78
    go_wp2_with fail
    refine (impl_kindok k t a b _).mono ?_
    rintro e w1 ⟨rfl, b1⟩
    rw [h1]
    go_wp2
    go_ret
    exact ⟨ret_boolx (by rw [h1]; simp), (((Below.refl _ _).alloc (Nat.le_refl _) _).alloc (by simp) _).trans (b1.mono (by simp <;> omega))⟩

end Go.Proofs.Ytomfdbglnedpcaa
