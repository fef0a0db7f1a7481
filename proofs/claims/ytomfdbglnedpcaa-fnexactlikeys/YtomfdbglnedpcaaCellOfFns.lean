/- The value of one cell, by the model and by the program. -/
import Derived.Test.YtomfdbglnedpcaaRows
import Derived.WalkKit
import Derived.ProofKit
import Derived.OpenShut
import Derived.ShutString
import Derived.Test.YtomfdbglnedpcaaImplDo
namespace Go.Proofs.Ytomfdbglnedpcaa
open Go.ChangeShapes Go.WideShapes Go.ChangeAt Go.RowKit
set_option linter.unusedVariables false

def cellL (xs : List Int) (t : Int) : Int := if 0 ≤ t ∧ t < (xs.length : Int) then xs.getD t.toNat 0 else 0

theorem impl_cellof_no (a : Option Addr) (n c : Nat) (t : Int) (w : World) (h : ¬ (0 ≤ t ∧ t < (n : Int))) :
    Calls Try.prog 65 #[.agg #[.slice a n c], .int .i64 t] w fun e w' => e = .returned (.int .i64 0) ∧ Below w.heap.size w w' := by
  have hb : hasB n t = false := decide_eq_false h
  clear h
  go_enter Try.func65, Try.ntmps65
  go_wp2_with fail
  refine (impl_hascell a n c t _).mono ?_
  rintro e w1 ⟨rfl, b1⟩
  rw [hb]
  go_wp2
  go_ret
  exact ⟨rfl, ((Below.refl _ _).alloc (Nat.le_refl _) _).trans (b1.mono (by simp))⟩
set_option maxRecDepth 100000 in
theorem impl_cellof_yes (lo hi : Nat) (v : Value) (xs : List Int) (i : Nat) (x : Int) (w : World) (hn : xs.length ≤ 4194304) (hh : hi ≤ w.heap.size) (r : Row w lo hi v (ints xs)) (hi1 : i < xs.length) (hx : xs[i] = x) :
    Calls Try.prog 65 #[.agg #[v], .int .i64 (i : Int)] w fun e w' => e = .returned (.int .i64 x) ∧ Below w.heap.size w w' := by
  have hb : hasB xs.length i = true := decide_eq_true ⟨by omega, by omega⟩
  have R := hidIt r
  obtain ⟨g, c, rfl, g1, g2, -, -⟩ := r.ofSome (by omega)
  have HX := hidIt hx
  clear r hx
  go_enter Try.func65, Try.ntmps65
  go_wp2_with fail
  refine (impl_hascell _ _ c i _).mono ?_
  rintro e w1 ⟨rfl, b1⟩
  have z1 := b1.size
  simp at z1
  have c0 : w1.cell? ⟨w.heap.size, 0, none⟩ = some (.slice (some ⟨g, 0, none⟩) xs.length c) := below_cell b1 (by simp) (by simp [go_sem])
  rw [hb]
  go_wp2_with fail
  refine (cells_of _ _ _ _).mono ?_
  rintro e w2 ⟨rfl, rfl⟩
  have B1 : Below w.heap.size w w1 := ((Below.refl _ _).alloc (Nat.le_refl _) _).trans (b1.mono (by simp))
  have R2 := (R.out.below (B1.mono hh)).alloc (by omega) (.cells #[.slice (some ⟨g, 0, none⟩) xs.length c] 28)
  have HR := hidIt R2
  clear R2
  have hm := act_method (some ⟨g, 0, none⟩) xs.length c
  go_wp2_with fail
  refine (act_load lo hi g xs.length c xs i 0 0 x _ (by simp <;> omega) HR.out hi1 HX.out).mono ?_
  rintro e w3 ⟨rfl, -, b3⟩
  go_wp2
  go_ret
  exact ⟨rfl, (B1.alloc (by omega) _).trans (b3.mono (by simp <;> omega))⟩
theorem impl_cellof (lo hi : Nat) (v : Value) (xs : List Int) (t : Int) (w : World) (hn : xs.length ≤ 4194304) (hh : hi ≤ w.heap.size) (r : Row w lo hi v (ints xs)) :
    Calls Try.prog 65 #[.agg #[v], .int .i64 t] w fun e w' => e = .returned (.int .i64 (cellL xs t)) ∧ Below w.heap.size w w' := by
  by_cases h : 0 ≤ t ∧ t < (xs.length : Int)
  · obtain ⟨i, rfl⟩ : ∃ i : Nat, t = i := ⟨t.toNat, by omega⟩
    have hi1 : i < xs.length := by omega
    have e1 : cellL xs i = xs[i] := by unfold cellL; rw [if_pos h]; simp [hi1]
    rw [e1]
    exact impl_cellof_yes lo hi v xs i xs[i] w hn hh r hi1 rfl
  · have e1 : cellL xs t = 0 := by unfold cellL; rw [if_neg h]
    rw [e1]
    obtain ⟨a, c, rfl⟩ := r.form
    exact impl_cellof_no a xs.length c t w h

end Go.Proofs.Ytomfdbglnedpcaa
