/- The walk of the law of CellOf. -/
import Derived.Test.YtpokelkaonbefaaRows
import Derived.WalkKit
import Derived.ProofKit
import Derived.OpenShut
import Derived.ShutString
import Derived.Test.YtpokelkaonbefaaCellOfFns
import Derived.Deep.RegionHeld3
namespace Go.Proofs.Ytpokelkaonbefaa
open Go.ChangeShapes Go.WideShapes Go.ChangeAt Go.RowKit
set_option linter.unusedVariables false

theorem keep_cell {w w3 Wc w1 : World} {m x : Value} (b : Below Wc.heap.size Wc w1) (h : Wc.cell? ⟨w.heap.size, 0, none⟩ = some m ∧ Wc.cell? ⟨w3.heap.size, 0, none⟩ = some x ∧ w.heap.size + 1 ≤ Wc.heap.size ∧ w3.heap.size + 1 ≤ Wc.heap.size ∧ Below w.heap.size w Wc ∧ Below w3.heap.size w3 Wc) :
    w1.cell? ⟨w.heap.size, 0, none⟩ = some m ∧ w1.cell? ⟨w3.heap.size, 0, none⟩ = some x ∧ w.heap.size + 1 ≤ w1.heap.size ∧ w3.heap.size + 1 ≤ w1.heap.size ∧ Below w.heap.size w w1 ∧ Below w3.heap.size w3 w1 := by
  obtain ⟨h0, h1, hz, hz3, hb, hb3⟩ := h
  have := b.size
  exact ⟨below_cell b (by omega) h0, below_cell b (by omega) h1, by omega, by omega, hb.trans (b.mono (by omega)), hb3.trans (b.mono (by omega))⟩
theorem keep_cell_drew {w w3 Wc : World} {m x : Value} (h : Wc.cell? ⟨w.heap.size, 0, none⟩ = some m ∧ Wc.cell? ⟨w3.heap.size, 0, none⟩ = some x ∧ w.heap.size + 1 ≤ Wc.heap.size ∧ w3.heap.size + 1 ≤ Wc.heap.size ∧ Below w.heap.size w Wc ∧ Below w3.heap.size w3 Wc) :
    Wc.drew.cell? ⟨w.heap.size, 0, none⟩ = some m ∧ Wc.drew.cell? ⟨w3.heap.size, 0, none⟩ = some x ∧ w.heap.size + 1 ≤ Wc.drew.heap.size ∧ w3.heap.size + 1 ≤ Wc.drew.heap.size ∧ Below w.heap.size w Wc.drew ∧ Below w3.heap.size w3 Wc.drew :=
  ⟨h.1, h.2.1, h.2.2.1, h.2.2.2.1, h.2.2.2.2.1.drew, h.2.2.2.2.2.drew⟩
theorem cell_b1 {w w3 Wc : World} {m x : Value} (h : Wc.cell? ⟨w.heap.size, 0, none⟩ = some m ∧ Wc.cell? ⟨w3.heap.size, 0, none⟩ = some x ∧ w.heap.size + 1 ≤ Wc.heap.size ∧ w3.heap.size + 1 ≤ Wc.heap.size ∧ Below w.heap.size w Wc ∧ Below w3.heap.size w3 Wc) : Below w.heap.size w Wc := h.2.2.2.2.1
theorem cell_b3 {w w3 Wc : World} {m x : Value} (h : Wc.cell? ⟨w.heap.size, 0, none⟩ = some m ∧ Wc.cell? ⟨w3.heap.size, 0, none⟩ = some x ∧ w.heap.size + 1 ≤ Wc.heap.size ∧ w3.heap.size + 1 ≤ Wc.heap.size ∧ Below w.heap.size w Wc ∧ Below w3.heap.size w3 Wc) : Below w3.heap.size w3 Wc := h.2.2.2.2.2
theorem cell_le {w w3 Wc : World} {m x : Value} (h : Wc.cell? ⟨w.heap.size, 0, none⟩ = some m ∧ Wc.cell? ⟨w3.heap.size, 0, none⟩ = some x ∧ w.heap.size + 1 ≤ Wc.heap.size ∧ w3.heap.size + 1 ≤ Wc.heap.size ∧ Below w.heap.size w Wc ∧ Below w3.heap.size w3 Wc) : w3.heap.size ≤ Wc.heap.size := Nat.le_of_succ_le h.2.2.2.1

set_option maxHeartbeats 1600000 in
set_option maxRecDepth 100000 in
theorem walk_CellOf (m0 : Value) (xs : List Int) (t : Int) (w : World) (r0 : InRow w m0 xs) (n0 : xs.length ≤ maxLen) :
    Calls Try.prog 6 #[.agg #[m0], .int .i64 t] w fun e w' => e = .returned (.bool true) ∧ Below w.heap.size w w' := by
  have RI := hidIt r0
  obtain ⟨md, mc, rfl, -⟩ := r0
  unfold maxLen at n0
  by_cases hs : xs.length ≤ 1048576
  · generalize hx : cellL xs t = x
    have HX := hidIt hx
    clear hx
    go_enter Try.func6, Try.ntmps6
    go_wp2_with fail
    refine (sz_mem md xs.length mc 1048576 _ (by omega) (by omega) (by omega)).mono ?_
    rintro e w1 ⟨rfl, b1⟩
    rw [if_neg (by omega)]
    have z1 := b1.size
    simp at z1
    have c1 : w1.cell? ⟨w.heap.size, 0, none⟩ = some (.slice md xs.length mc) := below_cell b1 (by simp) (by simp [go_sem])
    have B1 := hidIt (((Below.refl _ _).alloc (Nat.le_refl _) _).trans (b1.mono (by simp)))
    clear b1
    go_wp2_with fail
    refine (to_mem _ _ xs (by omega) (RI.out.below B1.out)).mono ?_
    rintro e w2 ⟨v2, rfl, r2, b2⟩
    have R2 := hidIt r2
    obtain ⟨a2, c2, rfl⟩ := r2.form
    have z2 := b2.size
    have B2 := hidIt (B1.out.trans (b2.mono (by omega)))
    have d2 : w2.cell? ⟨w.heap.size, 0, none⟩ = some (.slice md xs.length mc) := below_cell b2 (by omega) c1
    clear r2 b2 c1 B1
    go_wp2_with fail
    refine (spec_cellof _ _ _ xs t _ (by omega) (Nat.le_refl _) R2.out).mono ?_
    rintro e w3 ⟨rfl, b3⟩
    rw [HX.out]
    have z3 := b3.size
    have d3 : w3.cell? ⟨w.heap.size, 0, none⟩ = some (.slice md xs.length mc) := below_cell b3 (by omega) d2
    have B3 := hidIt (B2.out.trans (b3.mono (by omega)))
    clear b3 d2 B2 R2
    go_wp2_with fail
    refine (to_mem _ _ xs (by omega) (RI.out.below B3.out)).mono ?_
    rintro e w4 ⟨v4, rfl, r4, b4⟩
    have R4 := hidIt r4
    obtain ⟨a4, c4, rfl⟩ := r4.form
    have z4 := b4.size
    have d4 : w4.cell? ⟨w.heap.size, 0, none⟩ = some (.slice md xs.length mc) := below_cell b4 (by omega) d3
    have B4 := hidIt (B3.out.trans (b4.mono (by omega)))
    clear r4 b4 d3 B3
    go_wp2_with fail
    refine (impl_cellof _ _ _ xs t _ (by omega) (by simp) (R4.out.alloc (Nat.le_refl _) _)).mono ?_
    rintro e w5 ⟨rfl, b5⟩
    rw [HX.out]
    have hH : w5.cell? ⟨w.heap.size, 0, none⟩ = some (.slice md xs.length mc) ∧ w5.cell? ⟨w4.heap.size, 0, none⟩ = some (.slice a4 xs.length c4) ∧ w.heap.size + 1 ≤ w5.heap.size ∧ w4.heap.size + 1 ≤ w5.heap.size ∧ Below w.heap.size w w5 ∧ Below w4.heap.size w4 w5 :=
      keep_cell b5 ⟨by rw [World.cell?_alloc_lt _ _ _ (by simp; omega)]; exact d4, by simp, by simp; omega, by simp, B4.out.alloc (by omega) _, (Below.refl _ _).alloc (Nat.le_refl _) _⟩
    clear b5 d4 B4
    go_wp2_with fail
    go_region_held3 (fun w' => w'.cell? ⟨w.heap.size, 0, none⟩ = some (.slice md xs.length mc) ∧ w'.cell? ⟨w4.heap.size, 0, none⟩ = some (.slice a4 xs.length c4) ∧ w.heap.size + 1 ≤ w'.heap.size ∧ w4.heap.size + 1 ≤ w'.heap.size ∧ Below w.heap.size w w' ∧ Below w4.heap.size w4 w')
      (first | exact keep_cell_drew (by assumption) | exact keep_cell (by assumption) (by assumption))
      (first | (go_at_call 10; refine (to_mem _ _ xs (by omega) (RI.out.below (cell_b1 (by assumption)))).mono ?_; rintro e wa ⟨va, rfl, ra, ba⟩; obtain ⟨aa, ca, rfl⟩ := ra.form) | (go_at_call 13; refine (eq_mem _ _ _ _ _ _ _ xs (by omega) (cell_le (by assumption)) (Nat.le_refl _) (R4.out.below (cell_b3 (by assumption))) ra).mono ?_; rintro e wd ⟨rfl, bd⟩))
    rename_i hH5
    go_wp2
    go_ret
    exact ⟨rfl, cell_b1 hH5⟩
  · go_enter Try.func6, Try.ntmps6
    go_wp2_with fail
    refine (sz_mem md xs.length mc 1048576 _ (by omega) (by omega) (by omega)).mono ?_
    rintro e w1 ⟨rfl, b1⟩
    rw [if_pos (by omega)]
    go_wp2
    go_ret
    exact ⟨rfl, ((Below.refl _ _).alloc (Nat.le_refl _) _).trans (b1.mono (by simp <;> omega))⟩

end Go.Proofs.Ytpokelkaonbefaa
