/- An act by the model. -/
import Derived.Test.YtomfdbglnedpcaaRows
import Derived.WalkKit
import Derived.ProofKit
import Derived.OpenShut
import Derived.ShutString
import Derived.Test.YtomfdbglnedpcaaCellOk
import Derived.Test.YtomfdbglnedpcaaCellRow
namespace Go.Proofs.Ytomfdbglnedpcaa
open Go.ChangeShapes Go.WideShapes Go.ChangeAt Go.RowKit
set_option linter.unusedVariables false

set_option maxRecDepth 100000 in
theorem spec_do_no (ad : Option Addr) (n c : Nat) (k t a b : Int) (w : World) (hn : n ≤ 4194304) (h : actB n k t a b = false) :
    Calls Try.prog 34 #[.agg #[.slice ad n c], .agg #[.int .i64 k, .int .i64 t, .int .i64 a, .int .i64 b]] w fun e w' => e = .returned (.tuple #[.agg #[.slice none 0 0], .int .i64 0, .bool false]) ∧ Below w.heap.size w w' := by
  go_enter Try.func34, Try.ntmps34
  go_wp2_with fail
  refine (spec_actok ad n c k t a b _ hn).mono ?_
  rintro e w1 ⟨rfl, b1⟩
  have c2 : w1.cell? ⟨w.heap.size + 1 + 1, 0, none⟩ = some (.slice none 0 0) := below_cell b1 (by simp) (by simp [go_sem])
  have f2 : w1.frozen? ⟨w.heap.size + 1 + 1, 0, none⟩ = false := below_frozen b1 (by simp) (by simp [go_sem])
  rw [h]
  go_wp2
  refine bodyPost_ret (v := .tuple #[.agg #[.slice none 0 0], .int .i64 0, .bool false]) (by simp [results, Try.results34, go_sem, c2]) rfl ⟨rfl, ?_⟩
  exact (((((Below.refl w.heap.size w).alloc (Nat.le_refl _) _).alloc (by simp) _).alloc (by simp <;> omega) _).trans (b1.mono (by simp <;> omega))).setCell (by simp <;> omega) _

set_option maxHeartbeats 800000 in
set_option maxRecDepth 100000 in
theorem spec_do_load (lo hi : Nat) (v : Value) (xs : List Int) (i : Nat) (a b x : Int) (w : World) (hn : xs.length ≤ 4194304) (hh : hi ≤ w.heap.size) (r : Row w lo hi v (ints xs)) (hi1 : i < xs.length) (hx : xs[i] = x) (h : actB xs.length 1 i a b = true) :
    Calls Try.prog 34 #[.agg #[v], .agg #[.int .i64 1, .int .i64 (i : Int), .int .i64 a, .int .i64 b]] w fun e w' => ∃ v', e = .returned (.tuple #[.agg #[v'], .int .i64 x, .bool true]) ∧ Row w' w.heap.size w'.heap.size v' (ints xs) ∧ Below w.heap.size w w' := by
  have R := hidIt r
  obtain ⟨g, c, rfl, g1, g2, g3, g4⟩ := r.ofSome (by omega)
  have hg3 := g3 i hi1
  rw [hx] at hg3
  have HG := hidIt hg3
  have HX := hidIt hx
  clear r g3 g4 hg3 hx
  go_enter Try.func34, Try.ntmps34
  go_wp2_with fail
  refine (spec_actok _ _ c 1 i a b _ hn).mono ?_
  rintro e w1 ⟨rfl, b1⟩
  have z1 := b1.size
  simp at z1
  have c0 : w1.cell? ⟨w.heap.size, 0, none⟩ = some (.slice (some ⟨g, 0, none⟩) xs.length c) := below_cell b1 (by simp <;> omega) (by simp [go_sem])
  rw [h]
  go_wp2_with fail
  have B1 : Below w.heap.size w w1 := (((((Below.refl w.heap.size w).alloc (Nat.le_refl _) _).alloc (by simp) _).alloc (by simp <;> omega) _).trans (b1.mono (by simp <;> omega)))
  refine (spec_copy _ lo hi _ xs hn (by omega) (by omega) (R.out.below (B1.mono hh))).mono ?_
  rintro e w2 ⟨v', rfl, r2, b2⟩
  have z2 := b2.size
  have B2 := hidIt (B1.trans (b2.mono (by omega)))
  have R2 := hidIt r2
  obtain ⟨g', c', rfl, e1, e2, e3, e4⟩ := r2.ofSome (by omega)
  have e3' := e3 i hi1
  rw [HX.out] at e3'
  have e4' := e4 i
  have d0 : w2.cell? ⟨w.heap.size, 0, none⟩ = some (.slice (some ⟨g, 0, none⟩) xs.length c) := below_cell b2 (by omega) c0
  have d1 : w2.cell? ⟨w.heap.size + 1, 0, none⟩ = some (.int .i64 1) := below_cell b2 (by omega) (below_cell b1 (by simp <;> omega) (by simp [go_sem]))
  have d2 : w2.cell? ⟨w.heap.size + 1, 1, none⟩ = some (.int .i64 i) := below_cell b2 (by omega) (below_cell b1 (by simp <;> omega) (by simp [go_sem]))
  have d3 : w2.cell? ⟨w.heap.size + 1, 2, none⟩ = some (.int .i64 a) := below_cell b2 (by omega) (below_cell b1 (by simp <;> omega) (by simp [go_sem]))
  have d4 : w2.cell? ⟨w.heap.size + 1, 3, none⟩ = some (.int .i64 b) := below_cell b2 (by omega) (below_cell b1 (by simp <;> omega) (by simp [go_sem]))
  have d5 : w2.cell? ⟨w.heap.size + 1 + 1, 0, none⟩ = some (.slice none 0 0) := below_cell b2 (by omega) (below_cell b1 (by simp <;> omega) (by simp [go_sem]))
  have d6 : w2.frozen? ⟨w.heap.size + 1 + 1, 0, none⟩ = false := below_frozen b2 (by omega) (below_frozen b1 (by simp <;> omega) (by simp [go_sem]))
  have d7 : w2.cell? ⟨g, i, none⟩ = some (.int .i64 x) := below_cell b2 (by omega) (below_cell B1 (by omega) HG.out)
  have hi2 : (i : Int) < (xs.length : Int) := by omega
  have hgz : g < w2.heap.size := by omega
  have hz3 : w.heap.size < w2.heap.size := by omega
  have hz4 : w.heap.size + 1 < w2.heap.size := by omega
  have hz5 : w.heap.size + 1 + 1 < w2.heap.size := by omega
  have hgg : g' ≠ w.heap.size + 1 + 1 := by omega
  clear r2 e3 e4 b1 b2 c0 h B1
  have hfin : ((w2.setCell ⟨w.heap.size + 1 + 1, 0, none⟩ (.slice (some ⟨g', 0, none⟩) xs.length c')).alloc (.cells #[(.slice (some ⟨g', 0, none⟩) xs.length c')] 28)).cell? ⟨w.heap.size + 1 + 1, 0, none⟩ = some (.slice (some ⟨g', 0, none⟩) xs.length c') := by
    rw [World.cell?_alloc_lt _ _ _ (by simp <;> omega)]
    exact World.cell?_setCell_same _ _ _ d5
  have HF := hidIt hfin
  clear hfin
  go_wp2
  refine bodyPost_ret (v := .tuple #[.agg #[(.slice (some ⟨g', 0, none⟩) xs.length c')], .int .i64 x, .bool true]) (by simp [results, Try.results34, go_sem, HF.out]) rfl ⟨_, rfl, ?_, ?_⟩
  · exact ((R2.out.set_below ⟨w.heap.size + 1 + 1, 0, none⟩ _ (by show w.heap.size + 1 + 1 < w1.heap.size; omega)).alloc (by simp) _).lo (by omega) |>.up (by simp <;> omega)
  · exact ((B2.out.setCell (p := ⟨w.heap.size + 1 + 1, 0, none⟩) (by show w.heap.size ≤ w.heap.size + 1 + 1; omega) _).alloc (by simp <;> omega) _)

set_option maxHeartbeats 800000 in
set_option maxRecDepth 100000 in
theorem spec_do_store (lo hi : Nat) (v : Value) (xs : List Int) (i : Nat) (a b x : Int) (w : World) (hn : xs.length ≤ 4194304) (hh : hi ≤ w.heap.size) (r : Row w lo hi v (ints xs)) (hi1 : i < xs.length) (hx : xs[i] = x) (h : actB xs.length 2 i a b = true) :
    Calls Try.prog 34 #[.agg #[v], .agg #[.int .i64 2, .int .i64 (i : Int), .int .i64 a, .int .i64 b]] w fun e w' => ∃ v', e = .returned (.tuple #[.agg #[v'], .int .i64 0, .bool true]) ∧ Row w' w.heap.size w'.heap.size v' (ints (xs.set i a)) ∧ Below w.heap.size w w' := by
  have R := hidIt r
  obtain ⟨g, c, rfl, g1, g2, g3, g4⟩ := r.ofSome (by omega)
  have hg3 := g3 i hi1
  rw [hx] at hg3
  have HG := hidIt hg3
  have HX := hidIt hx
  clear r g3 g4 hg3 hx
  go_enter Try.func34, Try.ntmps34
  go_wp2_with fail
  refine (spec_actok _ _ c 2 i a b _ hn).mono ?_
  rintro e w1 ⟨rfl, b1⟩
  have z1 := b1.size
  simp at z1
  have c0 : w1.cell? ⟨w.heap.size, 0, none⟩ = some (.slice (some ⟨g, 0, none⟩) xs.length c) := below_cell b1 (by simp <;> omega) (by simp [go_sem])
  rw [h]
  go_wp2_with fail
  have B1 : Below w.heap.size w w1 := (((((Below.refl w.heap.size w).alloc (Nat.le_refl _) _).alloc (by simp) _).alloc (by simp <;> omega) _).trans (b1.mono (by simp <;> omega)))
  refine (spec_copy _ lo hi _ xs hn (by omega) (by omega) (R.out.below (B1.mono hh))).mono ?_
  rintro e w2 ⟨v', rfl, r2, b2⟩
  have z2 := b2.size
  have B2 := hidIt (B1.trans (b2.mono (by omega)))
  have R2 := hidIt r2
  obtain ⟨g', c', rfl, e1, e2, e3, e4⟩ := r2.ofSome (by omega)
  have e3' := e3 i hi1
  rw [HX.out] at e3'
  have e4' := e4 i
  have d0 : w2.cell? ⟨w.heap.size, 0, none⟩ = some (.slice (some ⟨g, 0, none⟩) xs.length c) := below_cell b2 (by omega) c0
  have d1 : w2.cell? ⟨w.heap.size + 1, 0, none⟩ = some (.int .i64 2) := below_cell b2 (by omega) (below_cell b1 (by simp <;> omega) (by simp [go_sem]))
  have d2 : w2.cell? ⟨w.heap.size + 1, 1, none⟩ = some (.int .i64 i) := below_cell b2 (by omega) (below_cell b1 (by simp <;> omega) (by simp [go_sem]))
  have d3 : w2.cell? ⟨w.heap.size + 1, 2, none⟩ = some (.int .i64 a) := below_cell b2 (by omega) (below_cell b1 (by simp <;> omega) (by simp [go_sem]))
  have d4 : w2.cell? ⟨w.heap.size + 1, 3, none⟩ = some (.int .i64 b) := below_cell b2 (by omega) (below_cell b1 (by simp <;> omega) (by simp [go_sem]))
  have d5 : w2.cell? ⟨w.heap.size + 1 + 1, 0, none⟩ = some (.slice none 0 0) := below_cell b2 (by omega) (below_cell b1 (by simp <;> omega) (by simp [go_sem]))
  have d6 : w2.frozen? ⟨w.heap.size + 1 + 1, 0, none⟩ = false := below_frozen b2 (by omega) (below_frozen b1 (by simp <;> omega) (by simp [go_sem]))
  have d7 : w2.cell? ⟨g, i, none⟩ = some (.int .i64 x) := below_cell b2 (by omega) (below_cell B1 (by omega) HG.out)
  have hi2 : (i : Int) < (xs.length : Int) := by omega
  have hgz : g < w2.heap.size := by omega
  have hz3 : w.heap.size < w2.heap.size := by omega
  have hz4 : w.heap.size + 1 < w2.heap.size := by omega
  have hz5 : w.heap.size + 1 + 1 < w2.heap.size := by omega
  have hgg : g' ≠ w.heap.size + 1 + 1 := by omega
  clear r2 e3 e4 b1 b2 c0 h B1
  have hfin : (((w2.setCell ⟨g', i, none⟩ (.int .i64 a)).setCell ⟨w.heap.size + 1 + 1, 0, none⟩ (.slice (some ⟨g', 0, none⟩) xs.length c')).alloc (.cells #[(.slice (some ⟨g', 0, none⟩) xs.length c')] 28)).cell? ⟨w.heap.size + 1 + 1, 0, none⟩ = some (.slice (some ⟨g', 0, none⟩) xs.length c') := by
    rw [World.cell?_alloc_lt _ _ _ (by simp <;> omega)]
    exact World.cell?_setCell_same _ _ _ (by rw [World.cell?_setCell_other _ _ _ _ (by simp <;> omega)]; exact d5)
  have HF := hidIt hfin
  clear hfin
  go_wp2
  refine bodyPost_ret (v := .tuple #[.agg #[(.slice (some ⟨g', 0, none⟩) xs.length c')], .int .i64 0, .bool true]) (by simp [results, Try.results34, go_sem, HF.out]) rfl ⟨_, rfl, ?_, ?_⟩
  · exact (((R2.out.put i hi1 a).set_below ⟨w.heap.size + 1 + 1, 0, none⟩ _ (by show w.heap.size + 1 + 1 < w1.heap.size; omega)).alloc (by simp) _).lo (by omega) |>.up (by simp <;> omega)
  · exact (((B2.out.setCell (p := ⟨g', i, none⟩) (by show w.heap.size ≤ g'; omega) _).setCell (p := ⟨w.heap.size + 1 + 1, 0, none⟩) (by show w.heap.size ≤ w.heap.size + 1 + 1; omega) _).alloc (by simp <;> omega) _)

set_option maxHeartbeats 800000 in
set_option maxRecDepth 100000 in
theorem spec_do_hit (lo hi : Nat) (v : Value) (xs : List Int) (i : Nat) (a b x : Int) (w : World) (hn : xs.length ≤ 4194304) (hh : hi ≤ w.heap.size) (r : Row w lo hi v (ints xs)) (hi1 : i < xs.length) (hx : xs[i] = x) (hxa : x = a) (h : actB xs.length 3 i a b = true) :
    Calls Try.prog 34 #[.agg #[v], .agg #[.int .i64 3, .int .i64 (i : Int), .int .i64 a, .int .i64 b]] w fun e w' => ∃ v', e = .returned (.tuple #[.agg #[v'], .int .i64 1, .bool true]) ∧ Row w' w.heap.size w'.heap.size v' (ints (xs.set i b)) ∧ Below w.heap.size w w' := by
  have R := hidIt r
  obtain ⟨g, c, rfl, g1, g2, g3, g4⟩ := r.ofSome (by omega)
  have hg3 := g3 i hi1
  rw [hx] at hg3
  have HG := hidIt hg3
  have HX := hidIt hx
  clear r g3 g4 hg3 hx
  go_enter Try.func34, Try.ntmps34
  go_wp2_with fail
  refine (spec_actok _ _ c 3 i a b _ hn).mono ?_
  rintro e w1 ⟨rfl, b1⟩
  have z1 := b1.size
  simp at z1
  have c0 : w1.cell? ⟨w.heap.size, 0, none⟩ = some (.slice (some ⟨g, 0, none⟩) xs.length c) := below_cell b1 (by simp <;> omega) (by simp [go_sem])
  rw [h]
  go_wp2_with fail
  have B1 : Below w.heap.size w w1 := (((((Below.refl w.heap.size w).alloc (Nat.le_refl _) _).alloc (by simp) _).alloc (by simp <;> omega) _).trans (b1.mono (by simp <;> omega)))
  refine (spec_copy _ lo hi _ xs hn (by omega) (by omega) (R.out.below (B1.mono hh))).mono ?_
  rintro e w2 ⟨v', rfl, r2, b2⟩
  have z2 := b2.size
  have B2 := hidIt (B1.trans (b2.mono (by omega)))
  have R2 := hidIt r2
  obtain ⟨g', c', rfl, e1, e2, e3, e4⟩ := r2.ofSome (by omega)
  have e3' := e3 i hi1
  rw [HX.out] at e3'
  have e4' := e4 i
  have d0 : w2.cell? ⟨w.heap.size, 0, none⟩ = some (.slice (some ⟨g, 0, none⟩) xs.length c) := below_cell b2 (by omega) c0
  have d1 : w2.cell? ⟨w.heap.size + 1, 0, none⟩ = some (.int .i64 3) := below_cell b2 (by omega) (below_cell b1 (by simp <;> omega) (by simp [go_sem]))
  have d2 : w2.cell? ⟨w.heap.size + 1, 1, none⟩ = some (.int .i64 i) := below_cell b2 (by omega) (below_cell b1 (by simp <;> omega) (by simp [go_sem]))
  have d3 : w2.cell? ⟨w.heap.size + 1, 2, none⟩ = some (.int .i64 a) := below_cell b2 (by omega) (below_cell b1 (by simp <;> omega) (by simp [go_sem]))
  have d4 : w2.cell? ⟨w.heap.size + 1, 3, none⟩ = some (.int .i64 b) := below_cell b2 (by omega) (below_cell b1 (by simp <;> omega) (by simp [go_sem]))
  have d5 : w2.cell? ⟨w.heap.size + 1 + 1, 0, none⟩ = some (.slice none 0 0) := below_cell b2 (by omega) (below_cell b1 (by simp <;> omega) (by simp [go_sem]))
  have d6 : w2.frozen? ⟨w.heap.size + 1 + 1, 0, none⟩ = false := below_frozen b2 (by omega) (below_frozen b1 (by simp <;> omega) (by simp [go_sem]))
  have d7 : w2.cell? ⟨g, i, none⟩ = some (.int .i64 x) := below_cell b2 (by omega) (below_cell B1 (by omega) HG.out)
  have hi2 : (i : Int) < (xs.length : Int) := by omega
  have hgz : g < w2.heap.size := by omega
  have hz3 : w.heap.size < w2.heap.size := by omega
  have hz4 : w.heap.size + 1 < w2.heap.size := by omega
  have hz5 : w.heap.size + 1 + 1 < w2.heap.size := by omega
  have hgg : g' ≠ w.heap.size + 1 + 1 := by omega
  clear r2 e3 e4 b1 b2 c0 h B1
  have hfin : (((w2.setCell ⟨g', i, none⟩ (.int .i64 b)).setCell ⟨w.heap.size + 1 + 1, 0, none⟩ (.slice (some ⟨g', 0, none⟩) xs.length c')).alloc (.cells #[(.slice (some ⟨g', 0, none⟩) xs.length c')] 28)).cell? ⟨w.heap.size + 1 + 1, 0, none⟩ = some (.slice (some ⟨g', 0, none⟩) xs.length c') := by
    rw [World.cell?_alloc_lt _ _ _ (by simp <;> omega)]
    exact World.cell?_setCell_same _ _ _ (by rw [World.cell?_setCell_other _ _ _ _ (by simp <;> omega)]; exact d5)
  have HF := hidIt hfin
  clear hfin
  go_wp2
  refine bodyPost_ret (v := .tuple #[.agg #[(.slice (some ⟨g', 0, none⟩) xs.length c')], .int .i64 1, .bool true]) (by simp [results, Try.results34, go_sem, HF.out]) rfl ⟨_, rfl, ?_, ?_⟩
  · exact (((R2.out.put i hi1 b).set_below ⟨w.heap.size + 1 + 1, 0, none⟩ _ (by show w.heap.size + 1 + 1 < w1.heap.size; omega)).alloc (by simp) _).lo (by omega) |>.up (by simp <;> omega)
  · exact (((B2.out.setCell (p := ⟨g', i, none⟩) (by show w.heap.size ≤ g'; omega) _).setCell (p := ⟨w.heap.size + 1 + 1, 0, none⟩) (by show w.heap.size ≤ w.heap.size + 1 + 1; omega) _).alloc (by simp <;> omega) _)

set_option maxHeartbeats 800000 in
set_option maxRecDepth 100000 in
theorem spec_do_miss (lo hi : Nat) (v : Value) (xs : List Int) (i : Nat) (a b x : Int) (w : World) (hn : xs.length ≤ 4194304) (hh : hi ≤ w.heap.size) (r : Row w lo hi v (ints xs)) (hi1 : i < xs.length) (hx : xs[i] = x) (hxa : ¬ x = a) (h : actB xs.length 3 i a b = true) :
    Calls Try.prog 34 #[.agg #[v], .agg #[.int .i64 3, .int .i64 (i : Int), .int .i64 a, .int .i64 b]] w fun e w' => ∃ v', e = .returned (.tuple #[.agg #[v'], .int .i64 0, .bool true]) ∧ Row w' w.heap.size w'.heap.size v' (ints xs) ∧ Below w.heap.size w w' := by
  have R := hidIt r
  obtain ⟨g, c, rfl, g1, g2, g3, g4⟩ := r.ofSome (by omega)
  have hg3 := g3 i hi1
  rw [hx] at hg3
  have HG := hidIt hg3
  have HX := hidIt hx
  clear r g3 g4 hg3 hx
  go_enter Try.func34, Try.ntmps34
  go_wp2_with fail
  refine (spec_actok _ _ c 3 i a b _ hn).mono ?_
  rintro e w1 ⟨rfl, b1⟩
  have z1 := b1.size
  simp at z1
  have c0 : w1.cell? ⟨w.heap.size, 0, none⟩ = some (.slice (some ⟨g, 0, none⟩) xs.length c) := below_cell b1 (by simp <;> omega) (by simp [go_sem])
  rw [h]
  go_wp2_with fail
  have B1 : Below w.heap.size w w1 := (((((Below.refl w.heap.size w).alloc (Nat.le_refl _) _).alloc (by simp) _).alloc (by simp <;> omega) _).trans (b1.mono (by simp <;> omega)))
  refine (spec_copy _ lo hi _ xs hn (by omega) (by omega) (R.out.below (B1.mono hh))).mono ?_
  rintro e w2 ⟨v', rfl, r2, b2⟩
  have z2 := b2.size
  have B2 := hidIt (B1.trans (b2.mono (by omega)))
  have R2 := hidIt r2
  obtain ⟨g', c', rfl, e1, e2, e3, e4⟩ := r2.ofSome (by omega)
  have e3' := e3 i hi1
  rw [HX.out] at e3'
  have e4' := e4 i
  have d0 : w2.cell? ⟨w.heap.size, 0, none⟩ = some (.slice (some ⟨g, 0, none⟩) xs.length c) := below_cell b2 (by omega) c0
  have d1 : w2.cell? ⟨w.heap.size + 1, 0, none⟩ = some (.int .i64 3) := below_cell b2 (by omega) (below_cell b1 (by simp <;> omega) (by simp [go_sem]))
  have d2 : w2.cell? ⟨w.heap.size + 1, 1, none⟩ = some (.int .i64 i) := below_cell b2 (by omega) (below_cell b1 (by simp <;> omega) (by simp [go_sem]))
  have d3 : w2.cell? ⟨w.heap.size + 1, 2, none⟩ = some (.int .i64 a) := below_cell b2 (by omega) (below_cell b1 (by simp <;> omega) (by simp [go_sem]))
  have d4 : w2.cell? ⟨w.heap.size + 1, 3, none⟩ = some (.int .i64 b) := below_cell b2 (by omega) (below_cell b1 (by simp <;> omega) (by simp [go_sem]))
  have d5 : w2.cell? ⟨w.heap.size + 1 + 1, 0, none⟩ = some (.slice none 0 0) := below_cell b2 (by omega) (below_cell b1 (by simp <;> omega) (by simp [go_sem]))
  have d6 : w2.frozen? ⟨w.heap.size + 1 + 1, 0, none⟩ = false := below_frozen b2 (by omega) (below_frozen b1 (by simp <;> omega) (by simp [go_sem]))
  have d7 : w2.cell? ⟨g, i, none⟩ = some (.int .i64 x) := below_cell b2 (by omega) (below_cell B1 (by omega) HG.out)
  have hi2 : (i : Int) < (xs.length : Int) := by omega
  have hgz : g < w2.heap.size := by omega
  have hz3 : w.heap.size < w2.heap.size := by omega
  have hz4 : w.heap.size + 1 < w2.heap.size := by omega
  have hz5 : w.heap.size + 1 + 1 < w2.heap.size := by omega
  have hgg : g' ≠ w.heap.size + 1 + 1 := by omega
  clear r2 e3 e4 b1 b2 c0 h B1
  have hfin : ((w2.setCell ⟨w.heap.size + 1 + 1, 0, none⟩ (.slice (some ⟨g', 0, none⟩) xs.length c')).alloc (.cells #[(.slice (some ⟨g', 0, none⟩) xs.length c')] 28)).cell? ⟨w.heap.size + 1 + 1, 0, none⟩ = some (.slice (some ⟨g', 0, none⟩) xs.length c') := by
    rw [World.cell?_alloc_lt _ _ _ (by simp <;> omega)]
    exact World.cell?_setCell_same _ _ _ d5
  have HF := hidIt hfin
  clear hfin
  go_wp2
  refine bodyPost_ret (v := .tuple #[.agg #[(.slice (some ⟨g', 0, none⟩) xs.length c')], .int .i64 0, .bool true]) (by simp [results, Try.results34, go_sem, HF.out]) rfl ⟨_, rfl, ?_, ?_⟩
  · exact ((R2.out.set_below ⟨w.heap.size + 1 + 1, 0, none⟩ _ (by show w.heap.size + 1 + 1 < w1.heap.size; omega)).alloc (by simp) _).lo (by omega) |>.up (by simp <;> omega)
  · exact ((B2.out.setCell (p := ⟨w.heap.size + 1 + 1, 0, none⟩) (by show w.heap.size ≤ w.heap.size + 1 + 1; omega) _).alloc (by simp <;> omega) _)

set_option maxHeartbeats 800000 in
set_option maxRecDepth 100000 in
theorem spec_do_add (lo hi : Nat) (v : Value) (xs : List Int) (i : Nat) (a b x : Int) (w : World) (hn : xs.length ≤ 4194304) (hh : hi ≤ w.heap.size) (r : Row w lo hi v (ints xs)) (hi1 : i < xs.length) (hx : xs[i] = x) (h : actB xs.length 4 i a b = true) :
    Calls Try.prog 34 #[.agg #[v], .agg #[.int .i64 4, .int .i64 (i : Int), .int .i64 a, .int .i64 b]] w fun e w' => ∃ v', e = .returned (.tuple #[.agg #[v'], .int .i64 (wrap64 (x + a)), .bool true]) ∧ Row w' w.heap.size w'.heap.size v' (ints (xs.set i (wrap64 (x + a)))) ∧ Below w.heap.size w w' := by
  have R := hidIt r
  obtain ⟨g, c, rfl, g1, g2, g3, g4⟩ := r.ofSome (by omega)
  have hg3 := g3 i hi1
  rw [hx] at hg3
  have HG := hidIt hg3
  have HX := hidIt hx
  clear r g3 g4 hg3 hx
  go_enter Try.func34, Try.ntmps34
  go_wp2_with fail
  refine (spec_actok _ _ c 4 i a b _ hn).mono ?_
  rintro e w1 ⟨rfl, b1⟩
  have z1 := b1.size
  simp at z1
  have c0 : w1.cell? ⟨w.heap.size, 0, none⟩ = some (.slice (some ⟨g, 0, none⟩) xs.length c) := below_cell b1 (by simp <;> omega) (by simp [go_sem])
  rw [h]
  go_wp2_with fail
  have B1 : Below w.heap.size w w1 := (((((Below.refl w.heap.size w).alloc (Nat.le_refl _) _).alloc (by simp) _).alloc (by simp <;> omega) _).trans (b1.mono (by simp <;> omega)))
  refine (spec_copy _ lo hi _ xs hn (by omega) (by omega) (R.out.below (B1.mono hh))).mono ?_
  rintro e w2 ⟨v', rfl, r2, b2⟩
  have z2 := b2.size
  have B2 := hidIt (B1.trans (b2.mono (by omega)))
  have R2 := hidIt r2
  obtain ⟨g', c', rfl, e1, e2, e3, e4⟩ := r2.ofSome (by omega)
  have e3' := e3 i hi1
  rw [HX.out] at e3'
  have e4' := e4 i
  have d0 : w2.cell? ⟨w.heap.size, 0, none⟩ = some (.slice (some ⟨g, 0, none⟩) xs.length c) := below_cell b2 (by omega) c0
  have d1 : w2.cell? ⟨w.heap.size + 1, 0, none⟩ = some (.int .i64 4) := below_cell b2 (by omega) (below_cell b1 (by simp <;> omega) (by simp [go_sem]))
  have d2 : w2.cell? ⟨w.heap.size + 1, 1, none⟩ = some (.int .i64 i) := below_cell b2 (by omega) (below_cell b1 (by simp <;> omega) (by simp [go_sem]))
  have d3 : w2.cell? ⟨w.heap.size + 1, 2, none⟩ = some (.int .i64 a) := below_cell b2 (by omega) (below_cell b1 (by simp <;> omega) (by simp [go_sem]))
  have d4 : w2.cell? ⟨w.heap.size + 1, 3, none⟩ = some (.int .i64 b) := below_cell b2 (by omega) (below_cell b1 (by simp <;> omega) (by simp [go_sem]))
  have d5 : w2.cell? ⟨w.heap.size + 1 + 1, 0, none⟩ = some (.slice none 0 0) := below_cell b2 (by omega) (below_cell b1 (by simp <;> omega) (by simp [go_sem]))
  have d6 : w2.frozen? ⟨w.heap.size + 1 + 1, 0, none⟩ = false := below_frozen b2 (by omega) (below_frozen b1 (by simp <;> omega) (by simp [go_sem]))
  have d7 : w2.cell? ⟨g, i, none⟩ = some (.int .i64 x) := below_cell b2 (by omega) (below_cell B1 (by omega) HG.out)
  have hi2 : (i : Int) < (xs.length : Int) := by omega
  have hgz : g < w2.heap.size := by omega
  have hz3 : w.heap.size < w2.heap.size := by omega
  have hz4 : w.heap.size + 1 < w2.heap.size := by omega
  have hz5 : w.heap.size + 1 + 1 < w2.heap.size := by omega
  have hgg : g' ≠ w.heap.size + 1 + 1 := by omega
  clear r2 e3 e4 b1 b2 c0 h B1
  have hfin : (((w2.setCell ⟨g', i, none⟩ (.int .i64 (wrap64 (x + a)))).setCell ⟨w.heap.size + 1 + 1, 0, none⟩ (.slice (some ⟨g', 0, none⟩) xs.length c')).alloc (.cells #[(.slice (some ⟨g', 0, none⟩) xs.length c')] 28)).cell? ⟨w.heap.size + 1 + 1, 0, none⟩ = some (.slice (some ⟨g', 0, none⟩) xs.length c') := by
    rw [World.cell?_alloc_lt _ _ _ (by simp <;> omega)]
    exact World.cell?_setCell_same _ _ _ (by rw [World.cell?_setCell_other _ _ _ _ (by simp <;> omega)]; exact d5)
  have HF := hidIt hfin
  clear hfin
  go_wp2
  refine bodyPost_ret (v := .tuple #[.agg #[(.slice (some ⟨g', 0, none⟩) xs.length c')], .int .i64 (wrap64 (x + a)), .bool true]) (by simp [results, Try.results34, go_sem, HF.out]) rfl ⟨_, rfl, ?_, ?_⟩
  · exact (((R2.out.put i hi1 (wrap64 (x + a))).set_below ⟨w.heap.size + 1 + 1, 0, none⟩ _ (by show w.heap.size + 1 + 1 < w1.heap.size; omega)).alloc (by simp) _).lo (by omega) |>.up (by simp <;> omega)
  · exact (((B2.out.setCell (p := ⟨g', i, none⟩) (by show w.heap.size ≤ g'; omega) _).setCell (p := ⟨w.heap.size + 1 + 1, 0, none⟩) (by show w.heap.size ≤ w.heap.size + 1 + 1; omega) _).alloc (by simp <;> omega) _)


theorem spec_do_yes (lo hi : Nat) (v : Value) (xs : List Int) (i : Nat) (k a b : Int) (w : World) (hn : xs.length ≤ 4194304) (hh : hi ≤ w.heap.size) (r : Row w lo hi v (ints xs)) (h : actB xs.length k i a b = true) :
    Calls Try.prog 34 #[.agg #[v], .agg #[.int .i64 k, .int .i64 (i : Int), .int .i64 a, .int .i64 b]] w fun e w' => ∃ v', e = .returned (.tuple #[.agg #[v'], .int .i64 (actTold (xs.getD i 0) k a), .bool true]) ∧ Row w' w.heap.size w'.heap.size v' (ints (memDo xs k i a b)) ∧ Below w.heap.size w w' := by
  obtain ⟨q1, q2, q3, q4, q5, q6, q7⟩ := actB_of h
  have hi1 : i < xs.length := by omega
  have hx : xs.getD i 0 = xs[i] := by simp [hi1]
  have hs : xs.set i xs[i] = xs := List.set_getElem_self hi1
  obtain rfl | rfl | rfl | rfl : k = 1 ∨ k = 2 ∨ k = 3 ∨ k = 4 := by omega
  · have e1 : actTold (xs.getD i 0) 1 a = xs[i] := by rw [hx]; simp [actTold]
    have e2 : memDo xs 1 i a b = xs := by simp [memDo, actNew, hi1]
    rw [e1, e2]
    exact spec_do_load lo hi v xs i a b xs[i] w hn hh r hi1 rfl h
  · have e1 : actTold (xs.getD i 0) 2 a = 0 := by simp [actTold]
    have e2 : memDo xs 2 i a b = xs.set i a := by simp [memDo, actNew]
    rw [e1, e2]
    exact spec_do_store lo hi v xs i a b xs[i] w hn hh r hi1 rfl h
  · by_cases hxa : xs[i] = a
    · have e1 : actTold (xs.getD i 0) 3 a = 1 := by rw [hx]; simp [actTold, hxa]
      have e2 : memDo xs 3 i a b = xs.set i b := by simp [memDo, actNew, hi1, hxa]
      rw [e1, e2]
      exact spec_do_hit lo hi v xs i a b xs[i] w hn hh r hi1 rfl hxa h
    · have e1 : actTold (xs.getD i 0) 3 a = 0 := by rw [hx]; simp [actTold, hxa]
      have e2 : memDo xs 3 i a b = xs := by simp [memDo, actNew, hi1, hxa]
      rw [e1, e2]
      exact spec_do_miss lo hi v xs i a b xs[i] w hn hh r hi1 rfl hxa h
  · have e1 : actTold (xs.getD i 0) 4 a = wrap64 (xs[i] + a) := by rw [hx]; simp [actTold]
    have e2 : memDo xs 4 i a b = xs.set i (wrap64 (xs[i] + a)) := by simp [memDo, actNew, hi1]
    rw [e1, e2]
    exact spec_do_add lo hi v xs i a b xs[i] w hn hh r hi1 rfl h

end Go.Proofs.Ytomfdbglnedpcaa
