/- One cell put anew, by the model and by the program. -/
import Derived.Test.YtpokelkaonbefaaRows
import Derived.WalkKit
import Derived.ProofKit
import Derived.OpenShut
import Derived.ShutString
import Derived.Test.YtpokelkaonbefaaImplDo
namespace Go.Proofs.Ytpokelkaonbefaa
open Go.ChangeShapes Go.WideShapes Go.ChangeAt Go.RowKit
set_option linter.unusedVariables false

set_option maxRecDepth 100000 in
theorem spec_set_no (a : Option Addr) (n c : Nat) (t y : Int) (w : World) (h : ¬ (0 ≤ t ∧ t < (n : Int))) :
    Calls Try.prog 22 #[.agg #[.slice a n c], .int .i64 t, .int .i64 y] w fun e w' => e = .returned (.tuple #[.agg #[.slice none 0 0], .bool false]) ∧ Below w.heap.size w w' := by
  by_cases h0 : t < 0
  · go_enter Try.func22, Try.ntmps22
    go_wp2
    exact bodyPost_ret (v := .tuple #[.agg #[.slice none 0 0], .bool false]) (by simp [results, Try.results22, go_sem]) rfl ⟨rfl, by repeat (first | exact Below.refl _ _ | refine Below.setCell ?_ (by simp <;> omega) _ | refine Below.alloc ?_ (by simp <;> omega) _)⟩
  · have h1 : (n : Int) ≤ t := by omega
    go_enter Try.func22, Try.ntmps22
    go_wp2
    exact bodyPost_ret (v := .tuple #[.agg #[.slice none 0 0], .bool false]) (by simp [results, Try.results22, go_sem]) rfl ⟨rfl, by repeat (first | exact Below.refl _ _ | refine Below.setCell ?_ (by simp <;> omega) _ | refine Below.alloc ?_ (by simp <;> omega) _)⟩

set_option maxHeartbeats 800000 in
set_option maxRecDepth 100000 in
theorem spec_set_yes (lo hi : Nat) (v : Value) (xs : List Int) (i : Nat) (y : Int) (w : World) (hn : xs.length ≤ 4194304) (hh : hi ≤ w.heap.size) (r : Row w lo hi v (ints xs)) (hi1 : i < xs.length) :
    Calls Try.prog 22 #[.agg #[v], .int .i64 (i : Int), .int .i64 y] w fun e w' => ∃ v', e = .returned (.tuple #[.agg #[v'], .bool true]) ∧ Row w' w.heap.size w'.heap.size v' (ints (xs.set i y)) ∧ Below w.heap.size w w' := by
  have R := hidIt r
  obtain ⟨g, c, rfl, g1, g2, -, -⟩ := r.ofSome (by omega)
  clear r
  have hi2 : (i : Int) < (xs.length : Int) := by omega
  go_enter Try.func22, Try.ntmps22
  go_wp2_with fail
  refine (spec_copy _ lo hi _ xs hn (by omega) (by simp <;> omega) ((R.out.alloc hh _).alloc (by simp <;> omega) _)).mono ?_
  rintro e w2 ⟨v', rfl, r2, b2⟩
  have z2 := b2.size
  simp at z2
  have B2 := hidIt (((((Below.refl w.heap.size w).alloc (Nat.le_refl _) _).alloc (by simp) _)).trans (b2.mono (by simp <;> omega)))
  have R2 := hidIt r2
  obtain ⟨g', c', rfl, e1, e2, e3, e4⟩ := r2.ofSome (by omega)
  simp at e1
  have e3' := e3 i hi1
  have e4' := e4 i
  have d5 : w2.cell? ⟨w.heap.size + 1, 0, none⟩ = some (.slice none 0 0) := below_cell b2 (by simp <;> omega) (by simp [go_sem])
  have d6 : w2.frozen? ⟨w.heap.size + 1, 0, none⟩ = false := below_frozen b2 (by simp <;> omega) (by simp [go_sem])
  have hz5 : w.heap.size + 1 < w2.heap.size := by omega
  have hgg : g' ≠ w.heap.size + 1 := by omega
  clear r2 e3 e4 b2
  have hfin : (((w2.setCell ⟨g', i, none⟩ (.int .i64 y)).setCell ⟨w.heap.size + 1, 0, none⟩ (.slice (some ⟨g', 0, none⟩) xs.length c')).alloc (.cells #[.slice (some ⟨g', 0, none⟩) xs.length c'] 29)).cell? ⟨w.heap.size + 1, 0, none⟩ = some (.slice (some ⟨g', 0, none⟩) xs.length c') := by
    rw [World.cell?_alloc_lt _ _ _ (by simp <;> omega)]
    exact World.cell?_setCell_same _ _ _ (by rw [World.cell?_setCell_other _ _ _ _ (by simp <;> omega)]; exact d5)
  have HF := hidIt hfin
  clear hfin
  go_wp2
  refine bodyPost_ret (v := .tuple #[.agg #[.slice (some ⟨g', 0, none⟩) xs.length c'], .bool true]) (by simp [results, Try.results22, go_sem, HF.out]) rfl ⟨_, rfl, ?_, ?_⟩
  · exact (((R2.out.put i hi1 y).set_below ⟨w.heap.size + 1, 0, none⟩ _ (by simp <;> omega)).alloc (by simp) _).lo (by simp <;> omega) |>.up (by simp <;> omega)
  · exact (((B2.out.setCell (p := ⟨g', i, none⟩) (by show w.heap.size ≤ g'; omega) _).setCell (p := ⟨w.heap.size + 1, 0, none⟩) (by show w.heap.size ≤ w.heap.size + 1; omega) _).alloc (by simp <;> omega) _)

set_option maxRecDepth 100000 in
theorem impl_set_no (a : Option Addr) (n c : Nat) (t y : Int) (w : World) (h : ¬ (0 ≤ t ∧ t < (n : Int))) :
    Calls Try.prog 23 #[.agg #[.slice a n c], .int .i64 t, .int .i64 y] w fun e w' => e = .returned (.tuple #[.agg #[.slice none 0 0], .bool false]) ∧ Below w.heap.size w w' := by
  have hb : hasB n t = false := decide_eq_false h
  clear h
  go_enter Try.func23, Try.ntmps23
  go_wp2_with fail
  refine (impl_hascell a n c t _).mono ?_
  rintro e w1 ⟨rfl, b1⟩
  have c2 : w1.cell? ⟨w.heap.size + 1, 0, none⟩ = some (.slice none 0 0) := below_cell b1 (by simp) (by simp [go_sem])
  have f2 : w1.frozen? ⟨w.heap.size + 1, 0, none⟩ = false := below_frozen b1 (by simp) (by simp [go_sem])
  rw [hb]
  go_wp2
  refine bodyPost_ret (v := .tuple #[.agg #[.slice none 0 0], .bool false]) (by simp [results, Try.results23, go_sem, c2]) rfl ⟨rfl, ?_⟩
  exact (((((Below.refl w.heap.size w).alloc (Nat.le_refl _) _).alloc (by simp) _)).trans (b1.mono (by simp <;> omega))).setCell (by simp <;> omega) _

set_option maxHeartbeats 800000 in
set_option maxRecDepth 100000 in
theorem impl_set_yes (lo hi : Nat) (v : Value) (xs : List Int) (i : Nat) (y : Int) (w : World) (hn : xs.length ≤ 4194304) (hh : hi ≤ w.heap.size) (r : Row w lo hi v (ints xs)) (hi1 : i < xs.length) :
    Calls Try.prog 23 #[.agg #[v], .int .i64 (i : Int), .int .i64 y] w fun e w' => ∃ v', e = .returned (.tuple #[.agg #[v'], .bool true]) ∧ Row w' w.heap.size w'.heap.size v' (ints (xs.set i y)) ∧ Below w.heap.size w w' := by
  have hb : hasB xs.length i = true := decide_eq_true ⟨by omega, by omega⟩
  have R := hidIt r
  obtain ⟨g, c, rfl, g1, g2, -, -⟩ := r.ofSome (by omega)
  clear r
  go_enter Try.func23, Try.ntmps23
  go_wp2_with fail
  refine (impl_hascell _ _ c i _).mono ?_
  rintro e w1 ⟨rfl, b1⟩
  have z1 := b1.size
  simp at z1
  have c0 : w1.cell? ⟨w.heap.size, 0, none⟩ = some (.slice (some ⟨g, 0, none⟩) xs.length c) := below_cell b1 (by simp <;> omega) (by simp [go_sem])
  rw [hb]
  go_wp2_with fail
  have B1 : Below w.heap.size w w1 := ((((Below.refl w.heap.size w).alloc (Nat.le_refl _) _).alloc (by simp) _).trans (b1.mono (by simp <;> omega)))
  refine (impl_copy _ lo hi _ xs hn (by omega) (R.out.below (B1.mono hh))).mono ?_
  rintro e w2 ⟨v', rfl, r2, b2⟩
  have z2 := b2.size
  have B2 := hidIt (B1.trans (b2.mono (by omega)))
  have R2 := hidIt r2
  obtain ⟨g', c', rfl, e1, e2, -, -⟩ := r2.ofSome (by omega)
  have d5 : w2.cell? ⟨w.heap.size + 1, 0, none⟩ = some (.slice none 0 0) := below_cell b2 (by omega) (below_cell b1 (by simp <;> omega) (by simp [go_sem]))
  have d6 : w2.frozen? ⟨w.heap.size + 1, 0, none⟩ = false := below_frozen b2 (by omega) (below_frozen b1 (by simp <;> omega) (by simp [go_sem]))
  have hz5 : w.heap.size + 1 < w2.heap.size := by omega
  have hz6 : w.heap.size < w2.heap.size := by omega
  have hz7 : w.heap.size + 1 < w2.heap.size + 1 := by omega
  clear r2 b1 b2 c0 B1
  have hm := act_method (some ⟨g', 0, none⟩) xs.length c'
  go_wp2_with fail
  refine (cells_of _ _ _ _).mono ?_
  rintro e w3 ⟨rfl, rfl⟩
  go_wp2_with fail
  refine (act_store w1.heap.size w2.heap.size g' xs.length c' xs i y 0 xs[i] _ (by simp <;> omega) (R2.out.below (((Below.refl _ _).alloc (Nat.le_refl _) _).alloc (by simp) _)) hi1 rfl).mono ?_
  rintro e w4 ⟨rfl, r4, b4⟩
  have R4 := hidIt r4
  have B4 := hidIt b4
  have z4 := b4.size
  simp at z4
  have f1 : w4.cell? ⟨w2.heap.size, 0, none⟩ = some (.slice (some ⟨g', 0, none⟩) xs.length c') := (b4.cell_far ⟨w2.heap.size, 0, none⟩ (by simp <;> omega) (by simp <;> omega)).trans (by simp [go_sem])
  have f2 : w4.cell? ⟨w.heap.size + 1, 0, none⟩ = some (.slice none 0 0) := (b4.cell_far ⟨w.heap.size + 1, 0, none⟩ (by simp <;> omega) (by simp <;> omega)).trans (by simp [go_sem, d5, hz5, hz6])
  have f3 : w4.frozen? ⟨w.heap.size + 1, 0, none⟩ = false := (b4.frozen_far ⟨w.heap.size + 1, 0, none⟩ (by simp <;> omega) (by simp <;> omega)).trans (by simp [go_sem, d6, hz5, hz6])
  clear r4 b4
  go_wp2
  refine bodyPost_ret (v := .tuple #[.agg #[.slice (some ⟨g', 0, none⟩) xs.length c'], .bool true]) (by simp [results, Try.results23, go_sem, f2]) rfl ⟨_, rfl, ?_, ?_⟩
  · exact (R4.out.set_below ⟨w.heap.size + 1, 0, none⟩ _ (by show w.heap.size + 1 < w1.heap.size; omega)).lo (by omega) |>.up (by simp <;> omega)
  · exact ((((B2.out.alloc (by omega) _).alloc (by simp <;> omega) _).grown B4.out (by simp <;> omega) (fun q hq => by simp at hq; omega)).setCell (p := ⟨w.heap.size + 1, 0, none⟩) (by show w.heap.size ≤ w.heap.size + 1; omega) _)

def setB (xs : List Int) (t : Int) : Bool := decide (0 ≤ t ∧ t < (xs.length : Int))
def setL (xs : List Int) (t y : Int) : List Int := if 0 ≤ t ∧ t < (xs.length : Int) then xs.set t.toNat y else []
theorem setL_len (xs : List Int) (t y : Int) : (setL xs t y).length ≤ xs.length := by unfold setL; split <;> simp
theorem spec_set (lo hi : Nat) (v : Value) (xs : List Int) (t y : Int) (w : World) (hn : xs.length ≤ 4194304) (hh : hi ≤ w.heap.size) (r : Row w lo hi v (ints xs)) :
    Calls Try.prog 22 #[.agg #[v], .int .i64 t, .int .i64 y] w fun e w' => ∃ v', e = .returned (.tuple #[.agg #[v'], .bool (setB xs t)]) ∧ Row w' w.heap.size w'.heap.size v' (ints (setL xs t y)) ∧ Below w.heap.size w w' := by
  by_cases h : 0 ≤ t ∧ t < (xs.length : Int)
  · obtain ⟨i, rfl⟩ : ∃ i : Nat, t = i := ⟨t.toNat, by omega⟩
    have hi1 : i < xs.length := by omega
    have e1 : setB xs i = true := decide_eq_true h
    have e2 : setL xs i y = xs.set i y := by unfold setL; rw [if_pos h]; simp
    rw [e1, e2]
    exact spec_set_yes lo hi v xs i y w hn hh r hi1
  · have e1 : setB xs t = false := decide_eq_false h
    have e2 : setL xs t y = [] := by unfold setL; rw [if_neg h]
    rw [e1, e2]
    obtain ⟨a, c, rfl⟩ := r.form
    refine (spec_set_no a xs.length c t y w h).mono ?_
    rintro e w' ⟨rfl, b⟩
    exact ⟨_, rfl, ⟨none, 0, rfl, .inl rfl⟩, b⟩
theorem impl_set (lo hi : Nat) (v : Value) (xs : List Int) (t y : Int) (w : World) (hn : xs.length ≤ 4194304) (hh : hi ≤ w.heap.size) (r : Row w lo hi v (ints xs)) :
    Calls Try.prog 23 #[.agg #[v], .int .i64 t, .int .i64 y] w fun e w' => ∃ v', e = .returned (.tuple #[.agg #[v'], .bool (setB xs t)]) ∧ Row w' w.heap.size w'.heap.size v' (ints (setL xs t y)) ∧ Below w.heap.size w w' := by
  by_cases h : 0 ≤ t ∧ t < (xs.length : Int)
  · obtain ⟨i, rfl⟩ : ∃ i : Nat, t = i := ⟨t.toNat, by omega⟩
    have hi1 : i < xs.length := by omega
    have e1 : setB xs i = true := decide_eq_true h
    have e2 : setL xs i y = xs.set i y := by unfold setL; rw [if_pos h]; simp
    rw [e1, e2]
    exact impl_set_yes lo hi v xs i y w hn hh r hi1
  · have e1 : setB xs t = false := decide_eq_false h
    have e2 : setL xs t y = [] := by unfold setL; rw [if_neg h]
    rw [e1, e2]
    obtain ⟨a, c, rfl⟩ := r.form
    refine (impl_set_no a xs.length c t y w h).mono ?_
    rintro e w' ⟨rfl, b⟩
    exact ⟨_, rfl, ⟨none, 0, rfl, .inl rfl⟩, b⟩

end Go.Proofs.Ytpokelkaonbefaa
