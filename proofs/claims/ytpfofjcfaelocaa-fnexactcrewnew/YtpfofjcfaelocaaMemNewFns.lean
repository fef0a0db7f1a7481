/- New rows of cells, by the model and by the program. -/
import Derived.Test.YtpfofjcfaelocaaRows
import Derived.WalkKit
import Derived.ProofKit
import Derived.OpenShut
import Derived.ShutString
import Derived.Test.YtpfofjcfaelocaaCellRow
namespace Go.Proofs.Ytpfofjcfaelocaa
open Go.ChangeShapes Go.WideShapes Go.ChangeAt Go.RowKit
set_option linter.unusedVariables false

theorem made_ints (n : Nat) : (madeCells (Value.int .i64 0).cells (n * 1)).toList = ints (List.replicate n 0) := by
  have : (madeCells (Value.int .i64 0).cells (n * 1)).toList = List.replicate (n * 1) (Value.int .i64 0) := toList_madeCells_one _ _
  rw [this]; simp

set_option maxRecDepth 100000 in
theorem spec_memnew_no (n : Int) (w : World) (h : n < 0 ∨ 300 < n) :
    Calls Try.prog 45 #[.int .i64 n] w fun e w' => e = .returned (.tuple #[.agg #[.slice none 0 0], .bool false]) ∧ Below w.heap.size w w' := by
  rcases h with h | h
  · go_enter Try.func45, Try.ntmps45
    go_wp2
    exact bodyPost_ret (v := .tuple #[.agg #[.slice none 0 0], .bool false]) (by simp [results, Try.results45, go_sem]) rfl ⟨rfl, by repeat (first | exact Below.refl _ _ | refine Below.setCell ?_ (by simp <;> omega) _ | refine Below.alloc ?_ (by simp <;> omega) _)⟩
  · have h' : ¬ n < 0 := by omega
    go_enter Try.func45, Try.ntmps45
    go_wp2
    exact bodyPost_ret (v := .tuple #[.agg #[.slice none 0 0], .bool false]) (by simp [results, Try.results45, go_sem]) rfl ⟨rfl, by repeat (first | exact Below.refl _ _ | refine Below.setCell ?_ (by simp <;> omega) _ | refine Below.alloc ?_ (by simp <;> omega) _)⟩

set_option maxRecDepth 100000 in
theorem spec_memnew_yes (n : Nat) (w : World) (h : n ≤ 300) :
    Calls Try.prog 45 #[.int .i64 (n : Int)] w fun e w' => ∃ v', e = .returned (.tuple #[.agg #[v'], .bool true]) ∧ Row w' w.heap.size w'.heap.size v' (ints (List.replicate n 0)) ∧ Below w.heap.size w w' := by
  obtain ⟨i0, hi, hz0, hz1, hz2⟩ := info_parts info3
  have h1 : ¬ (n : Int) < 0 := by omega
  have h2 : (n : Int) ≤ 300 := by omega
  go_enter Try.func45, Try.ntmps45
  go_wp2_with (at_make; refine wpList_make_full _ rfl _ _ 24 rfl (w.heap.size + 1) 3 i0 (.int .i64 0) 1 Try.underlying24 hi hz0 hz1 .i64 .i64 _ _ n rfl rfl rfl rfl (by rw [hz2]; omega) (by unfold maxLen; omega) (by simp) ?_; intro w1 hown hgrow; have b1 : Below (w.heap.size + 1) (w.alloc (.cells #[.slice none 0 0] 26)) w1 := (Below.refl _ _).grown hgrow (by simp) (fun k hk => by cases hk); have r1 := Row.of_owns hown; rw [made_ints] at r1; have R1 := hidIt r1; have d5 : w1.cell? ⟨w.heap.size, 0, none⟩ = some (.slice none 0 0) := below_cell b1 (by omega) (by simp [go_sem]); have d6 : w1.frozen? ⟨w.heap.size, 0, none⟩ = false := below_frozen b1 (by omega) (by simp [go_sem]); clear hown hgrow r1)
  refine bodyPost_ret (v := .tuple #[.agg #[.slice (some ⟨w.heap.size + 1, 0, none⟩) n n], .bool true]) (by simp [results, Try.results45, go_sem, d5]) rfl ⟨_, rfl, ?_, ?_⟩
  · have := (R1.out.set_below ⟨w.heap.size, 0, none⟩ (.slice (some ⟨w.heap.size + 1, 0, none⟩) n n) (by simp)).lo (lo' := w.heap.size) (by omega) |>.up (hi' := (w1.setCell ⟨w.heap.size, 0, none⟩ (.slice (some ⟨w.heap.size + 1, 0, none⟩) n n)).heap.size) (by simp)
    simpa using this
  · exact (((Below.refl w.heap.size w).alloc (Nat.le_refl _) _).trans (b1.mono (by omega))).setCell (p := ⟨w.heap.size, 0, none⟩) (Nat.le_refl _) _

set_option maxRecDepth 100000 in
theorem impl_memnew_no (n : Int) (w : World) (h : n < 0 ∨ 300 < n) :
    Calls Try.prog 52 #[.int .i64 n] w fun e w' => e = .returned (.tuple #[.agg #[.slice none 0 0], .bool false]) ∧ Below w.heap.size w w' := by
  rcases h with h | h
  · go_enter Try.func52, Try.ntmps52
    go_wp2
    exact bodyPost_ret (v := .tuple #[.agg #[.slice none 0 0], .bool false]) (by simp [results, Try.results52, go_sem]) rfl ⟨rfl, by repeat (first | exact Below.refl _ _ | refine Below.setCell ?_ (by simp <;> omega) _ | refine Below.alloc ?_ (by simp <;> omega) _)⟩
  · have h' : ¬ n < 0 := by omega
    go_enter Try.func52, Try.ntmps52
    go_wp2
    exact bodyPost_ret (v := .tuple #[.agg #[.slice none 0 0], .bool false]) (by simp [results, Try.results52, go_sem]) rfl ⟨rfl, by repeat (first | exact Below.refl _ _ | refine Below.setCell ?_ (by simp <;> omega) _ | refine Below.alloc ?_ (by simp <;> omega) _)⟩

set_option maxRecDepth 100000 in
theorem impl_memnew_yes (n : Nat) (w : World) (h : n ≤ 300) :
    Calls Try.prog 52 #[.int .i64 (n : Int)] w fun e w' => ∃ v', e = .returned (.tuple #[.agg #[v'], .bool true]) ∧ Row w' w.heap.size w'.heap.size v' (ints (List.replicate n 0)) ∧ Below w.heap.size w w' := by
  obtain ⟨i0, hi, hz0, hz1, hz2⟩ := info_parts info3
  have h1 : ¬ (n : Int) < 0 := by omega
  have h2 : (n : Int) ≤ 300 := by omega
  go_enter Try.func52, Try.ntmps52
  go_wp2_with (at_make; refine wpList_make_full _ rfl _ _ 24 rfl (w.heap.size + 1) 3 i0 (.int .i64 0) 1 Try.underlying24 hi hz0 hz1 .i64 .i64 _ _ n rfl rfl rfl rfl (by rw [hz2]; omega) (by unfold maxLen; omega) (by simp) ?_; intro w1 hown hgrow; have b1 : Below (w.heap.size + 1) (w.alloc (.cells #[.slice none 0 0] 26)) w1 := (Below.refl _ _).grown hgrow (by simp) (fun k hk => by cases hk); have r1 := Row.of_owns hown; rw [made_ints] at r1; have R1 := hidIt r1; have d5 : w1.cell? ⟨w.heap.size, 0, none⟩ = some (.slice none 0 0) := below_cell b1 (by omega) (by simp [go_sem]); have d6 : w1.frozen? ⟨w.heap.size, 0, none⟩ = false := below_frozen b1 (by omega) (by simp [go_sem]); clear hown hgrow r1)
  refine bodyPost_ret (v := .tuple #[.agg #[.slice (some ⟨w.heap.size + 1, 0, none⟩) n n], .bool true]) (by simp [results, Try.results52, go_sem, d5]) rfl ⟨_, rfl, ?_, ?_⟩
  · have := (R1.out.set_below ⟨w.heap.size, 0, none⟩ (.slice (some ⟨w.heap.size + 1, 0, none⟩) n n) (by simp)).lo (lo' := w.heap.size) (by omega) |>.up (hi' := (w1.setCell ⟨w.heap.size, 0, none⟩ (.slice (some ⟨w.heap.size + 1, 0, none⟩) n n)).heap.size) (by simp)
    simpa using this
  · exact (((Below.refl w.heap.size w).alloc (Nat.le_refl _) _).trans (b1.mono (by omega))).setCell (p := ⟨w.heap.size, 0, none⟩) (Nat.le_refl _) _

def newB (n : Int) : Bool := decide (0 ≤ n ∧ n ≤ 300)
def newL (n : Int) : List Int := if 0 ≤ n ∧ n ≤ 300 then List.replicate n.toNat 0 else []
theorem newL_len (n : Int) : (newL n).length ≤ 300 := by unfold newL; split <;> simp <;> omega
theorem spec_memnew (n : Int) (w : World) :
    Calls Try.prog 45 #[.int .i64 n] w fun e w' => ∃ v', e = .returned (.tuple #[.agg #[v'], .bool (newB n)]) ∧ Row w' w.heap.size w'.heap.size v' (ints (newL n)) ∧ Below w.heap.size w w' := by
  by_cases h : 0 ≤ n ∧ n ≤ 300
  · obtain ⟨i, rfl⟩ : ∃ i : Nat, n = i := ⟨n.toNat, by omega⟩
    have e1 : newB i = true := decide_eq_true h
    have e2 : newL i = List.replicate i 0 := by unfold newL; rw [if_pos h]; simp
    rw [e1, e2]
    exact spec_memnew_yes i w (by omega)
  · have e1 : newB n = false := decide_eq_false h
    have e2 : newL n = [] := by unfold newL; rw [if_neg h]
    rw [e1, e2]
    refine (spec_memnew_no n w (by omega)).mono ?_
    rintro e w' ⟨rfl, b⟩
    exact ⟨_, rfl, ⟨none, 0, rfl, .inl rfl⟩, b⟩
theorem impl_memnew (n : Int) (w : World) :
    Calls Try.prog 52 #[.int .i64 n] w fun e w' => ∃ v', e = .returned (.tuple #[.agg #[v'], .bool (newB n)]) ∧ Row w' w.heap.size w'.heap.size v' (ints (newL n)) ∧ Below w.heap.size w w' := by
  by_cases h : 0 ≤ n ∧ n ≤ 300
  · obtain ⟨i, rfl⟩ : ∃ i : Nat, n = i := ⟨n.toNat, by omega⟩
    have e1 : newB i = true := decide_eq_true h
    have e2 : newL i = List.replicate i 0 := by unfold newL; rw [if_pos h]; simp
    rw [e1, e2]
    exact impl_memnew_yes i w (by omega)
  · have e1 : newB n = false := decide_eq_false h
    have e2 : newL n = [] := by unfold newL; rw [if_neg h]
    rw [e1, e2]
    refine (impl_memnew_no n w (by omega)).mono ?_
    rintro e w' ⟨rfl, b⟩
    exact ⟨_, rfl, ⟨none, 0, rfl, .inl rfl⟩, b⟩

end Go.Proofs.Ytpfofjcfaelocaa
