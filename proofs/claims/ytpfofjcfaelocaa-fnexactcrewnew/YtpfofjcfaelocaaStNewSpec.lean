/- A new stack's cells, by the model. -/
import Derived.Test.YtpfofjcfaelocaaRows
import Derived.WalkKit
import Derived.ProofKit
import Derived.OpenShut
import Derived.ShutString
import Derived.Test.YtpfofjcfaelocaaStackSpec1
import Derived.Test.YtpfofjcfaelocaaMemNewFns
namespace Go.Proofs.Ytpfofjcfaelocaa
open Go.ChangeShapes Go.WideShapes Go.ChangeAt Go.RowKit
set_option linter.unusedVariables false

set_option maxRecDepth 100000 in
theorem spec_stnew_no (n : Int) (full : Bool) (w : World) (h : szB n = false) :
    Calls Try.prog 28 #[.int .i64 n, .bool full] w fun e w' => e = .returned (.tuple #[.agg #[.slice none 0 0], .bool false]) ∧ Below w.heap.size w w' := by
  go_enter Try.func28, Try.ntmps28
  go_wp2_with (go_at_call 44; refine (spec_size n _).mono ?_; rintro e w1 ⟨rfl, rfl⟩; rw [h])
  exact bodyPost_ret (v := .tuple #[.agg #[.slice none 0 0], .bool false]) (by simp [results, Try.results28, go_sem]) rfl ⟨rfl, by repeat (first | exact Below.refl _ _ | refine Below.setCell ?_ (by simp <;> omega) _ | refine Below.alloc ?_ (by simp <;> omega) _)⟩

set_option maxHeartbeats 800000 in
set_option maxRecDepth 100000 in
theorem spec_stnew_yes (n M : Nat) (full : Bool) (w : World) (h1 : 1 ≤ n) (h2 : n ≤ 16) (hM : (full = true ∧ M = n) ∨ (full = false ∧ M = 0)) :
    Calls Try.prog 28 #[.int .i64 (n : Int), .bool full] w fun e w' => ∃ v', e = .returned (.tuple #[.agg #[v'], .bool true]) ∧ Row w' w.heap.size w'.heap.size v' (ints (stRow n M)) ∧ Below w.heap.size w w' := by
  have HM := hidIt hM
  clear hM
  have hz : szB n = true := decide_eq_true ⟨by omega, by omega⟩
  have HZ := hidIt hz
  clear hz
  go_enter Try.func28, Try.ntmps28
  go_wp2_with fail
  refine (spec_size n _).mono ?_
  rintro e w1 ⟨rfl, rfl⟩
  rw [HZ.out]
  go_wp2_with fail
  rw [show (1 + (n : Int)) = ((n + 1 : Nat) : Int) by omega]
  refine (spec_memnew_yes (n + 1) _ (by omega)).mono ?_
  rintro e w2 ⟨v2, rfl, r2, b2⟩
  have z2 := b2.size
  simp at z2
  obtain ⟨g, c, rfl, g1, g2, -, -⟩ := r2.ofSome (by simp)
  simp at g1
  have r3 : Row w2 (w.alloc (.cells #[.slice none 0 0] 26)).heap.size w2.heap.size (.slice (some ⟨g, 0, none⟩) (n + 1) c) (ints (stRow n 0)) := by rw [stRow_zero]; simpa using r2
  have R2 := hidIt r3
  have B2 := hidIt (((Below.refl _ w).alloc (Nat.le_refl _) _).trans (b2.mono (by simp)))
  have d1 := hidIt (below_cell b2 (b := w.heap.size) (o := 0) (x := some (.slice none 0 0)) (by simp) (by simp [go_sem]))
  have d2 := hidIt (below_frozen b2 (b := w.heap.size) (o := 0) (x := false) (by simp) (by simp [go_sem]))
  clear r2 r3 b2
  simp only [List.length_replicate]
  go_wp2
  go_loopw [8] (fun i wr => ∃ k : Nat, k ≤ n ∧ (full = false → k = 0) ∧ i = .int .i64 k ∧ w2.heap.size < wr.heap.size ∧ wr.cell? ⟨w2.heap.size, 0, none⟩ = some (.slice (some ⟨g, 0, none⟩) (n + 1) c) ∧ wr.cell? ⟨w.heap.size, 0, none⟩ = some (.slice none 0 0) ∧ wr.frozen? ⟨w.heap.size, 0, none⟩ = false ∧ Hid (Below w.heap.size w wr ∧ Row wr (w.heap.size + 1) w2.heap.size (.slice (some ⟨g, 0, none⟩) (n + 1) c) (ints (stRow n k)))) (fun i _ => n - (intOf i).toNat)
  case atStart =>
    refine ⟨0, Nat.zero_le _, fun _ => rfl, rfl, by simp, by simp, ?_, ?_, B2.out.alloc (by omega) _, ?_⟩
    · rw [World.cell?_alloc_lt _ _ _ (by simp; omega)]; exact d1.out
    · rw [World.frozen?_alloc_old _ _ _ (by simp; omega)]; exact d2.out
    · have := R2.out.alloc (Nat.le_refl _) (.cells #[.slice (some ⟨g, 0, none⟩) (n + 1) c] 26)
      simpa using this
  case round =>
    obtain ⟨k, hk, hf, rfl, hzr, q1, q2, q3, HR⟩ := hrel
    by_cases hlt : k < n ∧ full = true
    · obtain ⟨hlt, rfl⟩ := hlt
      have hlt' : (k : Int) < (n : Int) := by omega
      have hk1 : (k : Int) < (n : Int) + 1 := by omega
      obtain ⟨x, hx⟩ : ∃ x, wr.cell? ⟨g, k, none⟩ = some (.int .i64 x) := by
        obtain ⟨g', c', e, -, -, h3, -⟩ := HR.out.2.ofSome (by rw [stRow_len]; omega)
        simp at e
        obtain ⟨rfl, -, -⟩ := e
        exact ⟨_, h3 k (by rw [stRow_len]; omega)⟩
      have hy : wr.frozen? ⟨g, k, none⟩ = false := by
        obtain ⟨g', c', e, -, -, -, h4⟩ := HR.out.2.ofSome (by rw [stRow_len]; omega)
        simp at e
        obtain ⟨rfl, -, -⟩ := e
        exact h4 k
      have hgn : g ≠ w2.heap.size := by omega
      have hgn2 : g ≠ w.heap.size := by omega
      clear hf
      go_wp2
      go_roundw
      case rel =>
        refine ⟨k + 1, by omega, fun h => (by cases h), by go_num, by simp; omega, ?_, ?_, ?_, HR.out.1.setCell (p := ⟨g, k, none⟩) (by show w.heap.size ≤ g; omega) _, ?_⟩
        · rw [World.cell?_setCell_other _ _ _ _ (by simp <;> omega)]; exact q1
        · rw [World.cell?_setCell_other _ _ _ _ (by simp <;> omega)]; exact q2
        · rw [World.frozen?_setCell]; exact q3
        · rw [← stRow_set n k hlt]
          exact HR.out.2.put k (by rw [stRow_len]; omega) _
      case measure => simp [intOf]; omega
    · have HK : Hid (M = k) := by
        show M = k
        rcases HM.out with ⟨e1, e2⟩ | ⟨e1, e2⟩
        · simp [e1] at hlt; omega
        · rw [e2, hf e1]
      have hd : (¬ (k : Int) < (n : Int)) ∨ full = false := by
        rcases HM.out with ⟨e1, e2⟩ | ⟨e1, e2⟩
        · left; simp [e1] at hlt; omega
        · exact .inr e1
      clear hlt hf HM
      have hw0 : w.heap.size < wr.heap.size := by omega
      rcases hd with hd | rfl
      · go_wp2
        refine bodyPost_ret (v := .tuple #[.agg #[.slice (some ⟨g, 0, none⟩) (n + 1) c], .bool true]) (by simp [results, Try.results28, go_sem, q2]) rfl ⟨_, rfl, ?_, ?_⟩
        · rw [HK.out]
          exact (HR.out.2.set_below ⟨w.heap.size, 0, none⟩ _ (by simp)).lo (by omega) |>.up (by simp <;> omega)
        · exact HR.out.1.setCell (p := ⟨w.heap.size, 0, none⟩) (Nat.le_refl _) _
      · by_cases hlt : k < n
        all_goals
          go_wp2
          refine bodyPost_ret (v := .tuple #[.agg #[.slice (some ⟨g, 0, none⟩) (n + 1) c], .bool true]) (by simp [results, Try.results28, go_sem, q2]) rfl ⟨_, rfl, ?_, ?_⟩
          · rw [HK.out]
            exact (HR.out.2.set_below ⟨w.heap.size, 0, none⟩ _ (by simp)).lo (by omega) |>.up (by simp <;> omega)
          · exact HR.out.1.setCell (p := ⟨w.heap.size, 0, none⟩) (Nat.le_refl _) _
theorem spec_stnew (n : Int) (full : Bool) (w : World) :
    Calls Try.prog 28 #[.int .i64 n, .bool full] w fun e w' => ∃ v', e = .returned (.tuple #[.agg #[v'], .bool (szB n)]) ∧ Row w' w.heap.size w'.heap.size v' (ints (stNewL n full)) ∧ Below w.heap.size w w' := by
  by_cases h : szB n = true
  · have h1 : 1 ≤ n ∧ n ≤ 16 := of_decide_eq_true h
    obtain ⟨i, rfl⟩ : ∃ i : Nat, n = i := ⟨n.toNat, by omega⟩
    have e2 : stNewL i full = stRow i (if full then i else 0) := by unfold stNewL; rw [if_pos h]; simp
    rw [h, e2]
    exact spec_stnew_yes i _ full w (by omega) (by omega) (by cases full <;> simp)
  · have e2 : stNewL n full = [] := by unfold stNewL; rw [if_neg h]
    have h : szB n = false := by simpa using h
    rw [h, e2]
    refine (spec_stnew_no n full w h).mono ?_
    rintro e w' ⟨rfl, b⟩
    exact ⟨_, rfl, ⟨none, 0, rfl, .inl rfl⟩, b⟩

end Go.Proofs.Ytpfofjcfaelocaa
