/- A new ring's cells, by the model and by the program, and the walk of its law. -/
import Derived.Test.YtpfofjcfaelocaaRows
import Derived.WalkKit
import Derived.ProofKit
import Derived.OpenShut
import Derived.ShutString
import Derived.Test.YtpfofjcfaelocaaRiMod
import Derived.Test.YtpfofjcfaelocaaMemNewFns
import Derived.Test.YtpfofjcfaelocaaOutMoves
import Derived.Deep.RegionHeld3
namespace Go.Proofs.Ytpfofjcfaelocaa
open Go.ChangeShapes Go.WideShapes Go.ChangeAt Go.RowKit
set_option linter.unusedVariables false

set_option maxRecDepth 100000 in
theorem spec_rinew_no (n : Int) (w : World) (h : rzB n = false) :
    Calls Try.prog 29 #[.int .i64 n] w fun e w' => e = .returned (.tuple #[.agg #[.slice none 0 0], .bool false]) ∧ Below w.heap.size w w' := by
  go_enter Try.func29, Try.ntmps29
  go_wp2_with (go_at_call 46; refine (spec_rsize n _).mono ?_; rintro e w1 ⟨rfl, rfl⟩; rw [h])
  exact bodyPost_ret (v := .tuple #[.agg #[.slice none 0 0], .bool false]) (by simp [results, Try.results29, go_sem]) rfl ⟨rfl, by repeat (first | exact Below.refl _ _ | refine Below.setCell ?_ (by simp <;> omega) _ | refine Below.alloc ?_ (by simp <;> omega) _)⟩
set_option maxRecDepth 100000 in
theorem impl_rinew_no (n : Int) (w : World) (h : rzB n = false) :
    Calls Try.prog 37 #[.int .i64 n] w fun e w' => e = .returned (.tuple #[.agg #[.slice none 0 0], .bool false]) ∧ Below w.heap.size w w' := by
  go_enter Try.func37, Try.ntmps37
  go_wp2_with (go_at_call 49; refine (impl_rsize n _).mono ?_; rintro e w1 ⟨rfl, rfl⟩; rw [h])
  exact bodyPost_ret (v := .tuple #[.agg #[.slice none 0 0], .bool false]) (by simp [results, Try.results37, go_sem]) rfl ⟨rfl, by repeat (first | exact Below.refl _ _ | refine Below.setCell ?_ (by simp <;> omega) _ | refine Below.alloc ?_ (by simp <;> omega) _)⟩

set_option maxHeartbeats 800000 in
set_option maxRecDepth 100000 in
theorem spec_rinew_yes (n : Nat) (w : World) (h1 : 2 ≤ n) (h2 : n ≤ 16) :
    Calls Try.prog 29 #[.int .i64 (n : Int)] w fun e w' => ∃ v', e = .returned (.tuple #[.agg #[v'], .bool true]) ∧ Row w' w.heap.size w'.heap.size v' (ints (riRow n n)) ∧ Below w.heap.size w w' := by
  have hz : rzB n = true := decide_eq_true ⟨by omega, by omega⟩
  have HZ := hidIt hz
  clear hz
  go_enter Try.func29, Try.ntmps29
  go_wp2_with fail
  refine (spec_rsize n _).mono ?_
  rintro e w1 ⟨rfl, rfl⟩
  rw [HZ.out]
  go_wp2_with fail
  rw [show (2 + 2 * (n : Int)) = ((2 + 2 * n : Nat) : Int) by omega]
  refine (spec_memnew_yes (2 + 2 * n) _ (by omega)).mono ?_
  rintro e w2 ⟨v2, rfl, r2, b2⟩
  have z2 := b2.size
  simp at z2
  obtain ⟨g, c, rfl, g1, g2, -, -⟩ := r2.ofSome (by simp; omega)
  simp at g1
  have r3 : Row w2 (w.alloc (.cells #[.slice none 0 0] 26)).heap.size w2.heap.size (.slice (some ⟨g, 0, none⟩) (2 + 2 * n) c) (ints (riRow n 0)) := by rw [riRow_zero]; simpa using r2
  have R2 := hidIt r3
  have B2 := hidIt (((Below.refl _ w).alloc (Nat.le_refl _) _).trans (b2.mono (by simp)))
  have d1 := hidIt (below_cell b2 (b := w.heap.size) (o := 0) (x := some (.slice none 0 0)) (by simp) (by simp [go_sem]))
  have d2 := hidIt (below_frozen b2 (b := w.heap.size) (o := 0) (x := false) (by simp) (by simp [go_sem]))
  clear r2 r3 b2
  simp only [List.length_replicate]
  go_wp2
  go_loopw [6] (fun i wr => ∃ k : Nat, k ≤ n ∧ i = .int .i64 k ∧ w2.heap.size < wr.heap.size ∧ wr.cell? ⟨w2.heap.size, 0, none⟩ = some (.slice (some ⟨g, 0, none⟩) (2 + 2 * n) c) ∧ wr.cell? ⟨w.heap.size, 0, none⟩ = some (.slice none 0 0) ∧ wr.frozen? ⟨w.heap.size, 0, none⟩ = false ∧ Hid (Below w.heap.size w wr ∧ Row wr (w.heap.size + 1) w2.heap.size (.slice (some ⟨g, 0, none⟩) (2 + 2 * n) c) (ints (riRow n k)))) (fun i _ => n - (intOf i).toNat)
  case atStart =>
    refine ⟨0, Nat.zero_le _, rfl, by simp, by simp, ?_, ?_, B2.out.alloc (by omega) _, ?_⟩
    · rw [World.cell?_alloc_lt _ _ _ (by simp; omega)]; exact d1.out
    · rw [World.frozen?_alloc_old _ _ _ (by simp; omega)]; exact d2.out
    · have := R2.out.alloc (Nat.le_refl _) (.cells #[.slice (some ⟨g, 0, none⟩) (2 + 2 * n) c] 26)
      simpa using this
  case round =>
    obtain ⟨k, hk, rfl, hzr, q1, q2, q3, HR⟩ := hrel
    by_cases hlt : k < n
    · have hlt' : (k : Int) < (n : Int) := by omega
      have hk1 : 2 + 2 * (k : Int) < 2 + 2 * (n : Int) := by omega
      obtain ⟨x, hx⟩ : ∃ x, wr.cell? ⟨g, 2 + 2 * k, none⟩ = some (.int .i64 x) := by
        obtain ⟨g', c', e, -, -, h3, -⟩ := HR.out.2.ofSome (by rw [riRow_len]; omega)
        simp at e
        obtain ⟨rfl, -, -⟩ := e
        exact ⟨_, h3 (2 + 2 * k) (by rw [riRow_len]; omega)⟩
      have hy : wr.frozen? ⟨g, 2 + 2 * k, none⟩ = false := by
        obtain ⟨g', c', e, -, -, -, h4⟩ := HR.out.2.ofSome (by rw [riRow_len]; omega)
        simp at e
        obtain ⟨rfl, -, -⟩ := e
        exact h4 (2 + 2 * k)
      have hgn : g ≠ w2.heap.size := by omega
      have hgn2 : g ≠ w.heap.size := by omega
      have tn : (2 + 2 * (k : Int)).toNat = 2 + 2 * k := by omega
      go_wp2
      go_roundw
      case rel =>
        refine ⟨k + 1, by omega, by go_num, by simp; omega, ?_, ?_, ?_, HR.out.1.setCell (p := ⟨g, 2 + 2 * k, none⟩) (by show w.heap.size ≤ g; omega) _, ?_⟩
        · rw [World.cell?_setCell_other _ _ _ _ (by simp <;> omega)]; exact q1
        · rw [World.cell?_setCell_other _ _ _ _ (by simp <;> omega)]; exact q2
        · rw [World.frozen?_setCell]; exact q3
        · rw [← riRow_set n k hlt]
          exact HR.out.2.put (2 + 2 * k) (by rw [riRow_len]; omega) _
      case measure => simp [intOf]; omega
    · obtain rfl : k = n := by omega
      clear hlt
      have hw0 : w.heap.size < wr.heap.size := by omega
      go_wp2
      refine bodyPost_ret (v := .tuple #[.agg #[.slice (some ⟨g, 0, none⟩) (2 + 2 * k) c], .bool true]) (by simp [results, Try.results29, go_sem, q2]) rfl ⟨_, rfl, ?_, ?_⟩
      · exact (HR.out.2.set_below ⟨w.heap.size, 0, none⟩ _ (by simp)).lo (by omega) |>.up (by simp <;> omega)
      · exact HR.out.1.setCell (p := ⟨w.heap.size, 0, none⟩) (Nat.le_refl _) _
set_option maxHeartbeats 800000 in
set_option maxRecDepth 100000 in
theorem impl_rinew_yes (n : Nat) (w : World) (h1 : 2 ≤ n) (h2 : n ≤ 16) :
    Calls Try.prog 37 #[.int .i64 (n : Int)] w fun e w' => ∃ v', e = .returned (.tuple #[.agg #[v'], .bool true]) ∧ Row w' w.heap.size w'.heap.size v' (ints (riRow n n)) ∧ Below w.heap.size w w' := by
  obtain ⟨i0, hi, hz0, hz1, hz2⟩ := info_parts info3
  have hz : rzB n = true := decide_eq_true ⟨by omega, by omega⟩
  have HZ := hidIt hz
  clear hz
  go_enter Try.func37, Try.ntmps37
  go_wp2_with fail
  refine (impl_rsize n _).mono ?_
  rintro e w1 ⟨rfl, rfl⟩
  rw [HZ.out]
  go_wp2_with (at_make; refine wpList_make_full _ rfl _ _ 24 rfl (w.heap.size + 1) 3 i0 (.int .i64 0) 1 Try.underlying24 hi hz0 hz1 .i64 .i64 _ _ (2 + 2 * n) rfl rfl (by omega) (by omega) (by rw [hz2]; omega) (by unfold maxLen; omega) (by simp) ?_)
  intro w2 hown hgrow
  have b2 : Below (w.heap.size + 1) (w.alloc (.cells #[.slice none 0 0] 26)) w2 := (Below.refl _ _).grown hgrow (by simp) (fun k hk => by cases hk)
  have r2 := Row.of_owns hown
  rw [show (madeCells #[Value.int .i64 0] (2 + 2 * n)).toList = ints (List.replicate (2 + 2 * n) 0) by have e := made_ints (2 + 2 * n); rw [Nat.mul_one] at e; exact e] at r2
  have z2 := b2.size
  simp at z2
  have g1 : w.heap.size + 1 < w2.heap.size := by
    obtain ⟨g, c, e, g1, g2, -, -⟩ := r2.ofSome (by simp; omega)
    omega
  have r3 : Row w2 (w.heap.size + 1) w2.heap.size (.slice (some ⟨w.heap.size + 1, 0, none⟩) (2 + 2 * n) (2 + 2 * n)) (ints (riRow n 0)) := by rw [riRow_zero]; simpa using r2
  have R2 := hidIt r3
  have B2 := hidIt (((Below.refl _ w).alloc (Nat.le_refl _) _).trans (b2.mono (by omega)))
  have d1 : w2.cell? ⟨w.heap.size, 0, none⟩ = some (.slice none 0 0) := below_cell b2 (by omega) (by simp [go_sem])
  have d2 : w2.frozen? ⟨w.heap.size, 0, none⟩ = false := below_frozen b2 (by omega) (by simp [go_sem])
  have D1 := hidIt d1
  have D2 := hidIt d2
  clear hown hgrow r2 r3 b2 d1 d2
  go_wp2
  go_loopw [16] (fun i wr => ∃ k : Nat, k ≤ n ∧ i = .int .i64 k ∧ w2.heap.size < wr.heap.size ∧ wr.cell? ⟨w2.heap.size, 0, none⟩ = some (.slice (some ⟨w.heap.size + 1, 0, none⟩) (2 + 2 * n) (2 + 2 * n)) ∧ wr.cell? ⟨w.heap.size, 0, none⟩ = some (.slice none 0 0) ∧ wr.frozen? ⟨w.heap.size, 0, none⟩ = false ∧ Hid (Below w.heap.size w wr ∧ Row wr (w.heap.size + 1) w2.heap.size (.slice (some ⟨w.heap.size + 1, 0, none⟩) (2 + 2 * n) (2 + 2 * n)) (ints (riRow n k)))) (fun i _ => n - (intOf i).toNat)
  case atStart =>
    refine ⟨0, Nat.zero_le _, rfl, by simp, by simp, ?_, ?_, B2.out.alloc (by omega) _, ?_⟩
    · rw [World.cell?_alloc_lt _ _ _ (by simp; omega)]; exact D1.out
    · rw [World.frozen?_alloc_old _ _ _ (by simp; omega)]; exact D2.out
    · exact R2.out.alloc (Nat.le_refl _) _
  case round =>
    obtain ⟨k, hk, rfl, hzr, q1, q2, q3, HR⟩ := hrel
    by_cases hlt : k < n
    · have hlt' : (k : Int) < (n : Int) := by omega
      obtain ⟨j, hj⟩ : ∃ j, j = 2 + 2 * k := ⟨_, rfl⟩
      have hk1 : (j : Int) < 2 + 2 * (n : Int) := by omega
      obtain ⟨x, hx⟩ : ∃ x, wr.cell? ⟨w.heap.size + 1, j, none⟩ = some (.int .i64 x) := by
        obtain ⟨g', c', e, -, -, h3, -⟩ := HR.out.2.ofSome (by rw [riRow_len]; omega)
        simp at e
        obtain ⟨rfl, -, -⟩ := e
        exact ⟨_, h3 j (by rw [riRow_len]; omega)⟩
      have hy : wr.frozen? ⟨w.heap.size + 1, j, none⟩ = false := by
        obtain ⟨g', c', e, -, -, -, h4⟩ := HR.out.2.ofSome (by rw [riRow_len]; omega)
        simp at e
        obtain ⟨rfl, -, -⟩ := e
        exact h4 j
      have hgn : w.heap.size + 1 ≠ w2.heap.size := by omega
      have hq : rsq n k = (j : Int) := by unfold rsq; rw [Int.emod_eq_of_lt (by omega) hlt']; omega
      have HQ := hidIt hq
      have HJ := hidIt hj
      clear hq hj
      have OO := hidIt (show ∀ W, Out (w.heap.size + 1) (w.heap.size + 2) wr W → Out (w.heap.size + 1) (w.heap.size + 2) wr W ∧ W.cell? ⟨w2.heap.size, 0, none⟩ = some (.slice (some ⟨w.heap.size + 1, 0, none⟩) (2 + 2 * n) (2 + 2 * n)) from fun W h => ⟨h, h.cell hzr (by omega) q1⟩)
      go_wp2_with fail
      go_region_held3 (fun W => Out (w.heap.size + 1) (w.heap.size + 2) wr W ∧ W.cell? ⟨w2.heap.size, 0, none⟩ = some (.slice (some ⟨w.heap.size + 1, 0, none⟩) (2 + 2 * n) (2 + 2 * n))) (first | (go_split_ands; refine OO.out _ ?_; repeat (first | with_reducible assumption | with_reducible exact Out.refl _ _ _ | with_reducible refine Out.drew ?_ | with_reducible refine Out.setCell ?_ (by simp <;> omega) (by simp <;> omega)))) (first | (go_at_call 50; refine (impl_seq n k _ HZ.out).mono ?_; rintro e wq ⟨rfl, rfl⟩; rw [HQ.out]))
      all_goals
        rename_i hHeld
        have ho := hHeld.1
        clear hHeld OO
        go_wp2
        go_roundw
        case rel =>
          refine ⟨k + 1, by omega, by go_num, by have := ho.size; omega, ?_, ?_, ?_, HR.out.1.trans (ho.below (by omega) (by have := HR.out.1.size; omega)), ?_⟩
          · exact ho.cell hzr (by omega) q1
          · exact ho.cell (by omega) (by omega) q2
          · exact ho.frozen (by omega) (by omega) q3
          · rw [← riRow_set n k hlt]
            have hr := HR.out.2
            have hd := (hr.below (hi := w2.heap.size) (show Below w2.heap.size wr wr.drew from Below.drew (Below.refl _ _)))
            rw [← HJ.out]
            exact hd.put j (by rw [riRow_len]; omega) _
        case measure => simp [intOf]; omega
    · obtain rfl : k = n := by omega
      have hw0 : w.heap.size < wr.heap.size := by omega
      clear hlt
      go_wp2
      refine bodyPost_ret (v := .tuple #[.agg #[.slice (some ⟨w.heap.size + 1, 0, none⟩) (2 + 2 * k) (2 + 2 * k)], .bool true]) (by simp [results, Try.results37, go_sem, q2]) rfl ⟨_, rfl, ?_, ?_⟩
      · exact (HR.out.2.set_below ⟨w.heap.size, 0, none⟩ _ (by simp)).lo (by omega) |>.up (by simp <;> omega)
      · exact HR.out.1.setCell (p := ⟨w.heap.size, 0, none⟩) (Nat.le_refl _) _
theorem spec_rinew (n : Int) (w : World) :
    Calls Try.prog 29 #[.int .i64 n] w fun e w' => ∃ v', e = .returned (.tuple #[.agg #[v'], .bool (rzB n)]) ∧ Row w' w.heap.size w'.heap.size v' (ints (riNewL n)) ∧ Below w.heap.size w w' := by
  by_cases h : rzB n = true
  · have h1 : 2 ≤ n ∧ n ≤ 16 := of_decide_eq_true h
    obtain ⟨i, rfl⟩ : ∃ i : Nat, n = i := ⟨n.toNat, by omega⟩
    have e2 : riNewL i = riRow i i := by unfold riNewL; rw [if_pos h]; simp
    rw [h, e2]
    exact spec_rinew_yes i w (by omega) (by omega)
  · have e2 : riNewL n = [] := by unfold riNewL; rw [if_neg h]
    have h : rzB n = false := by simpa using h
    rw [h, e2]
    refine (spec_rinew_no n w h).mono ?_
    rintro e w' ⟨rfl, b⟩
    exact ⟨_, rfl, ⟨none, 0, rfl, .inl rfl⟩, b⟩
theorem impl_rinew (n : Int) (w : World) :
    Calls Try.prog 37 #[.int .i64 n] w fun e w' => ∃ v', e = .returned (.tuple #[.agg #[v'], .bool (rzB n)]) ∧ Row w' w.heap.size w'.heap.size v' (ints (riNewL n)) ∧ Below w.heap.size w w' := by
  by_cases h : rzB n = true
  · have h1 : 2 ≤ n ∧ n ≤ 16 := of_decide_eq_true h
    obtain ⟨i, rfl⟩ : ∃ i : Nat, n = i := ⟨n.toNat, by omega⟩
    have e2 : riNewL i = riRow i i := by unfold riNewL; rw [if_pos h]; simp
    rw [h, e2]
    exact impl_rinew_yes i w (by omega) (by omega)
  · have e2 : riNewL n = [] := by unfold riNewL; rw [if_neg h]
    have h : rzB n = false := by simpa using h
    rw [h, e2]
    refine (impl_rinew_no n w h).mono ?_
    rintro e w' ⟨rfl, b⟩
    exact ⟨_, rfl, ⟨none, 0, rfl, .inl rfl⟩, b⟩

end Go.Proofs.Ytpfofjcfaelocaa
