/- The stack's calls by the program: sizes, the call at its beginning, a new stack's cells. -/
import Derived.Test.YtpfofjcfaelocaaRows
import Derived.WalkKit
import Derived.ProofKit
import Derived.OpenShut
import Derived.ShutString
import Derived.Test.YtpfofjcfaelocaaCallFns
import Derived.Test.YtpfofjcfaelocaaMemNewFns
namespace Go.Proofs.Ytpfofjcfaelocaa
open Go.ChangeShapes Go.WideShapes Go.ChangeAt Go.RowKit
set_option linter.unusedVariables false

theorem impl_size (n : Int) (w : World) :
    Calls Try.prog 48 #[.int .i64 n] w fun e w' => e = .returned (.bool (szB n)) ∧ w' = w := by
  by_cases h1 : 1 ≤ n
  · by_cases h2 : n ≤ 16
    · have hb : szB n = true := decide_eq_true ⟨h1, h2⟩
      rw [hb]
      clear hb
      go_enter Try.func48, Try.ntmps48
      go_wp2
      go_ret
      simp
    · have hb : szB n = false := decide_eq_false (by omega)
      rw [hb]
      clear hb
      go_enter Try.func48, Try.ntmps48
      go_wp2
      go_ret
      simp
  · have hb : szB n = false := decide_eq_false (by omega)
    rw [hb]
    clear hb
    go_enter Try.func48, Try.ntmps48
    go_wp2
    go_ret
    exact ⟨rfl, rfl⟩
set_option maxRecDepth 100000 in
theorem impl_stcall (k a : Int) (w : World) :
    Calls Try.prog 53 #[.int .i64 k, .int .i64 a] w fun e w' => e = .returned (.agg #[.int .i64 (stCall k a).k, .int .i64 (stCall k a).a, .int .i64 (stCall k a).x, .int .i64 (stCall k a).pc, .int .i64 (stCall k a).p, .int .i64 (stCall k a).c, .int .i64 (stCall k a).w, .int .i64 (stCall k a).r, .int .i64 (stCall k a).v, .bool (stCall k a).d]) ∧ Below w.heap.size w w' := by
  by_cases h1 : k = 1
  · subst h1
    go_enter Try.func53, Try.ntmps53
    go_wp2
    exact bodyPost_ret (v := .agg #[.int .i64 (stCall 1 a).k, .int .i64 (stCall 1 a).a, .int .i64 (stCall 1 a).x, .int .i64 (stCall 1 a).pc, .int .i64 (stCall 1 a).p, .int .i64 (stCall 1 a).c, .int .i64 (stCall 1 a).w, .int .i64 (stCall 1 a).r, .int .i64 (stCall 1 a).v, .bool (stCall 1 a).d]) (by simp [results, Try.results53, go_sem, stCall, clZero]) rfl ⟨rfl, by repeat (first | exact Below.refl _ _ | refine Below.setCell ?_ (by simp <;> omega) _ | refine Below.alloc ?_ (by simp <;> omega) _)⟩
  · by_cases h2 : k = 2
    · subst h2
      clear h1
      go_enter Try.func53, Try.ntmps53
      go_wp2
      exact bodyPost_ret (v := .agg #[.int .i64 (stCall 2 a).k, .int .i64 (stCall 2 a).a, .int .i64 (stCall 2 a).x, .int .i64 (stCall 2 a).pc, .int .i64 (stCall 2 a).p, .int .i64 (stCall 2 a).c, .int .i64 (stCall 2 a).w, .int .i64 (stCall 2 a).r, .int .i64 (stCall 2 a).v, .bool (stCall 2 a).d]) (by simp [results, Try.results53, go_sem, stCall, clZero]) rfl ⟨rfl, by repeat (first | exact Below.refl _ _ | refine Below.setCell ?_ (by simp <;> omega) _ | refine Below.alloc ?_ (by simp <;> omega) _)⟩
    · have e1 : (k == 1) = false := by simpa using h1
      have e2 : (k == 2) = false := by simpa using h2
      have e3 : stCall k a = clZero := by unfold stCall; rw [if_neg h1, if_neg h2]
      rw [e3]
      clear h1 h2 e3
      go_enter Try.func53, Try.ntmps53
      go_wp2
      exact bodyPost_ret (v := .agg #[.int .i64 clZero.k, .int .i64 clZero.a, .int .i64 clZero.x, .int .i64 clZero.pc, .int .i64 clZero.p, .int .i64 clZero.c, .int .i64 clZero.w, .int .i64 clZero.r, .int .i64 clZero.v, .bool clZero.d]) (by simp [results, Try.results53, go_sem, clZero]) rfl ⟨rfl, by repeat (first | exact Below.refl _ _ | refine Below.setCell ?_ (by simp <;> omega) _ | refine Below.alloc ?_ (by simp <;> omega) _)⟩
set_option maxRecDepth 100000 in
theorem impl_stnew_no (n : Int) (full : Bool) (w : World) (h : szB n = false) :
    Calls Try.prog 36 #[.int .i64 n, .bool full] w fun e w' => e = .returned (.tuple #[.agg #[.slice none 0 0], .bool false]) ∧ Below w.heap.size w w' := by
  go_enter Try.func36, Try.ntmps36
  go_wp2_with (go_at_call 48; refine (impl_size n _).mono ?_; rintro e w1 ⟨rfl, rfl⟩; rw [h])
  exact bodyPost_ret (v := .tuple #[.agg #[.slice none 0 0], .bool false]) (by simp [results, Try.results36, go_sem]) rfl ⟨rfl, by repeat (first | exact Below.refl _ _ | refine Below.setCell ?_ (by simp <;> omega) _ | refine Below.alloc ?_ (by simp <;> omega) _)⟩
set_option maxHeartbeats 800000 in
set_option maxRecDepth 100000 in
theorem impl_stnew_yes (n M : Nat) (full : Bool) (w : World) (h1 : 1 ≤ n) (h2 : n ≤ 16) (hM : (full = true ∧ M = n) ∨ (full = false ∧ M = 0)) :
    Calls Try.prog 36 #[.int .i64 (n : Int), .bool full] w fun e w' => ∃ v', e = .returned (.tuple #[.agg #[v'], .bool true]) ∧ Row w' w.heap.size w'.heap.size v' (ints (stRow n M)) ∧ Below w.heap.size w w' := by
  obtain ⟨i0, hi, hz0, hz1, hz2⟩ := info_parts info3
  have hz : szB n = true := decide_eq_true ⟨by omega, by omega⟩
  have HZ := hidIt hz
  clear hz
  go_enter Try.func36, Try.ntmps36
  go_wp2_with fail
  refine (impl_size n _).mono ?_
  rintro e w1 ⟨rfl, rfl⟩
  rw [HZ.out]
  go_wp2_with (at_make; refine wpList_make_full _ rfl _ _ 24 rfl (w.heap.size + 1) 3 i0 (.int .i64 0) 1 Try.underlying24 hi hz0 hz1 .i64 .i64 _ _ (n + 1) rfl rfl (by omega) (by omega) (by rw [hz2]; omega) (by unfold maxLen; omega) (by simp) ?_)
  intro w2 hown hgrow
  have b2 : Below (w.heap.size + 1) (w.alloc (.cells #[.slice none 0 0] 26)) w2 := (Below.refl _ _).grown hgrow (by simp) (fun k hk => by cases hk)
  have r2 := Row.of_owns hown
  rw [show (madeCells #[Value.int .i64 0] (n + 1)).toList = ints (List.replicate (n + 1) 0) by have e := made_ints (n + 1); rw [Nat.mul_one] at e; exact e] at r2
  have z2 := b2.size
  simp at z2
  have g1 : w.heap.size + 1 < w2.heap.size := by
    obtain ⟨g, c, e, g1, g2, -, -⟩ := r2.ofSome (by simp)
    omega
  have r3 : Row w2 (w.heap.size + 1) w2.heap.size (.slice (some ⟨w.heap.size + 1, 0, none⟩) (n + 1) (n + 1)) (ints (stRow n 0)) := by rw [stRow_zero]; simpa using r2
  have R2 := hidIt r3
  have B2 := hidIt (((Below.refl _ w).alloc (Nat.le_refl _) _).trans (b2.mono (by omega)))
  have d1 : w2.cell? ⟨w.heap.size, 0, none⟩ = some (.slice none 0 0) := below_cell b2 (by omega) (by simp [go_sem])
  have d2 : w2.frozen? ⟨w.heap.size, 0, none⟩ = false := below_frozen b2 (by omega) (by simp [go_sem])
  have D1 := hidIt d1
  have D2 := hidIt d2
  have z4 : w.heap.size < w2.heap.size := by omega
  clear hown hgrow r2 r3 b2 d1 d2
  rcases hM with ⟨rfl, rfl⟩ | ⟨rfl, rfl⟩
  · go_wp2
    go_loopw [18] (fun i wr => ∃ k : Nat, k ≤ M ∧ i = .int .i64 k ∧ w2.heap.size < wr.heap.size ∧ wr.cell? ⟨w2.heap.size, 0, none⟩ = some (.slice (some ⟨w.heap.size + 1, 0, none⟩) (M + 1) (M + 1)) ∧ wr.cell? ⟨w.heap.size, 0, none⟩ = some (.slice none 0 0) ∧ wr.frozen? ⟨w.heap.size, 0, none⟩ = false ∧ Hid (Below w.heap.size w wr ∧ Row wr (w.heap.size + 1) w2.heap.size (.slice (some ⟨w.heap.size + 1, 0, none⟩) (M + 1) (M + 1)) (ints (stRow M k)))) (fun i _ => M - (intOf i).toNat)
    case atStart =>
      refine ⟨0, Nat.zero_le _, rfl, by simp, by simp, ?_, ?_, B2.out.alloc (by omega) _, ?_⟩
      · rw [World.cell?_alloc_lt _ _ _ (by simp; omega)]; exact D1.out
      · rw [World.frozen?_alloc_old _ _ _ (by simp; omega)]; exact D2.out
      · exact R2.out.alloc (Nat.le_refl _) _
    case round =>
      obtain ⟨k, hk, rfl, hzr, q1, q2, q3, HR⟩ := hrel
      by_cases hlt : k < M
      · have hlt' : (k : Int) < (M : Int) := by omega
        have hk1 : (k : Int) < (M : Int) + 1 := by omega
        obtain ⟨x, hx⟩ : ∃ x, wr.cell? ⟨w.heap.size + 1, k, none⟩ = some (.int .i64 x) := by
          obtain ⟨g', c', e, -, -, h3, -⟩ := HR.out.2.ofSome (by rw [stRow_len]; omega)
          simp at e
          obtain ⟨rfl, -, -⟩ := e
          exact ⟨_, h3 k (by rw [stRow_len]; omega)⟩
        have hy : wr.frozen? ⟨w.heap.size + 1, k, none⟩ = false := by
          obtain ⟨g', c', e, -, -, -, h4⟩ := HR.out.2.ofSome (by rw [stRow_len]; omega)
          simp at e
          obtain ⟨rfl, -, -⟩ := e
          exact h4 k
        have hgn : w.heap.size + 1 ≠ w2.heap.size := by omega
        go_wp2
        go_roundw
        case rel =>
          refine ⟨k + 1, by omega, by go_num, by simp; omega, ?_, ?_, ?_, HR.out.1.setCell (p := ⟨w.heap.size + 1, k, none⟩) (by show w.heap.size ≤ w.heap.size + 1; omega) _, ?_⟩
          · rw [World.cell?_setCell_other _ _ _ _ (by simp <;> omega)]; exact q1
          · rw [World.cell?_setCell_other _ _ _ _ (by simp <;> omega)]; exact q2
          · rw [World.frozen?_setCell]; exact q3
          · rw [← stRow_set M k hlt]
            exact HR.out.2.put k (by rw [stRow_len]; omega) _
        case measure => simp [intOf]; omega
      · obtain rfl : k = M := by omega
        have hw0 : w.heap.size < wr.heap.size := by omega
        clear hlt
        go_wp2
        refine bodyPost_ret (v := .tuple #[.agg #[.slice (some ⟨w.heap.size + 1, 0, none⟩) (k + 1) (k + 1)], .bool true]) (by simp [results, Try.results36, go_sem, q2]) rfl ⟨_, rfl, ?_, ?_⟩
        · exact (HR.out.2.set_below ⟨w.heap.size, 0, none⟩ _ (by simp)).lo (by omega) |>.up (by simp <;> omega)
        · exact HR.out.1.setCell (p := ⟨w.heap.size, 0, none⟩) (Nat.le_refl _) _
  · have d1 := D1.out
    have d2 := D2.out
    go_wp2
    refine bodyPost_ret (v := .tuple #[.agg #[.slice (some ⟨w.heap.size + 1, 0, none⟩) (n + 1) (n + 1)], .bool true]) (by simp [results, Try.results36, go_sem, d1, z4]) rfl ⟨_, rfl, ?_, ?_⟩
    · exact ((R2.out.set_below ⟨w.heap.size, 0, none⟩ _ (by simp)).alloc (by simp) _).lo (by omega) |>.up (by simp <;> omega)
    · exact (B2.out.setCell (p := ⟨w.heap.size, 0, none⟩) (Nat.le_refl _) _).alloc (by simp; omega) _
theorem impl_stnew (n : Int) (full : Bool) (w : World) :
    Calls Try.prog 36 #[.int .i64 n, .bool full] w fun e w' => ∃ v', e = .returned (.tuple #[.agg #[v'], .bool (szB n)]) ∧ Row w' w.heap.size w'.heap.size v' (ints (stNewL n full)) ∧ Below w.heap.size w w' := by
  by_cases h : szB n = true
  · have h1 : 1 ≤ n ∧ n ≤ 16 := of_decide_eq_true h
    obtain ⟨i, rfl⟩ : ∃ i : Nat, n = i := ⟨n.toNat, by omega⟩
    have e2 : stNewL i full = stRow i (if full then i else 0) := by unfold stNewL; rw [if_pos h]; simp
    rw [h, e2]
    exact impl_stnew_yes i _ full w (by omega) (by omega) (by cases full <;> simp)
  · have e2 : stNewL n full = [] := by unfold stNewL; rw [if_neg h]
    have h : szB n = false := by simpa using h
    rw [h, e2]
    refine (impl_stnew_no n full w h).mono ?_
    rintro e w' ⟨rfl, b⟩
    exact ⟨_, rfl, ⟨none, 0, rfl, .inl rfl⟩, b⟩

end Go.Proofs.Ytpfofjcfaelocaa
