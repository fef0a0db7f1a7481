/- A step of a ring's call by the model, in one form for all arguments. -/
import Derived.Test.YtomfdbglnedpcaaRows
import Derived.WalkKit
import Derived.ProofKit
import Derived.OpenShut
import Derived.ShutString
import Derived.Test.YtomfdbglnedpcaaRiStepSpec
namespace Go.Proofs.Ytomfdbglnedpcaa
open Go.ChangeShapes Go.WideShapes Go.ChangeAt Go.RowKit
set_option linter.unusedVariables false

set_option maxHeartbeats 1600000 in
set_option maxRecDepth 100000 in
theorem spec_ristep_no (n k a x pc p cc cw r v T : Int) (ac : Ac) (d ok fine : Bool) (lo hi : Nat) (mv : Value) (xs L : List Int) (w : World) (hn : xs.length ≤ 4194304) (hh : hi ≤ w.heap.size) (rm : Row w lo hi mv (ints xs)) (hno : (ok && fine && decide ((xs.length : Int) = 2 + 2 * n)) = false)
    (hok : ok = true → 2 ≤ n ∧ n ≤ 16)
    (hA : ∀ W, Calls Try.prog 33 #[.int .i64 n, .agg #[.int .i64 k, .int .i64 a, .int .i64 x, .int .i64 pc, .int .i64 p, .int .i64 cc, .int .i64 cw, .int .i64 r, .int .i64 v, .bool d]] W fun e w' => e = .returned (.tuple #[.agg #[.int .i64 ac.k, .int .i64 ac.t, .int .i64 ac.a, .int .i64 ac.b], .bool ok]) ∧ Below W.heap.size W w')
    (hD : ∀ lo hi v W, hi ≤ W.heap.size → Row W lo hi v (ints xs) → Calls Try.prog 34 #[.agg #[v], .agg #[.int .i64 ac.k, .int .i64 ac.t, .int .i64 ac.a, .int .i64 ac.b]] W fun e w' => ∃ v', e = .returned (.tuple #[.agg #[v'], .int .i64 T, .bool fine]) ∧ Row w' W.heap.size w'.heap.size v' (ints L) ∧ Below W.heap.size W w') :
    Calls Try.prog 10 #[.int .i64 n, .agg #[mv], .agg #[.int .i64 k, .int .i64 a, .int .i64 x, .int .i64 pc, .int .i64 p, .int .i64 cc, .int .i64 cw, .int .i64 r, .int .i64 v, .bool d]] w fun e w' => e = .returned (.tuple #[.agg #[.slice none 0 0], .agg #[.int .i64 0, .int .i64 0, .int .i64 0, .int .i64 0, .int .i64 0, .int .i64 0, .int .i64 0, .int .i64 0, .int .i64 0, .bool false], .bool false]) ∧ Below w.heap.size w w' := by
  have HA := hidIt hA
  have HD := hidIt hD
  have RM := hidIt rm
  obtain ⟨am, cm, rfl⟩ := rm.form
  clear hA hD rm
  have HNO := hidIt hno
  have HOK := hidIt hok
  clear hno hok
  go_enter Try.func10, Try.ntmps10
  go_wp2_with fail
  refine (HA.out _).mono ?_
  rintro e w1 ⟨rfl, b1⟩
  have z1 := b1.size
  simp at z1
  have m0 : w1.cell? ⟨w.heap.size, 0, none⟩ = some (.slice am xs.length cm) := below_cell b1 (by simp <;> omega) (by simp [go_sem])
  have k0 : (∀ o, w1.cell? ⟨w.heap.size + 1, o, none⟩ = #[.int .i64 k, .int .i64 a, .int .i64 x, .int .i64 pc, .int .i64 p, .int .i64 cc, .int .i64 cw, .int .i64 r, .int .i64 v, .bool d][o]?) ∧ (∀ o, w1.frozen? ⟨w.heap.size + 1, o, none⟩ = false) := ⟨fun o => below_cell b1 (by simp <;> omega) (by simp [go_sem]), fun o => below_frozen b1 (by simp <;> omega) (by simp [go_sem])⟩
  have k3 : w1.cell? ⟨w.heap.size + 1 + 1, 0, none⟩ = some (.slice none 0 0) ∧ w1.frozen? ⟨w.heap.size + 1 + 1, 0, none⟩ = false := ⟨below_cell b1 (by simp <;> omega) (by simp [go_sem]), below_frozen b1 (by simp <;> omega) (by simp [go_sem])⟩
  have k4 : (∀ o, w1.cell? ⟨w.heap.size + 1 + 1 + 1, o, none⟩ = #[.int .i64 0, .int .i64 0, .int .i64 0, .int .i64 0, .int .i64 0, .int .i64 0, .int .i64 0, .int .i64 0, .int .i64 0, .bool false][o]?) ∧ (∀ o, w1.frozen? ⟨w.heap.size + 1 + 1 + 1, o, none⟩ = false) := ⟨fun o => below_cell b1 (by simp <;> omega) (by simp [go_sem]), fun o => below_frozen b1 (by simp <;> omega) (by simp [go_sem])⟩
  have B1 := hidIt ((((((Below.refl w.heap.size w).alloc (Nat.le_refl _) _).alloc (by simp) _).alloc (by simp <;> omega) _).alloc (by simp <;> omega) _).trans (b1.mono (by simp <;> omega)))
  have K0 := hidIt k0
  have K3 := hidIt k3
  have K4 := hidIt k4
  have hz1 : w.heap.size < w1.heap.size := by omega
  clear b1 k0 k3 k4
  go_wp2_with fail
  refine (HD.out lo hi _ _ (by simp; omega) ((RM.out.below (B1.out.mono hh)).alloc (by omega) _)).mono ?_
  rintro e w2 ⟨v2, rfl, r2, b2⟩
  have z2 := b2.size
  simp at z2
  have R2 := hidIt r2
  obtain ⟨a2, c2, rfl⟩ := r2.form
  have B2 := hidIt ((B1.out.alloc (by omega) _).trans (b2.mono (by simp <;> omega)))
  have q0 : w2.cell? ⟨w.heap.size, 0, none⟩ = some (.slice am xs.length cm) := below_cell b2 (by simp <;> omega) (by rw [World.cell?_alloc_lt _ _ _ (by simp <;> omega)]; exact m0)
  have q1 : ∀ o, w2.cell? ⟨w.heap.size + 1, o, none⟩ = #[.int .i64 k, .int .i64 a, .int .i64 x, .int .i64 pc, .int .i64 p, .int .i64 cc, .int .i64 cw, .int .i64 r, .int .i64 v, .bool d][o]? := fun o => below_cell b2 (by simp <;> omega) (by rw [World.cell?_alloc_lt _ _ _ (by simp <;> omega)]; exact K0.out.1 o)
  have q2 : ∀ o, w2.frozen? ⟨w.heap.size + 1, o, none⟩ = false := fun o => below_frozen b2 (by simp <;> omega) (by rw [World.frozen?_alloc_old _ _ _ (by simp <;> omega)]; exact K0.out.2 o)
  have q3 : w2.cell? ⟨w.heap.size + 1 + 1, 0, none⟩ = some (.slice none 0 0) := below_cell b2 (by simp <;> omega) (by rw [World.cell?_alloc_lt _ _ _ (by simp <;> omega)]; exact K3.out.1)
  have q4 : w2.frozen? ⟨w.heap.size + 1 + 1, 0, none⟩ = false := below_frozen b2 (by simp <;> omega) (by rw [World.frozen?_alloc_old _ _ _ (by simp <;> omega)]; exact K3.out.2)
  have q5 : ∀ o, w2.cell? ⟨w.heap.size + 1 + 1 + 1, o, none⟩ = #[.int .i64 0, .int .i64 0, .int .i64 0, .int .i64 0, .int .i64 0, .int .i64 0, .int .i64 0, .int .i64 0, .int .i64 0, .bool false][o]? := fun o => below_cell b2 (by simp <;> omega) (by rw [World.cell?_alloc_lt _ _ _ (by simp <;> omega)]; exact K4.out.1 o)
  have q6 : ∀ o, w2.frozen? ⟨w.heap.size + 1 + 1 + 1, o, none⟩ = false := fun o => below_frozen b2 (by simp <;> omega) (by rw [World.frozen?_alloc_old _ _ _ (by simp <;> omega)]; exact K4.out.2 o)
  have y0 : w.heap.size < w2.heap.size := by omega
  have y1 : w.heap.size + 1 < w2.heap.size := by omega
  have y2 : w.heap.size + 1 + 1 < w2.heap.size := by omega
  have y3 : w.heap.size + 1 + 1 + 1 < w2.heap.size := by omega
  clear r2 b2 m0 K0 K3 K4 B1
  cases ok
  · go_wp2
    refine bodyPost_ret (v := .tuple #[.agg #[.slice none 0 0], .agg #[.int .i64 0, .int .i64 0, .int .i64 0, .int .i64 0, .int .i64 0, .int .i64 0, .int .i64 0, .int .i64 0, .int .i64 0, .bool false], .bool false]) (by simp [results, Try.results10, go_sem, q3, q5, y2, y3]) rfl ⟨rfl, ?_⟩
    exact B2.out.trans (Out.below (show Out (w.heap.size + 1) (w.heap.size + 4) w2 _ by repeat (first | with_reducible exact Out.refl _ _ _ | with_reducible refine Out.drew ?_ | with_reducible refine Out.setCell ?_ (by simp <;> omega) (by simp <;> omega) | with_reducible refine Out.alloc ?_ _)) (by omega) (by omega))
  · cases fine
    · go_wp2
      refine bodyPost_ret (v := .tuple #[.agg #[.slice none 0 0], .agg #[.int .i64 0, .int .i64 0, .int .i64 0, .int .i64 0, .int .i64 0, .int .i64 0, .int .i64 0, .int .i64 0, .int .i64 0, .bool false], .bool false]) (by simp [results, Try.results10, go_sem, q3, q5, y2, y3]) rfl ⟨rfl, ?_⟩
      exact B2.out.trans (Out.below (show Out (w.heap.size + 1) (w.heap.size + 4) w2 _ by repeat (first | with_reducible exact Out.refl _ _ _ | with_reducible refine Out.drew ?_ | with_reducible refine Out.setCell ?_ (by simp <;> omega) (by simp <;> omega) | with_reducible refine Out.alloc ?_ _)) (by omega) (by omega))
    · have hne : ((xs.length : Int) != 2 + 2 * n) = true := by have := HNO.out; simpa using this
      obtain ⟨n1, n2⟩ := HOK.out rfl
      go_wp2
      refine bodyPost_ret (v := .tuple #[.agg #[.slice none 0 0], .agg #[.int .i64 0, .int .i64 0, .int .i64 0, .int .i64 0, .int .i64 0, .int .i64 0, .int .i64 0, .int .i64 0, .int .i64 0, .bool false], .bool false]) (by simp [results, Try.results10, go_sem, q3, q5, y2, y3]) rfl ⟨rfl, ?_⟩
      exact B2.out.trans (Out.below (show Out (w.heap.size + 1) (w.heap.size + 4) w2 _ by repeat (first | with_reducible exact Out.refl _ _ _ | with_reducible refine Out.drew ?_ | with_reducible refine Out.setCell ?_ (by simp <;> omega) (by simp <;> omega) | with_reducible refine Out.alloc ?_ _)) (by omega) (by omega))

theorem riStepL_eq {n : Int} {xs : List Int} {c : Cl} (h : riStepOk n xs c = true) : riStepL n xs c = doL xs (riAc n c).k (riAc n c).t (riAc n c).a (riAc n c).b := by
  unfold riStepL doL
  rw [if_pos h, if_pos (riAct_fits h)]
theorem riTold_eq {n : Int} {xs : List Int} {c : Cl} (h : riStepOk n xs c = true) : riTold n xs c = doT xs (riAc n c).k (riAc n c).t (riAc n c).a (riAc n c).b := by
  unfold riTold doT
  rw [if_pos (riAct_fits h)]
theorem riStep_no {n : Int} {xs : List Int} {c : Cl} (h : riStepOk n xs c = false) : (riOk n c && actB xs.length (riAc n c).k (riAc n c).t (riAc n c).a (riAc n c).b && decide ((xs.length : Int) = 2 + 2 * n)) = false := by
  unfold riStepOk at h
  rw [Bool.and_eq_false_iff] at h ⊢
  rcases h with h | h
  · exact .inl (by rw [h, Bool.false_and])
  · exact .inr h
theorem spec_ristep (n : Int) (c : Cl) (lo hi : Nat) (mv : Value) (xs : List Int) (w : World) (hn : xs.length ≤ 4194304) (hh : hi ≤ w.heap.size) (rm : Row w lo hi mv (ints xs)) :
    Calls Try.prog 10 #[.int .i64 n, .agg #[mv], .agg #[.int .i64 c.k, .int .i64 c.a, .int .i64 c.x, .int .i64 c.pc, .int .i64 c.p, .int .i64 c.c, .int .i64 c.w, .int .i64 c.r, .int .i64 c.v, .bool c.d]] w fun e w' => ∃ v', e = .returned (.tuple #[.agg #[v'], .agg #[.int .i64 (riStepC n xs c).k, .int .i64 (riStepC n xs c).a, .int .i64 (riStepC n xs c).x, .int .i64 (riStepC n xs c).pc, .int .i64 (riStepC n xs c).p, .int .i64 (riStepC n xs c).c, .int .i64 (riStepC n xs c).w, .int .i64 (riStepC n xs c).r, .int .i64 (riStepC n xs c).v, .bool (riStepC n xs c).d], .bool (riStepOk n xs c)]) ∧ Row w' w.heap.size w'.heap.size v' (ints (riStepL n xs c)) ∧ Below w.heap.size w w' := by
  have hA := fun W => spec_riact n c W
  have hD := fun lo hi v W hh r => spec_do lo hi v xs (riAc n c).k (riAc n c).t (riAc n c).a (riAc n c).b W hn hh r
  by_cases h : riStepOk n xs c = true
  · have eC : riStepC n xs c = _ := if_pos h
    rw [riStepL_eq h, eC, riTold_eq h, h]
    rw [riAct_fits h] at hD
    unfold riStepOk at h
    rw [Bool.and_eq_true, decide_eq_true_iff] at h
    obtain ⟨h1, h3⟩ := h
    obtain ⟨b0, b1, b2, b3, b4, b5, b6⟩ := riOk_bd h1
    rw [h1] at hA
    obtain ⟨k, a, x, pc, p, cc, cw, r, v, d⟩ := c
    have b0 : d = false := b0
    subst b0
    exact spec_ristep_yes n k a x pc p cc cw r v _ _ _ rfl lo hi mv xs _ w hn hh rm b2 b1 h3 b3 b4 b5 b6 hA hD
  · have h' : riStepOk n xs c = false := by simpa using h
    have eL : riStepL n xs c = [] := if_neg h
    have eC : riStepC n xs c = clZero := if_neg h
    rw [eL, eC, h']
    refine (spec_ristep_no n c.k c.a c.x c.pc c.p c.c c.w c.r c.v _ _ c.d _ _ lo hi mv xs _ w hn hh rm (riStep_no h') (fun e => ⟨(riOk_bd e).2.1, (riOk_bd e).2.2.1⟩) hA hD).mono ?_
    rintro e w' ⟨rfl, b⟩
    exact ⟨_, rfl, ⟨none, 0, rfl, .inl rfl⟩, b⟩

end Go.Proofs.Ytomfdbglnedpcaa
