/- What a step of a ring's call makes of it, by the model: behind the load of seq. -/
import Derived.Test.YtomfdbglnedpcaaRows
import Derived.WalkKit
import Derived.ProofKit
import Derived.OpenShut
import Derived.ShutString
import Derived.Test.YtomfdbglnedpcaaRiPlain
import Derived.Test.YtomfdbglnedpcaaCallFns
import Derived.Test.YtomfdbglnedpcaaOutMoves
namespace Go.Proofs.Ytomfdbglnedpcaa
open Go.ChangeShapes Go.WideShapes Go.ChangeAt Go.RowKit
set_option linter.unusedVariables false

set_option maxRecDepth 100000 in
theorem spec_end (k a x pc p cc cw r v q : Int) (d : Bool) (w : World) :
    Calls Try.prog 36 #[.agg #[.int .i64 k, .int .i64 a, .int .i64 x, .int .i64 pc, .int .i64 p, .int .i64 cc, .int .i64 cw, .int .i64 r, .int .i64 v, .bool d], .int .i64 q] w fun e w' => e = .returned (.agg #[.int .i64 k, .int .i64 a, .int .i64 x, .int .i64 pc, .int .i64 p, .int .i64 cc, .int .i64 cw, .int .i64 q, .int .i64 v, .bool true]) ∧ Below w.heap.size w w' := by
  go_enter Try.func36, Try.ntmps36
  go_wp2
  refine bodyPost_ret (v := .agg #[.int .i64 k, .int .i64 a, .int .i64 x, .int .i64 pc, .int .i64 p, .int .i64 cc, .int .i64 cw, .int .i64 q, .int .i64 v, .bool true]) (by simp [results, Try.results36, go_sem]) rfl ⟨rfl, ?_⟩
  repeat (first | exact Below.refl _ _ | refine Below.setCell ?_ (by simp <;> omega) _ | refine Below.alloc ?_ (by simp <;> omega) _)
set_option maxRecDepth 100000 in
theorem spec_seen1_lt (a x p cc cw r v T D : Int) (w : World) (hD : wrap64 (T - p) = D) (h : D < 0) :
    Calls Try.prog 35 #[.agg #[.int .i64 1, .int .i64 a, .int .i64 x, .int .i64 2, .int .i64 p, .int .i64 cc, .int .i64 cw, .int .i64 r, .int .i64 v, .bool false], .int .i64 T] w fun e w' => e = .returned (.agg #[.int .i64 1, .int .i64 a, .int .i64 x, .int .i64 2, .int .i64 p, .int .i64 T, .int .i64 cw, .int .i64 3, .int .i64 v, .bool true]) ∧ Below w.heap.size w w' := by
  have hD2 := hD
  rw [← wrapEq] at hD2
  have h2 : ¬ 0 < D := by omega
  go_enter Try.func35, Try.ntmps35
  go_wp2_with fail
  refine (spec_end 1 a x 2 p T cw r v _ _ _).mono ?_
  rintro e w1 ⟨rfl, b1⟩
  have z1 := b1.size
  simp at z1
  have k1 : ∀ o, w1.cell? ⟨w.heap.size + 1, o, none⟩ = #[Value.int .i64 0, .int .i64 0, .int .i64 0, .int .i64 0, .int .i64 0, .int .i64 0, .int .i64 0, .int .i64 0, .int .i64 0, .bool false][o]? := fun o => below_cell b1 (by simp) (by simp [go_sem])
  have k2 : ∀ o, w1.frozen? ⟨w.heap.size + 1, o, none⟩ = false := fun o => below_frozen b1 (by simp) (by simp [go_sem])
  have B1 : Below w.heap.size w w1 := Below.trans (by repeat (first | exact Below.refl _ _ | refine Below.setCell ?_ (by simp <;> omega) _ | refine Below.alloc ?_ (by simp <;> omega) _)) (b1.mono (by simp <;> omega))
  clear b1
  go_wp2
  refine bodyPost_ret (v := .agg #[.int .i64 1, .int .i64 a, .int .i64 x, .int .i64 2, .int .i64 p, .int .i64 T, .int .i64 cw, .int .i64 3, .int .i64 v, .bool true]) (by simp [results, Try.results35, go_sem, k1]) rfl ⟨rfl, ?_⟩
  exact B1.trans (Out.below (show Out (w.heap.size + 1) (w.heap.size + 2) w1 _ by repeat (first | with_reducible exact Out.refl _ _ _ | with_reducible refine Out.drew ?_ | with_reducible refine Out.setCell ?_ (by simp <;> omega) (by simp <;> omega))) (by omega) (by omega))
set_option maxRecDepth 100000 in
theorem spec_seen1_gt (a x p cc cw r v T D : Int) (w : World) (hD : wrap64 (T - p) = D) (h : 0 < D) :
    Calls Try.prog 35 #[.agg #[.int .i64 1, .int .i64 a, .int .i64 x, .int .i64 2, .int .i64 p, .int .i64 cc, .int .i64 cw, .int .i64 r, .int .i64 v, .bool false], .int .i64 T] w fun e w' => e = .returned (.agg #[.int .i64 1, .int .i64 a, .int .i64 x, .int .i64 0, .int .i64 p, .int .i64 T, .int .i64 cw, .int .i64 r, .int .i64 v, .bool false]) ∧ Below w.heap.size w w' := by
  have hD2 := hD
  rw [← wrapEq] at hD2
  have h2 : ¬ D < 0 := by omega
  go_enter Try.func35, Try.ntmps35
  go_wp2
  refine bodyPost_ret (v := .agg #[.int .i64 1, .int .i64 a, .int .i64 x, .int .i64 0, .int .i64 p, .int .i64 T, .int .i64 cw, .int .i64 r, .int .i64 v, .bool false]) (by simp [results, Try.results35, go_sem]) rfl ⟨rfl, ?_⟩
  repeat (first | exact Below.refl _ _ | refine Below.setCell ?_ (by simp <;> omega) _ | refine Below.alloc ?_ (by simp <;> omega) _)
set_option maxRecDepth 100000 in
theorem spec_seen1_eq (a x p cc cw r v T D : Int) (w : World) (hD : wrap64 (T - p) = D) (h : D = 0) :
    Calls Try.prog 35 #[.agg #[.int .i64 1, .int .i64 a, .int .i64 x, .int .i64 2, .int .i64 p, .int .i64 cc, .int .i64 cw, .int .i64 r, .int .i64 v, .bool false], .int .i64 T] w fun e w' => e = .returned (.agg #[.int .i64 1, .int .i64 a, .int .i64 x, .int .i64 2, .int .i64 p, .int .i64 T, .int .i64 cw, .int .i64 r, .int .i64 v, .bool false]) ∧ Below w.heap.size w w' := by
  have hD2 := hD
  rw [← wrapEq] at hD2
  subst h
  go_enter Try.func35, Try.ntmps35
  go_wp2
  refine bodyPost_ret (v := .agg #[.int .i64 1, .int .i64 a, .int .i64 x, .int .i64 2, .int .i64 p, .int .i64 T, .int .i64 cw, .int .i64 r, .int .i64 v, .bool false]) (by simp [results, Try.results35, go_sem]) rfl ⟨rfl, ?_⟩
  repeat (first | exact Below.refl _ _ | refine Below.setCell ?_ (by simp <;> omega) _ | refine Below.alloc ?_ (by simp <;> omega) _)
set_option maxRecDepth 100000 in
theorem spec_seen2_lt (a x p cc cw r v T D P1 : Int) (w : World) (hP : wrap64 (p + 1) = P1) (hD : wrap64 (T - P1) = D) (h : D < 0) :
    Calls Try.prog 35 #[.agg #[.int .i64 2, .int .i64 a, .int .i64 x, .int .i64 2, .int .i64 p, .int .i64 cc, .int .i64 cw, .int .i64 r, .int .i64 v, .bool false], .int .i64 T] w fun e w' => e = .returned (.agg #[.int .i64 2, .int .i64 a, .int .i64 x, .int .i64 2, .int .i64 p, .int .i64 T, .int .i64 cw, .int .i64 2, .int .i64 v, .bool true]) ∧ Below w.heap.size w w' := by
  have hD2 := hD
  rw [← wrapEq] at hD2
  have hP2 := hP
  rw [← wrapEq] at hP2
  have h2 : ¬ 0 < D := by omega
  go_enter Try.func35, Try.ntmps35
  go_wp2_with fail
  refine (spec_end 2 a x 2 p T cw r v _ _ _).mono ?_
  rintro e w1 ⟨rfl, b1⟩
  have z1 := b1.size
  simp at z1
  have k1 : ∀ o, w1.cell? ⟨w.heap.size + 1, o, none⟩ = #[Value.int .i64 0, .int .i64 0, .int .i64 0, .int .i64 0, .int .i64 0, .int .i64 0, .int .i64 0, .int .i64 0, .int .i64 0, .bool false][o]? := fun o => below_cell b1 (by simp) (by simp [go_sem])
  have k2 : ∀ o, w1.frozen? ⟨w.heap.size + 1, o, none⟩ = false := fun o => below_frozen b1 (by simp) (by simp [go_sem])
  have B1 : Below w.heap.size w w1 := Below.trans (by repeat (first | exact Below.refl _ _ | refine Below.setCell ?_ (by simp <;> omega) _ | refine Below.alloc ?_ (by simp <;> omega) _)) (b1.mono (by simp <;> omega))
  clear b1
  go_wp2
  refine bodyPost_ret (v := .agg #[.int .i64 2, .int .i64 a, .int .i64 x, .int .i64 2, .int .i64 p, .int .i64 T, .int .i64 cw, .int .i64 2, .int .i64 v, .bool true]) (by simp [results, Try.results35, go_sem, k1]) rfl ⟨rfl, ?_⟩
  exact B1.trans (Out.below (show Out (w.heap.size + 1) (w.heap.size + 2) w1 _ by repeat (first | with_reducible exact Out.refl _ _ _ | with_reducible refine Out.drew ?_ | with_reducible refine Out.setCell ?_ (by simp <;> omega) (by simp <;> omega))) (by omega) (by omega))
set_option maxRecDepth 100000 in
theorem spec_seen2_gt (a x p cc cw r v T D P1 : Int) (w : World) (hP : wrap64 (p + 1) = P1) (hD : wrap64 (T - P1) = D) (h : 0 < D) :
    Calls Try.prog 35 #[.agg #[.int .i64 2, .int .i64 a, .int .i64 x, .int .i64 2, .int .i64 p, .int .i64 cc, .int .i64 cw, .int .i64 r, .int .i64 v, .bool false], .int .i64 T] w fun e w' => e = .returned (.agg #[.int .i64 2, .int .i64 a, .int .i64 x, .int .i64 0, .int .i64 p, .int .i64 T, .int .i64 cw, .int .i64 r, .int .i64 v, .bool false]) ∧ Below w.heap.size w w' := by
  have hD2 := hD
  rw [← wrapEq] at hD2
  have hP2 := hP
  rw [← wrapEq] at hP2
  have h2 : ¬ D < 0 := by omega
  go_enter Try.func35, Try.ntmps35
  go_wp2
  refine bodyPost_ret (v := .agg #[.int .i64 2, .int .i64 a, .int .i64 x, .int .i64 0, .int .i64 p, .int .i64 T, .int .i64 cw, .int .i64 r, .int .i64 v, .bool false]) (by simp [results, Try.results35, go_sem]) rfl ⟨rfl, ?_⟩
  repeat (first | exact Below.refl _ _ | refine Below.setCell ?_ (by simp <;> omega) _ | refine Below.alloc ?_ (by simp <;> omega) _)
set_option maxRecDepth 100000 in
theorem spec_seen2_eq (a x p cc cw r v T D P1 : Int) (w : World) (hP : wrap64 (p + 1) = P1) (hD : wrap64 (T - P1) = D) (h : D = 0) :
    Calls Try.prog 35 #[.agg #[.int .i64 2, .int .i64 a, .int .i64 x, .int .i64 2, .int .i64 p, .int .i64 cc, .int .i64 cw, .int .i64 r, .int .i64 v, .bool false], .int .i64 T] w fun e w' => e = .returned (.agg #[.int .i64 2, .int .i64 a, .int .i64 x, .int .i64 2, .int .i64 p, .int .i64 T, .int .i64 cw, .int .i64 r, .int .i64 v, .bool false]) ∧ Below w.heap.size w w' := by
  have hD2 := hD
  rw [← wrapEq] at hD2
  have hP2 := hP
  rw [← wrapEq] at hP2
  subst h
  go_enter Try.func35, Try.ntmps35
  go_wp2
  refine bodyPost_ret (v := .agg #[.int .i64 2, .int .i64 a, .int .i64 x, .int .i64 2, .int .i64 p, .int .i64 T, .int .i64 cw, .int .i64 r, .int .i64 v, .bool false]) (by simp [results, Try.results35, go_sem]) rfl ⟨rfl, ?_⟩
  repeat (first | exact Below.refl _ _ | refine Below.setCell ?_ (by simp <;> omega) _ | refine Below.alloc ?_ (by simp <;> omega) _)
def riSeen (c : Cl) (told : Int) : Cl :=
  if wrap64 (told - (if c.k = 1 then c.p else wrap64 (c.p + 1))) < 0 then { c with pc := 2, c := told, r := if c.k = 1 then 3 else 2, d := true }
  else if 0 < wrap64 (told - (if c.k = 1 then c.p else wrap64 (c.p + 1))) then { c with pc := 0, c := told }
  else { c with pc := 2, c := told }
theorem spec_seen (k a x p cc cw r v T : Int) (w : World) (hk : k = 1 ∨ k = 2) (co : Cl) (hco : riSeen ⟨k, a, x, 1, p, cc, cw, r, v, false⟩ T = co) :
    Calls Try.prog 35 #[.agg #[.int .i64 k, .int .i64 a, .int .i64 x, .int .i64 2, .int .i64 p, .int .i64 cc, .int .i64 cw, .int .i64 r, .int .i64 v, .bool false], .int .i64 T] w fun e w' => e = .returned (.agg #[.int .i64 co.k, .int .i64 co.a, .int .i64 co.x, .int .i64 co.pc, .int .i64 co.p, .int .i64 co.c, .int .i64 co.w, .int .i64 co.r, .int .i64 co.v, .bool co.d]) ∧ Below w.heap.size w w' := by
  subst hco
  rcases hk with rfl | rfl
  · by_cases h1 : wrap64 (T - p) < 0
    · have e : riSeen ⟨1, a, x, 1, p, cc, cw, r, v, false⟩ T = ⟨1, a, x, 2, p, T, cw, 3, v, true⟩ := by unfold riSeen; simp [h1]
      rw [e]
      exact spec_seen1_lt a x p cc cw r v T _ w rfl h1
    · by_cases h2 : 0 < wrap64 (T - p)
      · have e : riSeen ⟨1, a, x, 1, p, cc, cw, r, v, false⟩ T = ⟨1, a, x, 0, p, T, cw, r, v, false⟩ := by unfold riSeen; simp [h1, h2]
        rw [e]
        exact spec_seen1_gt a x p cc cw r v T _ w rfl h2
      · have e : riSeen ⟨1, a, x, 1, p, cc, cw, r, v, false⟩ T = ⟨1, a, x, 2, p, T, cw, r, v, false⟩ := by unfold riSeen; simp [h1, h2]
        rw [e]
        exact spec_seen1_eq a x p cc cw r v T _ w rfl (by omega)
  · by_cases h1 : wrap64 (T - wrap64 (p + 1)) < 0
    · have e : riSeen ⟨2, a, x, 1, p, cc, cw, r, v, false⟩ T = ⟨2, a, x, 2, p, T, cw, 2, v, true⟩ := by unfold riSeen; simp [h1]
      rw [e]
      exact spec_seen2_lt a x p cc cw r v T _ _ w rfl rfl h1
    · by_cases h2 : 0 < wrap64 (T - wrap64 (p + 1))
      · have e : riSeen ⟨2, a, x, 1, p, cc, cw, r, v, false⟩ T = ⟨2, a, x, 0, p, T, cw, r, v, false⟩ := by unfold riSeen; simp [h1, h2]
        rw [e]
        exact spec_seen2_gt a x p cc cw r v T _ _ w rfl rfl h2
      · have e : riSeen ⟨2, a, x, 1, p, cc, cw, r, v, false⟩ T = ⟨2, a, x, 2, p, T, cw, r, v, false⟩ := by unfold riSeen; simp [h1, h2]
        rw [e]
        exact spec_seen2_eq a x p cc cw r v T _ _ w rfl rfl (by omega)

end Go.Proofs.Ytomfdbglnedpcaa
