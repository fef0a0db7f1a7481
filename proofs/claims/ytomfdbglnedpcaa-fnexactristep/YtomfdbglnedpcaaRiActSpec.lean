/- The act of a step of a ring's call, by the model. -/
import Derived.Test.YtomfdbglnedpcaaRows
import Derived.WalkKit
import Derived.ProofKit
import Derived.OpenShut
import Derived.ShutString
import Derived.Test.YtomfdbglnedpcaaRiMod
import Derived.Test.YtomfdbglnedpcaaStackSpec1
import Derived.Test.YtomfdbglnedpcaaOutMoves
import Derived.Deep.RegionHeld3
namespace Go.Proofs.Ytomfdbglnedpcaa
open Go.ChangeShapes Go.WideShapes Go.ChangeAt Go.RowKit
set_option linter.unusedVariables false

set_option maxHeartbeats 800000 in
set_option maxRecDepth 100000 in
theorem spec_riact_10 (n a x p cc cw r v : Int) (w : World) (hz : rzB n = true) :
    Calls Try.prog 33 #[.int .i64 n, .agg #[Value.int .i64 1, .int .i64 a, .int .i64 x, .int .i64 0, .int .i64 p, .int .i64 cc, .int .i64 cw, .int .i64 r, .int .i64 v, .bool false]] w fun e w' => e = .returned (.tuple #[.agg #[.int .i64 1, .int .i64 0, .int .i64 0, .int .i64 0], .bool true]) ∧ Below w.heap.size w w' := by
  have hq := rsq_bd p hz
  have h16 : n ≤ 16 := (rzB_iff.1 hz).2
  obtain ⟨hq1, hq2⟩ := hq
  have hq3 : rsq n p ≤ 32 := by omega
  clear hq2 h16
  have HZ := hidIt hz
  clear hz
  go_enter Try.func33, Try.ntmps33
  go_wp2_with (first | (go_at_call 71; refine (spec_rsize n _).mono ?_; rintro e wq ⟨rfl, rfl⟩; rw [HZ.out]) | (go_at_call 72; refine (spec_seq n p _ HZ.out).mono ?_; rintro e wq ⟨rfl, rfl⟩) | (go_at_call 47; refine (spec_load _ _).mono ?_; rintro e wq ⟨rfl, rfl⟩) | (go_at_call 48; refine (spec_cas _ _ _ _).mono ?_; rintro e wq ⟨rfl, rfl⟩) | (go_at_call 49; refine (spec_store _ _ _).mono ?_; rintro e wq ⟨rfl, rfl⟩))
  refine bodyPost_ret (v := .tuple #[.agg #[.int .i64 1, .int .i64 0, .int .i64 0, .int .i64 0], .bool true]) (by simp [results, Try.results33, go_sem] <;> first | exact wrapEq _ | (rw [IntKind.wrap_i64]; omega)) rfl ⟨rfl, ?_⟩
  repeat (first | exact Below.refl _ _ | refine Below.setCell ?_ (by simp <;> omega) _ | refine Below.alloc ?_ (by simp <;> omega) _)
set_option maxHeartbeats 800000 in
set_option maxRecDepth 100000 in
theorem spec_riact_11 (n a x p cc cw r v : Int) (w : World) (hz : rzB n = true) :
    Calls Try.prog 33 #[.int .i64 n, .agg #[Value.int .i64 1, .int .i64 a, .int .i64 x, .int .i64 1, .int .i64 p, .int .i64 cc, .int .i64 cw, .int .i64 r, .int .i64 v, .bool false]] w fun e w' => e = .returned (.tuple #[.agg #[.int .i64 1, .int .i64 (rsq n p), .int .i64 0, .int .i64 0], .bool true]) ∧ Below w.heap.size w w' := by
  have hq := rsq_bd p hz
  have h16 : n ≤ 16 := (rzB_iff.1 hz).2
  obtain ⟨hq1, hq2⟩ := hq
  have hq3 : rsq n p ≤ 32 := by omega
  clear hq2 h16
  have HZ := hidIt hz
  clear hz
  go_enter Try.func33, Try.ntmps33
  go_wp2_with (first | (go_at_call 71; refine (spec_rsize n _).mono ?_; rintro e wq ⟨rfl, rfl⟩; rw [HZ.out]) | (go_at_call 72; refine (spec_seq n p _ HZ.out).mono ?_; rintro e wq ⟨rfl, rfl⟩) | (go_at_call 47; refine (spec_load _ _).mono ?_; rintro e wq ⟨rfl, rfl⟩) | (go_at_call 48; refine (spec_cas _ _ _ _).mono ?_; rintro e wq ⟨rfl, rfl⟩) | (go_at_call 49; refine (spec_store _ _ _).mono ?_; rintro e wq ⟨rfl, rfl⟩))
  refine bodyPost_ret (v := .tuple #[.agg #[.int .i64 1, .int .i64 (rsq n p), .int .i64 0, .int .i64 0], .bool true]) (by simp [results, Try.results33, go_sem] <;> first | exact wrapEq _ | (rw [IntKind.wrap_i64]; omega)) rfl ⟨rfl, ?_⟩
  repeat (first | exact Below.refl _ _ | refine Below.setCell ?_ (by simp <;> omega) _ | refine Below.alloc ?_ (by simp <;> omega) _)
set_option maxHeartbeats 800000 in
set_option maxRecDepth 100000 in
theorem spec_riact_12 (n a x p cc cw r v : Int) (w : World) (hz : rzB n = true) :
    Calls Try.prog 33 #[.int .i64 n, .agg #[Value.int .i64 1, .int .i64 a, .int .i64 x, .int .i64 2, .int .i64 p, .int .i64 cc, .int .i64 cw, .int .i64 r, .int .i64 v, .bool false]] w fun e w' => e = .returned (.tuple #[.agg #[.int .i64 3, .int .i64 0, .int .i64 p, .int .i64 (wrap64 (p + 1))], .bool true]) ∧ Below w.heap.size w w' := by
  have hq := rsq_bd p hz
  have h16 : n ≤ 16 := (rzB_iff.1 hz).2
  obtain ⟨hq1, hq2⟩ := hq
  have hq3 : rsq n p ≤ 32 := by omega
  clear hq2 h16
  have HZ := hidIt hz
  clear hz
  go_enter Try.func33, Try.ntmps33
  go_wp2_with (first | (go_at_call 71; refine (spec_rsize n _).mono ?_; rintro e wq ⟨rfl, rfl⟩; rw [HZ.out]) | (go_at_call 72; refine (spec_seq n p _ HZ.out).mono ?_; rintro e wq ⟨rfl, rfl⟩) | (go_at_call 47; refine (spec_load _ _).mono ?_; rintro e wq ⟨rfl, rfl⟩) | (go_at_call 48; refine (spec_cas _ _ _ _).mono ?_; rintro e wq ⟨rfl, rfl⟩) | (go_at_call 49; refine (spec_store _ _ _).mono ?_; rintro e wq ⟨rfl, rfl⟩))
  refine bodyPost_ret (v := .tuple #[.agg #[.int .i64 3, .int .i64 0, .int .i64 p, .int .i64 (wrap64 (p + 1))], .bool true]) (by simp [results, Try.results33, go_sem] <;> first | exact wrapEq _ | (rw [IntKind.wrap_i64]; omega)) rfl ⟨rfl, ?_⟩
  repeat (first | exact Below.refl _ _ | refine Below.setCell ?_ (by simp <;> omega) _ | refine Below.alloc ?_ (by simp <;> omega) _)
set_option maxHeartbeats 800000 in
set_option maxRecDepth 100000 in
theorem spec_riact_13 (n a x p cc cw r v : Int) (w : World) (hz : rzB n = true) :
    Calls Try.prog 33 #[.int .i64 n, .agg #[Value.int .i64 1, .int .i64 a, .int .i64 x, .int .i64 3, .int .i64 p, .int .i64 cc, .int .i64 cw, .int .i64 r, .int .i64 v, .bool false]] w fun e w' => e = .returned (.tuple #[.agg #[.int .i64 2, .int .i64 (rsq n p + 1), .int .i64 a, .int .i64 0], .bool true]) ∧ Below w.heap.size w w' := by
  have hq := rsq_bd p hz
  have h16 : n ≤ 16 := (rzB_iff.1 hz).2
  obtain ⟨hq1, hq2⟩ := hq
  have hq3 : rsq n p ≤ 32 := by omega
  clear hq2 h16
  have HZ := hidIt hz
  clear hz
  go_enter Try.func33, Try.ntmps33
  go_wp2_with (go_at_call 71; refine (spec_rsize n _).mono ?_; rintro e wq ⟨rfl, rfl⟩; rw [HZ.out])
  generalize hW : World.alloc _ _ = W0
  have q1 : ∀ o, W0.cell? ⟨w.heap.size, o, none⟩ = #[Value.int .i64 1, .int .i64 a, .int .i64 x, .int .i64 3, .int .i64 p, .int .i64 cc, .int .i64 cw, .int .i64 r, .int .i64 v, .bool false][o]? := by rw [← hW]; intro o; simp [go_sem]
  have q2 : (∀ o, W0.cell? ⟨w.heap.size + 1, o, none⟩ = #[Value.int .i64 0, .int .i64 0, .int .i64 0, .int .i64 0][o]?) ∧ (∀ o, W0.frozen? ⟨w.heap.size + 1, o, none⟩ = false) := by rw [← hW]; exact ⟨fun o => by simp [go_sem], fun o => by simp [go_sem]⟩
  have qz : w.heap.size + 1 < W0.heap.size := by rw [← hW]; simp
  have qz0 : w.heap.size < W0.heap.size := by omega
  have B0 := hidIt (show Below w.heap.size w W0 by rw [← hW]; exact ((Below.refl _ _).alloc (Nat.le_refl _) _).alloc (by simp) _)
  have OO := hidIt (show ∀ W, Out (w.heap.size + 1) (w.heap.size + 2) W0 W → Out (w.heap.size + 1) (w.heap.size + 2) W0 W ∧ ∀ o, W.cell? ⟨w.heap.size, o, none⟩ = #[Value.int .i64 1, .int .i64 a, .int .i64 x, .int .i64 3, .int .i64 p, .int .i64 cc, .int .i64 cw, .int .i64 r, .int .i64 v, .bool false][o]? from fun W h => ⟨h, fun o => h.cell qz0 (.inl (by omega)) (q1 o)⟩)
  clear hW
  go_region_held3 (fun W => Out (w.heap.size + 1) (w.heap.size + 2) W0 W ∧ ∀ o, W.cell? ⟨w.heap.size, o, none⟩ = #[Value.int .i64 1, .int .i64 a, .int .i64 x, .int .i64 3, .int .i64 p, .int .i64 cc, .int .i64 cw, .int .i64 r, .int .i64 v, .bool false][o]?) (first | (go_split_ands; refine OO.out _ ?_; repeat (first | with_reducible assumption | with_reducible exact Out.refl _ _ _ | with_reducible refine Out.drew ?_ | with_reducible refine Out.alloc ?_ _ | with_reducible refine Out.setCell ?_ (by simp <;> omega) (by simp <;> omega)))) (first | (go_at_call 71; refine (spec_rsize n _).mono ?_; rintro e wq ⟨rfl, rfl⟩; rw [HZ.out]) | (go_at_call 72; refine (spec_seq n p _ HZ.out).mono ?_; rintro e wq ⟨rfl, rfl⟩) | (go_at_call 47; refine (spec_load _ _).mono ?_; rintro e wq ⟨rfl, rfl⟩) | (go_at_call 48; refine (spec_cas _ _ _ _).mono ?_; rintro e wq ⟨rfl, rfl⟩) | (go_at_call 49; refine (spec_store _ _ _).mono ?_; rintro e wq ⟨rfl, rfl⟩))
  all_goals
    rename_i hHeld
    have ho := hHeld.1
    clear hHeld OO
    go_wp2
    exact bodyPost_ret (v := .tuple #[.agg #[.int .i64 2, .int .i64 (rsq n p + 1), .int .i64 a, .int .i64 0], .bool true]) (by simp [results, Try.results33, go_sem, q2.1, qz] <;> first | exact wrapEq _ | (rw [IntKind.wrap_i64]; omega)) rfl ⟨rfl, B0.out.trans (ho.below (by omega) (by omega))⟩
set_option maxHeartbeats 800000 in
set_option maxRecDepth 100000 in
theorem spec_riact_14 (n a x p cc cw r v : Int) (w : World) (hz : rzB n = true) :
    Calls Try.prog 33 #[.int .i64 n, .agg #[Value.int .i64 1, .int .i64 a, .int .i64 x, .int .i64 4, .int .i64 p, .int .i64 cc, .int .i64 cw, .int .i64 r, .int .i64 v, .bool false]] w fun e w' => e = .returned (.tuple #[.agg #[.int .i64 2, .int .i64 (rsq n p), .int .i64 (wrap64 (p + 1)), .int .i64 0], .bool true]) ∧ Below w.heap.size w w' := by
  have hq := rsq_bd p hz
  have h16 : n ≤ 16 := (rzB_iff.1 hz).2
  obtain ⟨hq1, hq2⟩ := hq
  have hq3 : rsq n p ≤ 32 := by omega
  clear hq2 h16
  have HZ := hidIt hz
  clear hz
  go_enter Try.func33, Try.ntmps33
  go_wp2_with (go_at_call 71; refine (spec_rsize n _).mono ?_; rintro e wq ⟨rfl, rfl⟩; rw [HZ.out])
  generalize hW : World.alloc _ _ = W0
  have q1 : ∀ o, W0.cell? ⟨w.heap.size, o, none⟩ = #[Value.int .i64 1, .int .i64 a, .int .i64 x, .int .i64 4, .int .i64 p, .int .i64 cc, .int .i64 cw, .int .i64 r, .int .i64 v, .bool false][o]? := by rw [← hW]; intro o; simp [go_sem]
  have q2 : (∀ o, W0.cell? ⟨w.heap.size + 1, o, none⟩ = #[Value.int .i64 0, .int .i64 0, .int .i64 0, .int .i64 0][o]?) ∧ (∀ o, W0.frozen? ⟨w.heap.size + 1, o, none⟩ = false) := by rw [← hW]; exact ⟨fun o => by simp [go_sem], fun o => by simp [go_sem]⟩
  have qz : w.heap.size + 1 < W0.heap.size := by rw [← hW]; simp
  have qz0 : w.heap.size < W0.heap.size := by omega
  have B0 := hidIt (show Below w.heap.size w W0 by rw [← hW]; exact ((Below.refl _ _).alloc (Nat.le_refl _) _).alloc (by simp) _)
  have OO := hidIt (show ∀ W, Out (w.heap.size + 1) (w.heap.size + 2) W0 W → Out (w.heap.size + 1) (w.heap.size + 2) W0 W ∧ ∀ o, W.cell? ⟨w.heap.size, o, none⟩ = #[Value.int .i64 1, .int .i64 a, .int .i64 x, .int .i64 4, .int .i64 p, .int .i64 cc, .int .i64 cw, .int .i64 r, .int .i64 v, .bool false][o]? from fun W h => ⟨h, fun o => h.cell qz0 (.inl (by omega)) (q1 o)⟩)
  clear hW
  go_region_held3 (fun W => Out (w.heap.size + 1) (w.heap.size + 2) W0 W ∧ ∀ o, W.cell? ⟨w.heap.size, o, none⟩ = #[Value.int .i64 1, .int .i64 a, .int .i64 x, .int .i64 4, .int .i64 p, .int .i64 cc, .int .i64 cw, .int .i64 r, .int .i64 v, .bool false][o]?) (first | (go_split_ands; refine OO.out _ ?_; repeat (first | with_reducible assumption | with_reducible exact Out.refl _ _ _ | with_reducible refine Out.drew ?_ | with_reducible refine Out.alloc ?_ _ | with_reducible refine Out.setCell ?_ (by simp <;> omega) (by simp <;> omega)))) (first | (go_at_call 71; refine (spec_rsize n _).mono ?_; rintro e wq ⟨rfl, rfl⟩; rw [HZ.out]) | (go_at_call 72; refine (spec_seq n p _ HZ.out).mono ?_; rintro e wq ⟨rfl, rfl⟩) | (go_at_call 47; refine (spec_load _ _).mono ?_; rintro e wq ⟨rfl, rfl⟩) | (go_at_call 48; refine (spec_cas _ _ _ _).mono ?_; rintro e wq ⟨rfl, rfl⟩) | (go_at_call 49; refine (spec_store _ _ _).mono ?_; rintro e wq ⟨rfl, rfl⟩))
  all_goals
    rename_i hHeld
    have ho := hHeld.1
    clear hHeld OO
    go_wp2
    exact bodyPost_ret (v := .tuple #[.agg #[.int .i64 2, .int .i64 (rsq n p), .int .i64 (wrap64 (p + 1)), .int .i64 0], .bool true]) (by simp [results, Try.results33, go_sem, q2.1, qz] <;> first | exact wrapEq _ | (rw [IntKind.wrap_i64]; omega)) rfl ⟨rfl, B0.out.trans (ho.below (by omega) (by omega))⟩
set_option maxHeartbeats 800000 in
set_option maxRecDepth 100000 in
theorem spec_riact_20 (n a x p cc cw r v : Int) (w : World) (hz : rzB n = true) :
    Calls Try.prog 33 #[.int .i64 n, .agg #[Value.int .i64 2, .int .i64 a, .int .i64 x, .int .i64 0, .int .i64 p, .int .i64 cc, .int .i64 cw, .int .i64 r, .int .i64 v, .bool false]] w fun e w' => e = .returned (.tuple #[.agg #[.int .i64 1, .int .i64 1, .int .i64 0, .int .i64 0], .bool true]) ∧ Below w.heap.size w w' := by
  have hq := rsq_bd p hz
  have h16 : n ≤ 16 := (rzB_iff.1 hz).2
  obtain ⟨hq1, hq2⟩ := hq
  have hq3 : rsq n p ≤ 32 := by omega
  clear hq2 h16
  have HZ := hidIt hz
  clear hz
  go_enter Try.func33, Try.ntmps33
  go_wp2_with (first | (go_at_call 71; refine (spec_rsize n _).mono ?_; rintro e wq ⟨rfl, rfl⟩; rw [HZ.out]) | (go_at_call 72; refine (spec_seq n p _ HZ.out).mono ?_; rintro e wq ⟨rfl, rfl⟩) | (go_at_call 47; refine (spec_load _ _).mono ?_; rintro e wq ⟨rfl, rfl⟩) | (go_at_call 48; refine (spec_cas _ _ _ _).mono ?_; rintro e wq ⟨rfl, rfl⟩) | (go_at_call 49; refine (spec_store _ _ _).mono ?_; rintro e wq ⟨rfl, rfl⟩))
  refine bodyPost_ret (v := .tuple #[.agg #[.int .i64 1, .int .i64 1, .int .i64 0, .int .i64 0], .bool true]) (by simp [results, Try.results33, go_sem] <;> first | exact wrapEq _ | (rw [IntKind.wrap_i64]; omega)) rfl ⟨rfl, ?_⟩
  repeat (first | exact Below.refl _ _ | refine Below.setCell ?_ (by simp <;> omega) _ | refine Below.alloc ?_ (by simp <;> omega) _)
set_option maxHeartbeats 800000 in
set_option maxRecDepth 100000 in
theorem spec_riact_21 (n a x p cc cw r v : Int) (w : World) (hz : rzB n = true) :
    Calls Try.prog 33 #[.int .i64 n, .agg #[Value.int .i64 2, .int .i64 a, .int .i64 x, .int .i64 1, .int .i64 p, .int .i64 cc, .int .i64 cw, .int .i64 r, .int .i64 v, .bool false]] w fun e w' => e = .returned (.tuple #[.agg #[.int .i64 1, .int .i64 (rsq n p), .int .i64 0, .int .i64 0], .bool true]) ∧ Below w.heap.size w w' := by
  have hq := rsq_bd p hz
  have h16 : n ≤ 16 := (rzB_iff.1 hz).2
  obtain ⟨hq1, hq2⟩ := hq
  have hq3 : rsq n p ≤ 32 := by omega
  clear hq2 h16
  have HZ := hidIt hz
  clear hz
  go_enter Try.func33, Try.ntmps33
  go_wp2_with (first | (go_at_call 71; refine (spec_rsize n _).mono ?_; rintro e wq ⟨rfl, rfl⟩; rw [HZ.out]) | (go_at_call 72; refine (spec_seq n p _ HZ.out).mono ?_; rintro e wq ⟨rfl, rfl⟩) | (go_at_call 47; refine (spec_load _ _).mono ?_; rintro e wq ⟨rfl, rfl⟩) | (go_at_call 48; refine (spec_cas _ _ _ _).mono ?_; rintro e wq ⟨rfl, rfl⟩) | (go_at_call 49; refine (spec_store _ _ _).mono ?_; rintro e wq ⟨rfl, rfl⟩))
  refine bodyPost_ret (v := .tuple #[.agg #[.int .i64 1, .int .i64 (rsq n p), .int .i64 0, .int .i64 0], .bool true]) (by simp [results, Try.results33, go_sem] <;> first | exact wrapEq _ | (rw [IntKind.wrap_i64]; omega)) rfl ⟨rfl, ?_⟩
  repeat (first | exact Below.refl _ _ | refine Below.setCell ?_ (by simp <;> omega) _ | refine Below.alloc ?_ (by simp <;> omega) _)
set_option maxHeartbeats 800000 in
set_option maxRecDepth 100000 in
theorem spec_riact_22 (n a x p cc cw r v : Int) (w : World) (hz : rzB n = true) :
    Calls Try.prog 33 #[.int .i64 n, .agg #[Value.int .i64 2, .int .i64 a, .int .i64 x, .int .i64 2, .int .i64 p, .int .i64 cc, .int .i64 cw, .int .i64 r, .int .i64 v, .bool false]] w fun e w' => e = .returned (.tuple #[.agg #[.int .i64 3, .int .i64 1, .int .i64 p, .int .i64 (wrap64 (p + 1))], .bool true]) ∧ Below w.heap.size w w' := by
  have hq := rsq_bd p hz
  have h16 : n ≤ 16 := (rzB_iff.1 hz).2
  obtain ⟨hq1, hq2⟩ := hq
  have hq3 : rsq n p ≤ 32 := by omega
  clear hq2 h16
  have HZ := hidIt hz
  clear hz
  go_enter Try.func33, Try.ntmps33
  go_wp2_with (first | (go_at_call 71; refine (spec_rsize n _).mono ?_; rintro e wq ⟨rfl, rfl⟩; rw [HZ.out]) | (go_at_call 72; refine (spec_seq n p _ HZ.out).mono ?_; rintro e wq ⟨rfl, rfl⟩) | (go_at_call 47; refine (spec_load _ _).mono ?_; rintro e wq ⟨rfl, rfl⟩) | (go_at_call 48; refine (spec_cas _ _ _ _).mono ?_; rintro e wq ⟨rfl, rfl⟩) | (go_at_call 49; refine (spec_store _ _ _).mono ?_; rintro e wq ⟨rfl, rfl⟩))
  refine bodyPost_ret (v := .tuple #[.agg #[.int .i64 3, .int .i64 1, .int .i64 p, .int .i64 (wrap64 (p + 1))], .bool true]) (by simp [results, Try.results33, go_sem] <;> first | exact wrapEq _ | (rw [IntKind.wrap_i64]; omega)) rfl ⟨rfl, ?_⟩
  repeat (first | exact Below.refl _ _ | refine Below.setCell ?_ (by simp <;> omega) _ | refine Below.alloc ?_ (by simp <;> omega) _)
set_option maxHeartbeats 800000 in
set_option maxRecDepth 100000 in
theorem spec_riact_23 (n a x p cc cw r v : Int) (w : World) (hz : rzB n = true) :
    Calls Try.prog 33 #[.int .i64 n, .agg #[Value.int .i64 2, .int .i64 a, .int .i64 x, .int .i64 3, .int .i64 p, .int .i64 cc, .int .i64 cw, .int .i64 r, .int .i64 v, .bool false]] w fun e w' => e = .returned (.tuple #[.agg #[.int .i64 1, .int .i64 (rsq n p + 1), .int .i64 0, .int .i64 0], .bool true]) ∧ Below w.heap.size w w' := by
  have hq := rsq_bd p hz
  have h16 : n ≤ 16 := (rzB_iff.1 hz).2
  obtain ⟨hq1, hq2⟩ := hq
  have hq3 : rsq n p ≤ 32 := by omega
  clear hq2 h16
  have HZ := hidIt hz
  clear hz
  go_enter Try.func33, Try.ntmps33
  go_wp2_with (first | (go_at_call 71; refine (spec_rsize n _).mono ?_; rintro e wq ⟨rfl, rfl⟩; rw [HZ.out]) | (go_at_call 72; refine (spec_seq n p _ HZ.out).mono ?_; rintro e wq ⟨rfl, rfl⟩) | (go_at_call 47; refine (spec_load _ _).mono ?_; rintro e wq ⟨rfl, rfl⟩) | (go_at_call 48; refine (spec_cas _ _ _ _).mono ?_; rintro e wq ⟨rfl, rfl⟩) | (go_at_call 49; refine (spec_store _ _ _).mono ?_; rintro e wq ⟨rfl, rfl⟩))
  refine bodyPost_ret (v := .tuple #[.agg #[.int .i64 1, .int .i64 (rsq n p + 1), .int .i64 0, .int .i64 0], .bool true]) (by simp [results, Try.results33, go_sem] <;> first | exact wrapEq _ | (rw [IntKind.wrap_i64]; omega)) rfl ⟨rfl, ?_⟩
  repeat (first | exact Below.refl _ _ | refine Below.setCell ?_ (by simp <;> omega) _ | refine Below.alloc ?_ (by simp <;> omega) _)
set_option maxHeartbeats 800000 in
set_option maxRecDepth 100000 in
theorem spec_riact_24 (n a x p cc cw r v : Int) (w : World) (hz : rzB n = true) :
    Calls Try.prog 33 #[.int .i64 n, .agg #[Value.int .i64 2, .int .i64 a, .int .i64 x, .int .i64 4, .int .i64 p, .int .i64 cc, .int .i64 cw, .int .i64 r, .int .i64 v, .bool false]] w fun e w' => e = .returned (.tuple #[.agg #[.int .i64 2, .int .i64 (rsq n p), .int .i64 (wrap64 (p + n)), .int .i64 0], .bool true]) ∧ Below w.heap.size w w' := by
  have hq := rsq_bd p hz
  have h16 : n ≤ 16 := (rzB_iff.1 hz).2
  obtain ⟨hq1, hq2⟩ := hq
  have hq3 : rsq n p ≤ 32 := by omega
  clear hq2 h16
  have HZ := hidIt hz
  clear hz
  go_enter Try.func33, Try.ntmps33
  go_wp2_with (go_at_call 71; refine (spec_rsize n _).mono ?_; rintro e wq ⟨rfl, rfl⟩; rw [HZ.out])
  generalize hW : World.alloc _ _ = W0
  have q1 : ∀ o, W0.cell? ⟨w.heap.size, o, none⟩ = #[Value.int .i64 2, .int .i64 a, .int .i64 x, .int .i64 4, .int .i64 p, .int .i64 cc, .int .i64 cw, .int .i64 r, .int .i64 v, .bool false][o]? := by rw [← hW]; intro o; simp [go_sem]
  have q2 : (∀ o, W0.cell? ⟨w.heap.size + 1, o, none⟩ = #[Value.int .i64 0, .int .i64 0, .int .i64 0, .int .i64 0][o]?) ∧ (∀ o, W0.frozen? ⟨w.heap.size + 1, o, none⟩ = false) := by rw [← hW]; exact ⟨fun o => by simp [go_sem], fun o => by simp [go_sem]⟩
  have qz : w.heap.size + 1 < W0.heap.size := by rw [← hW]; simp
  have qz0 : w.heap.size < W0.heap.size := by omega
  have B0 := hidIt (show Below w.heap.size w W0 by rw [← hW]; exact ((Below.refl _ _).alloc (Nat.le_refl _) _).alloc (by simp) _)
  have OO := hidIt (show ∀ W, Out (w.heap.size + 1) (w.heap.size + 2) W0 W → Out (w.heap.size + 1) (w.heap.size + 2) W0 W ∧ ∀ o, W.cell? ⟨w.heap.size, o, none⟩ = #[Value.int .i64 2, .int .i64 a, .int .i64 x, .int .i64 4, .int .i64 p, .int .i64 cc, .int .i64 cw, .int .i64 r, .int .i64 v, .bool false][o]? from fun W h => ⟨h, fun o => h.cell qz0 (.inl (by omega)) (q1 o)⟩)
  clear hW
  go_region_held3 (fun W => Out (w.heap.size + 1) (w.heap.size + 2) W0 W ∧ ∀ o, W.cell? ⟨w.heap.size, o, none⟩ = #[Value.int .i64 2, .int .i64 a, .int .i64 x, .int .i64 4, .int .i64 p, .int .i64 cc, .int .i64 cw, .int .i64 r, .int .i64 v, .bool false][o]?) (first | (go_split_ands; refine OO.out _ ?_; repeat (first | with_reducible assumption | with_reducible exact Out.refl _ _ _ | with_reducible refine Out.drew ?_ | with_reducible refine Out.alloc ?_ _ | with_reducible refine Out.setCell ?_ (by simp <;> omega) (by simp <;> omega)))) (first | (go_at_call 71; refine (spec_rsize n _).mono ?_; rintro e wq ⟨rfl, rfl⟩; rw [HZ.out]) | (go_at_call 72; refine (spec_seq n p _ HZ.out).mono ?_; rintro e wq ⟨rfl, rfl⟩) | (go_at_call 47; refine (spec_load _ _).mono ?_; rintro e wq ⟨rfl, rfl⟩) | (go_at_call 48; refine (spec_cas _ _ _ _).mono ?_; rintro e wq ⟨rfl, rfl⟩) | (go_at_call 49; refine (spec_store _ _ _).mono ?_; rintro e wq ⟨rfl, rfl⟩))
  all_goals
    rename_i hHeld
    have ho := hHeld.1
    clear hHeld OO
    go_wp2
    exact bodyPost_ret (v := .tuple #[.agg #[.int .i64 2, .int .i64 (rsq n p), .int .i64 (wrap64 (p + n)), .int .i64 0], .bool true]) (by simp [results, Try.results33, go_sem, q2.1, qz] <;> first | exact wrapEq _ | (rw [IntKind.wrap_i64]; omega)) rfl ⟨rfl, B0.out.trans (ho.below (by omega) (by omega))⟩
set_option maxRecDepth 100000 in
theorem spec_riact_no (n k a x pc p cc cw r v : Int) (d : Bool) (w : World) (h : d = true ∨ rzB n = false ∨ k < 1 ∨ 2 < k ∨ pc < 0 ∨ 4 < pc) :
    Calls Try.prog 33 #[.int .i64 n, .agg #[.int .i64 k, .int .i64 a, .int .i64 x, .int .i64 pc, .int .i64 p, .int .i64 cc, .int .i64 cw, .int .i64 r, .int .i64 v, .bool d]] w fun e w' => e = .returned (.tuple #[.agg #[.int .i64 0, .int .i64 0, .int .i64 0, .int .i64 0], .bool false]) ∧ Below w.heap.size w w' := by
  by_cases hd : d = true
  · subst hd
    clear h
    go_enter Try.func33, Try.ntmps33
    go_wp2
    refine bodyPost_ret (v := .tuple #[.agg #[.int .i64 0, .int .i64 0, .int .i64 0, .int .i64 0], .bool false]) (by simp [results, Try.results33, go_sem]) rfl ⟨rfl, ?_⟩
    repeat (first | exact Below.refl _ _ | refine Below.setCell ?_ (by simp <;> omega) _ | refine Below.alloc ?_ (by simp <;> omega) _)
  · have hd : d = false := by simpa using hd
    subst hd
    by_cases hz : rzB n = true
    · have HZ := hidIt hz
      have hk : k < 1 ∨ 2 < k ∨ pc < 0 ∨ 4 < pc := by
        rcases h with h | h | h
        · cases h
        · rw [hz] at h; cases h
        · exact h
      clear h hz
      by_cases g1 : k < 1
      · clear hk
        go_enter Try.func33, Try.ntmps33
        go_wp2_with (go_at_call 71; refine (spec_rsize n _).mono ?_; rintro e wq ⟨rfl, rfl⟩; rw [HZ.out])
        refine bodyPost_ret (v := .tuple #[.agg #[.int .i64 0, .int .i64 0, .int .i64 0, .int .i64 0], .bool false]) (by simp [results, Try.results33, go_sem]) rfl ⟨rfl, ?_⟩
        repeat (first | exact Below.refl _ _ | refine Below.setCell ?_ (by simp <;> omega) _ | refine Below.alloc ?_ (by simp <;> omega) _)
      · by_cases g2 : 2 < k
        · clear hk
          go_enter Try.func33, Try.ntmps33
          go_wp2_with (go_at_call 71; refine (spec_rsize n _).mono ?_; rintro e wq ⟨rfl, rfl⟩; rw [HZ.out])
          refine bodyPost_ret (v := .tuple #[.agg #[.int .i64 0, .int .i64 0, .int .i64 0, .int .i64 0], .bool false]) (by simp [results, Try.results33, go_sem]) rfl ⟨rfl, ?_⟩
          repeat (first | exact Below.refl _ _ | refine Below.setCell ?_ (by simp <;> omega) _ | refine Below.alloc ?_ (by simp <;> omega) _)
        · by_cases g3 : pc < 0
          · clear hk
            go_enter Try.func33, Try.ntmps33
            go_wp2_with (go_at_call 71; refine (spec_rsize n _).mono ?_; rintro e wq ⟨rfl, rfl⟩; rw [HZ.out])
            refine bodyPost_ret (v := .tuple #[.agg #[.int .i64 0, .int .i64 0, .int .i64 0, .int .i64 0], .bool false]) (by simp [results, Try.results33, go_sem]) rfl ⟨rfl, ?_⟩
            repeat (first | exact Below.refl _ _ | refine Below.setCell ?_ (by simp <;> omega) _ | refine Below.alloc ?_ (by simp <;> omega) _)
          · have g4 : 4 < pc := by omega
            clear hk
            go_enter Try.func33, Try.ntmps33
            go_wp2_with (go_at_call 71; refine (spec_rsize n _).mono ?_; rintro e wq ⟨rfl, rfl⟩; rw [HZ.out])
            refine bodyPost_ret (v := .tuple #[.agg #[.int .i64 0, .int .i64 0, .int .i64 0, .int .i64 0], .bool false]) (by simp [results, Try.results33, go_sem]) rfl ⟨rfl, ?_⟩
            repeat (first | exact Below.refl _ _ | refine Below.setCell ?_ (by simp <;> omega) _ | refine Below.alloc ?_ (by simp <;> omega) _)
    · have hz : rzB n = false := by simpa using hz
      have HZ := hidIt hz
      clear h hz
      go_enter Try.func33, Try.ntmps33
      go_wp2_with (go_at_call 71; refine (spec_rsize n _).mono ?_; rintro e wq ⟨rfl, rfl⟩; rw [HZ.out])
      refine bodyPost_ret (v := .tuple #[.agg #[.int .i64 0, .int .i64 0, .int .i64 0, .int .i64 0], .bool false]) (by simp [results, Try.results33, go_sem]) rfl ⟨rfl, ?_⟩
      repeat (first | exact Below.refl _ _ | refine Below.setCell ?_ (by simp <;> omega) _ | refine Below.alloc ?_ (by simp <;> omega) _)
theorem spec_riact (n : Int) (c : Cl) (w : World) :
    Calls Try.prog 33 #[.int .i64 n, .agg #[.int .i64 c.k, .int .i64 c.a, .int .i64 c.x, .int .i64 c.pc, .int .i64 c.p, .int .i64 c.c, .int .i64 c.w, .int .i64 c.r, .int .i64 c.v, .bool c.d]] w fun e w' => e = .returned (.tuple #[.agg #[.int .i64 (riAc n c).k, .int .i64 (riAc n c).t, .int .i64 (riAc n c).a, .int .i64 (riAc n c).b], .bool (riOk n c)]) ∧ Below w.heap.size w w' := by
  by_cases h : riOk n c = true
  · have e1 : riAc n c = riAcG n c.k c.a c.pc c.p := if_pos h
    rw [e1, h]
    obtain ⟨b0, b1, b2, b3, b4, b5, b6⟩ := riOk_bd h
    have hz : rzB n = true := rzB_iff.2 ⟨b1, b2⟩
    clear e1 h b1 b2
    obtain ⟨k, a, x, pc, p, cc, cw, r, v, d⟩ := c
    simp only at b0 b3 b4 b5 b6 ⊢
    subst b0
    obtain rfl | rfl : k = 1 ∨ k = 2 := by omega
    · obtain rfl | rfl | rfl | rfl | rfl : pc = 0 ∨ pc = 1 ∨ pc = 2 ∨ pc = 3 ∨ pc = 4 := by omega
      · exact spec_riact_10 n a x p cc cw r v w hz
      · exact spec_riact_11 n a x p cc cw r v w hz
      · exact spec_riact_12 n a x p cc cw r v w hz
      · exact spec_riact_13 n a x p cc cw r v w hz
      · exact spec_riact_14 n a x p cc cw r v w hz
    · obtain rfl | rfl | rfl | rfl | rfl : pc = 0 ∨ pc = 1 ∨ pc = 2 ∨ pc = 3 ∨ pc = 4 := by omega
      · exact spec_riact_20 n a x p cc cw r v w hz
      · exact spec_riact_21 n a x p cc cw r v w hz
      · exact spec_riact_22 n a x p cc cw r v w hz
      · exact spec_riact_23 n a x p cc cw r v w hz
      · exact spec_riact_24 n a x p cc cw r v w hz
  · have e1 : riAc n c = acZero := if_neg h
    have h : riOk n c = false := by simpa using h
    rw [e1, h]
    exact spec_riact_no n c.k c.a c.x c.pc c.p c.c c.w c.r c.v c.d w (riOk_no h)

end Go.Proofs.Ytomfdbglnedpcaa
