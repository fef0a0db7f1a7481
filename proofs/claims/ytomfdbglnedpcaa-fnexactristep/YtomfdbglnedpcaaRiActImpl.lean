/- A step of a ring's call, by the program: its act, and the method that takes what the act tells. -/
import Derived.Test.YtomfdbglnedpcaaRows
import Derived.WalkKit
import Derived.ProofKit
import Derived.OpenShut
import Derived.ShutString
import Derived.Test.YtomfdbglnedpcaaRiMod
import Derived.Test.YtomfdbglnedpcaaCallFns
import Derived.Test.YtomfdbglnedpcaaOutMoves
import Derived.Deep.RegionHeld3
import Derived.Laws.EntriesVeiled
namespace Go.Proofs.Ytomfdbglnedpcaa
open Go.ChangeShapes Go.WideShapes Go.ChangeAt Go.RowKit
set_option linter.unusedVariables false

set_option maxHeartbeats 800000 in
set_option maxRecDepth 100000 in
theorem impl_put0 (n k a x p cc cw r v : Int) (d : Bool) (B : Nat) (w : World) (hz : rzB n = true) (hB : B < w.heap.size) (hc : ∀ o, w.cell? ⟨B, o, none⟩ = #[Value.int .i64 k, .int .i64 a, .int .i64 x, .int .i64 0, .int .i64 p, .int .i64 cc, .int .i64 cw, .int .i64 r, .int .i64 v, .bool d][o]?) :
    Calls Try.prog 76 #[.int .i64 n, .pointer (some ⟨B, 0, none⟩)] w fun e w' => e = .returned (.tuple #[.agg #[.int .i64 1, .int .i64 0, .int .i64 0, .int .i64 0, .func (.func 95) #[.pointer (some ⟨B, 0, none⟩)] #[]], .bool true]) ∧ Below w.heap.size w w' := by
  have hmf : ∀ (fn : Fn) (first cap : Array Value) (w : World), (Instr.makeFunc fn first cap).run Try.prog w = .ok (.func fn first cap) w := fun _ _ _ _ => rfl
  have HZ := hidIt hz
  clear hz
  go_enter Try.func76, Try.ntmps76
  go_wp2_with fail
  refine bodyPost_ret (v := .tuple #[.agg #[.int .i64 1, .int .i64 0, .int .i64 0, .int .i64 0, .func (.func 95) #[.pointer (some ⟨B, 0, none⟩)] #[]], .bool true]) (by simp [results, Try.results76, go_sem]) rfl ⟨rfl, ?_⟩
  repeat (first | exact Below.refl _ _ | refine Below.setCell ?_ (by simp <;> omega) _ | refine Below.alloc ?_ (by simp <;> omega) _)
set_option maxHeartbeats 800000 in
set_option maxRecDepth 100000 in
theorem impl_put1 (n k a x p cc cw r v : Int) (d : Bool) (B : Nat) (w : World) (hz : rzB n = true) (hB : B < w.heap.size) (hc : ∀ o, w.cell? ⟨B, o, none⟩ = #[Value.int .i64 k, .int .i64 a, .int .i64 x, .int .i64 1, .int .i64 p, .int .i64 cc, .int .i64 cw, .int .i64 r, .int .i64 v, .bool d][o]?) :
    Calls Try.prog 76 #[.int .i64 n, .pointer (some ⟨B, 0, none⟩)] w fun e w' => e = .returned (.tuple #[.agg #[.int .i64 1, .int .i64 (rsq n p), .int .i64 0, .int .i64 0, .func (.func 97) #[.pointer (some ⟨B, 0, none⟩)] #[]], .bool true]) ∧ Below w.heap.size w w' := by
  have hmf : ∀ (fn : Fn) (first cap : Array Value) (w : World), (Instr.makeFunc fn first cap).run Try.prog w = .ok (.func fn first cap) w := fun _ _ _ _ => rfl
  have HZ := hidIt hz
  clear hz
  go_enter Try.func76, Try.ntmps76
  go_wp2_with (go_at_call 96; refine (impl_seq n p _ HZ.out).mono ?_; rintro e wq ⟨rfl, rfl⟩)
  refine bodyPost_ret (v := .tuple #[.agg #[.int .i64 1, .int .i64 (rsq n p), .int .i64 0, .int .i64 0, .func (.func 97) #[.pointer (some ⟨B, 0, none⟩)] #[]], .bool true]) (by simp [results, Try.results76, go_sem]) rfl ⟨rfl, ?_⟩
  repeat (first | exact Below.refl _ _ | refine Below.setCell ?_ (by simp <;> omega) _ | refine Below.alloc ?_ (by simp <;> omega) _)
set_option maxHeartbeats 800000 in
set_option maxRecDepth 100000 in
theorem impl_put2 (n k a x p cc cw r v : Int) (d : Bool) (B : Nat) (w : World) (hz : rzB n = true) (hB : B < w.heap.size) (hc : ∀ o, w.cell? ⟨B, o, none⟩ = #[Value.int .i64 k, .int .i64 a, .int .i64 x, .int .i64 2, .int .i64 p, .int .i64 cc, .int .i64 cw, .int .i64 r, .int .i64 v, .bool d][o]?) :
    Calls Try.prog 76 #[.int .i64 n, .pointer (some ⟨B, 0, none⟩)] w fun e w' => e = .returned (.tuple #[.agg #[.int .i64 3, .int .i64 0, .int .i64 p, .int .i64 (wrap64 (p + 1)), .func (.func 98) #[.pointer (some ⟨B, 0, none⟩)] #[]], .bool true]) ∧ Below w.heap.size w w' := by
  have hmf : ∀ (fn : Fn) (first cap : Array Value) (w : World), (Instr.makeFunc fn first cap).run Try.prog w = .ok (.func fn first cap) w := fun _ _ _ _ => rfl
  have HZ := hidIt hz
  clear hz
  go_enter Try.func76, Try.ntmps76
  go_wp2_with fail
  generalize hW : World.alloc _ _ = W0
  have q1 : ∀ o, W0.cell? ⟨B, o, none⟩ = #[Value.int .i64 k, .int .i64 a, .int .i64 x, .int .i64 2, .int .i64 p, .int .i64 cc, .int .i64 cw, .int .i64 r, .int .i64 v, .bool d][o]? := by rw [← hW]; intro o; rw [World.cell?_alloc_lt _ _ _ (by simpa using hB)]; exact hc o
  have q2 : (∀ o, W0.cell? ⟨w.heap.size, o, none⟩ = #[Value.int .i64 0, .int .i64 0, .int .i64 0, .int .i64 0, .nilFunc][o]?) ∧ (∀ o, W0.frozen? ⟨w.heap.size, o, none⟩ = false) := by rw [← hW]; exact ⟨fun o => by simp [go_sem], fun o => by simp [go_sem]⟩
  have qz : w.heap.size < W0.heap.size := by rw [← hW]; simp
  have B0 := hidIt (show Below w.heap.size w W0 by rw [← hW]; exact (Below.refl _ _).alloc (Nat.le_refl _) _)
  have hn : B ≠ w.heap.size := by omega
  have hn2 : ¬ w.heap.size = B := by omega
  have hB0 : B < W0.heap.size := by omega
  have OO := hidIt (show ∀ W, Out w.heap.size (w.heap.size + 1) W0 W → Out w.heap.size (w.heap.size + 1) W0 W ∧ ∀ o, W.cell? ⟨B, o, none⟩ = #[Value.int .i64 k, .int .i64 a, .int .i64 x, .int .i64 2, .int .i64 p, .int .i64 cc, .int .i64 cw, .int .i64 r, .int .i64 v, .bool d][o]? from fun W h => ⟨h, fun o => h.cell hB0 (.inl hB) (q1 o)⟩)
  clear hW hc
  go_region_held3 (fun W => Out w.heap.size (w.heap.size + 1) W0 W ∧ ∀ o, W.cell? ⟨B, o, none⟩ = #[Value.int .i64 k, .int .i64 a, .int .i64 x, .int .i64 2, .int .i64 p, .int .i64 cc, .int .i64 cw, .int .i64 r, .int .i64 v, .bool d][o]?) (first | (go_split_ands; refine OO.out _ ?_; repeat (first | with_reducible assumption | with_reducible exact Out.refl _ _ _ | with_reducible refine Out.drew ?_ | with_reducible refine Out.setCell ?_ (by simp <;> omega) (by simp <;> omega)))) (first | fail)
  all_goals
    rename_i hHeld
    have ho := hHeld.1
    clear hHeld OO
    go_wp2
    exact bodyPost_ret (v := .tuple #[.agg #[.int .i64 3, .int .i64 0, .int .i64 p, .int .i64 (wrap64 (p + 1)), .func (.func 98) #[.pointer (some ⟨B, 0, none⟩)] #[]], .bool true]) (by simp [results, Try.results76, go_sem, q2.1] <;> exact wrapEq _) rfl ⟨rfl, B0.out.trans (ho.below (Nat.le_refl _) (by omega))⟩
set_option maxHeartbeats 800000 in
set_option maxRecDepth 100000 in
theorem impl_put3 (n k a x p cc cw r v : Int) (d : Bool) (B : Nat) (w : World) (hz : rzB n = true) (hB : B < w.heap.size) (hc : ∀ o, w.cell? ⟨B, o, none⟩ = #[Value.int .i64 k, .int .i64 a, .int .i64 x, .int .i64 3, .int .i64 p, .int .i64 cc, .int .i64 cw, .int .i64 r, .int .i64 v, .bool d][o]?) :
    Calls Try.prog 76 #[.int .i64 n, .pointer (some ⟨B, 0, none⟩)] w fun e w' => e = .returned (.tuple #[.agg #[.int .i64 2, .int .i64 (rsq n p + 1), .int .i64 a, .int .i64 0, .func (.func 91) #[.pointer (some ⟨B, 0, none⟩)] #[]], .bool true]) ∧ Below w.heap.size w w' := by
  have hmf : ∀ (fn : Fn) (first cap : Array Value) (w : World), (Instr.makeFunc fn first cap).run Try.prog w = .ok (.func fn first cap) w := fun _ _ _ _ => rfl
  have HZ := hidIt hz
  clear hz
  go_enter Try.func76, Try.ntmps76
  go_wp2_with fail
  generalize hW : World.alloc _ _ = W0
  have q1 : ∀ o, W0.cell? ⟨B, o, none⟩ = #[Value.int .i64 k, .int .i64 a, .int .i64 x, .int .i64 3, .int .i64 p, .int .i64 cc, .int .i64 cw, .int .i64 r, .int .i64 v, .bool d][o]? := by rw [← hW]; intro o; rw [World.cell?_alloc_lt _ _ _ (by simpa using hB)]; exact hc o
  have q2 : (∀ o, W0.cell? ⟨w.heap.size, o, none⟩ = #[Value.int .i64 0, .int .i64 0, .int .i64 0, .int .i64 0, .nilFunc][o]?) ∧ (∀ o, W0.frozen? ⟨w.heap.size, o, none⟩ = false) := by rw [← hW]; exact ⟨fun o => by simp [go_sem], fun o => by simp [go_sem]⟩
  have qz : w.heap.size < W0.heap.size := by rw [← hW]; simp
  have B0 := hidIt (show Below w.heap.size w W0 by rw [← hW]; exact (Below.refl _ _).alloc (Nat.le_refl _) _)
  have hn : B ≠ w.heap.size := by omega
  have hn2 : ¬ w.heap.size = B := by omega
  have hB0 : B < W0.heap.size := by omega
  have OO := hidIt (show ∀ W, Out w.heap.size (w.heap.size + 1) W0 W → Out w.heap.size (w.heap.size + 1) W0 W ∧ ∀ o, W.cell? ⟨B, o, none⟩ = #[Value.int .i64 k, .int .i64 a, .int .i64 x, .int .i64 3, .int .i64 p, .int .i64 cc, .int .i64 cw, .int .i64 r, .int .i64 v, .bool d][o]? from fun W h => ⟨h, fun o => h.cell hB0 (.inl hB) (q1 o)⟩)
  clear hW hc
  go_region_held3 (fun W => Out w.heap.size (w.heap.size + 1) W0 W ∧ ∀ o, W.cell? ⟨B, o, none⟩ = #[Value.int .i64 k, .int .i64 a, .int .i64 x, .int .i64 3, .int .i64 p, .int .i64 cc, .int .i64 cw, .int .i64 r, .int .i64 v, .bool d][o]?) (first | (go_split_ands; refine OO.out _ ?_; repeat (first | with_reducible assumption | with_reducible exact Out.refl _ _ _ | with_reducible refine Out.drew ?_ | with_reducible refine Out.setCell ?_ (by simp <;> omega) (by simp <;> omega)))) (first | (go_at_call 99; refine (impl_value n p _ HZ.out).mono ?_; rintro e wq ⟨rfl, rfl⟩))
  all_goals
    rename_i hHeld
    have ho := hHeld.1
    clear hHeld OO
    go_wp2
    exact bodyPost_ret (v := .tuple #[.agg #[.int .i64 2, .int .i64 (rsq n p + 1), .int .i64 a, .int .i64 0, .func (.func 91) #[.pointer (some ⟨B, 0, none⟩)] #[]], .bool true]) (by simp [results, Try.results76, go_sem, q2.1] <;> exact wrapEq _) rfl ⟨rfl, B0.out.trans (ho.below (Nat.le_refl _) (by omega))⟩
set_option maxHeartbeats 800000 in
set_option maxRecDepth 100000 in
theorem impl_put4 (n k a x p cc cw r v : Int) (d : Bool) (B : Nat) (w : World) (hz : rzB n = true) (hB : B < w.heap.size) (hc : ∀ o, w.cell? ⟨B, o, none⟩ = #[Value.int .i64 k, .int .i64 a, .int .i64 x, .int .i64 4, .int .i64 p, .int .i64 cc, .int .i64 cw, .int .i64 r, .int .i64 v, .bool d][o]?) :
    Calls Try.prog 76 #[.int .i64 n, .pointer (some ⟨B, 0, none⟩)] w fun e w' => e = .returned (.tuple #[.agg #[.int .i64 2, .int .i64 (rsq n p), .int .i64 (wrap64 (p + 1)), .int .i64 0, .func (.func 100) #[.pointer (some ⟨B, 0, none⟩)] #[]], .bool true]) ∧ Below w.heap.size w w' := by
  have hmf : ∀ (fn : Fn) (first cap : Array Value) (w : World), (Instr.makeFunc fn first cap).run Try.prog w = .ok (.func fn first cap) w := fun _ _ _ _ => rfl
  have HZ := hidIt hz
  clear hz
  go_enter Try.func76, Try.ntmps76
  go_wp2_with fail
  generalize hW : World.alloc _ _ = W0
  have q1 : ∀ o, W0.cell? ⟨B, o, none⟩ = #[Value.int .i64 k, .int .i64 a, .int .i64 x, .int .i64 4, .int .i64 p, .int .i64 cc, .int .i64 cw, .int .i64 r, .int .i64 v, .bool d][o]? := by rw [← hW]; intro o; rw [World.cell?_alloc_lt _ _ _ (by simpa using hB)]; exact hc o
  have q2 : (∀ o, W0.cell? ⟨w.heap.size, o, none⟩ = #[Value.int .i64 0, .int .i64 0, .int .i64 0, .int .i64 0, .nilFunc][o]?) ∧ (∀ o, W0.frozen? ⟨w.heap.size, o, none⟩ = false) := by rw [← hW]; exact ⟨fun o => by simp [go_sem], fun o => by simp [go_sem]⟩
  have qz : w.heap.size < W0.heap.size := by rw [← hW]; simp
  have B0 := hidIt (show Below w.heap.size w W0 by rw [← hW]; exact (Below.refl _ _).alloc (Nat.le_refl _) _)
  have hn : B ≠ w.heap.size := by omega
  have hn2 : ¬ w.heap.size = B := by omega
  have hB0 : B < W0.heap.size := by omega
  have OO := hidIt (show ∀ W, Out w.heap.size (w.heap.size + 1) W0 W → Out w.heap.size (w.heap.size + 1) W0 W ∧ ∀ o, W.cell? ⟨B, o, none⟩ = #[Value.int .i64 k, .int .i64 a, .int .i64 x, .int .i64 4, .int .i64 p, .int .i64 cc, .int .i64 cw, .int .i64 r, .int .i64 v, .bool d][o]? from fun W h => ⟨h, fun o => h.cell hB0 (.inl hB) (q1 o)⟩)
  clear hW hc
  go_region_held3 (fun W => Out w.heap.size (w.heap.size + 1) W0 W ∧ ∀ o, W.cell? ⟨B, o, none⟩ = #[Value.int .i64 k, .int .i64 a, .int .i64 x, .int .i64 4, .int .i64 p, .int .i64 cc, .int .i64 cw, .int .i64 r, .int .i64 v, .bool d][o]?) (first | (go_split_ands; refine OO.out _ ?_; repeat (first | with_reducible assumption | with_reducible exact Out.refl _ _ _ | with_reducible refine Out.drew ?_ | with_reducible refine Out.setCell ?_ (by simp <;> omega) (by simp <;> omega)))) (first | (go_at_call 96; refine (impl_seq n p _ HZ.out).mono ?_; rintro e wq ⟨rfl, rfl⟩))
  all_goals
    rename_i hHeld
    have ho := hHeld.1
    clear hHeld OO
    go_wp2
    exact bodyPost_ret (v := .tuple #[.agg #[.int .i64 2, .int .i64 (rsq n p), .int .i64 (wrap64 (p + 1)), .int .i64 0, .func (.func 100) #[.pointer (some ⟨B, 0, none⟩)] #[]], .bool true]) (by simp [results, Try.results76, go_sem, q2.1] <;> exact wrapEq _) rfl ⟨rfl, B0.out.trans (ho.below (Nat.le_refl _) (by omega))⟩
set_option maxHeartbeats 800000 in
set_option maxRecDepth 100000 in
theorem impl_get0 (n k a x p cc cw r v : Int) (d : Bool) (B : Nat) (w : World) (hz : rzB n = true) (hB : B < w.heap.size) (hc : ∀ o, w.cell? ⟨B, o, none⟩ = #[Value.int .i64 k, .int .i64 a, .int .i64 x, .int .i64 0, .int .i64 p, .int .i64 cc, .int .i64 cw, .int .i64 r, .int .i64 v, .bool d][o]?) :
    Calls Try.prog 77 #[.int .i64 n, .pointer (some ⟨B, 0, none⟩)] w fun e w' => e = .returned (.tuple #[.agg #[.int .i64 1, .int .i64 1, .int .i64 0, .int .i64 0, .func (.func 95) #[.pointer (some ⟨B, 0, none⟩)] #[]], .bool true]) ∧ Below w.heap.size w w' := by
  have hmf : ∀ (fn : Fn) (first cap : Array Value) (w : World), (Instr.makeFunc fn first cap).run Try.prog w = .ok (.func fn first cap) w := fun _ _ _ _ => rfl
  have HZ := hidIt hz
  clear hz
  go_enter Try.func77, Try.ntmps77
  go_wp2_with fail
  refine bodyPost_ret (v := .tuple #[.agg #[.int .i64 1, .int .i64 1, .int .i64 0, .int .i64 0, .func (.func 95) #[.pointer (some ⟨B, 0, none⟩)] #[]], .bool true]) (by simp [results, Try.results77, go_sem]) rfl ⟨rfl, ?_⟩
  repeat (first | exact Below.refl _ _ | refine Below.setCell ?_ (by simp <;> omega) _ | refine Below.alloc ?_ (by simp <;> omega) _)
set_option maxHeartbeats 800000 in
set_option maxRecDepth 100000 in
theorem impl_get1 (n k a x p cc cw r v : Int) (d : Bool) (B : Nat) (w : World) (hz : rzB n = true) (hB : B < w.heap.size) (hc : ∀ o, w.cell? ⟨B, o, none⟩ = #[Value.int .i64 k, .int .i64 a, .int .i64 x, .int .i64 1, .int .i64 p, .int .i64 cc, .int .i64 cw, .int .i64 r, .int .i64 v, .bool d][o]?) :
    Calls Try.prog 77 #[.int .i64 n, .pointer (some ⟨B, 0, none⟩)] w fun e w' => e = .returned (.tuple #[.agg #[.int .i64 1, .int .i64 (rsq n p), .int .i64 0, .int .i64 0, .func (.func 101) #[.pointer (some ⟨B, 0, none⟩)] #[]], .bool true]) ∧ Below w.heap.size w w' := by
  have hmf : ∀ (fn : Fn) (first cap : Array Value) (w : World), (Instr.makeFunc fn first cap).run Try.prog w = .ok (.func fn first cap) w := fun _ _ _ _ => rfl
  have HZ := hidIt hz
  clear hz
  go_enter Try.func77, Try.ntmps77
  go_wp2_with (go_at_call 96; refine (impl_seq n p _ HZ.out).mono ?_; rintro e wq ⟨rfl, rfl⟩)
  refine bodyPost_ret (v := .tuple #[.agg #[.int .i64 1, .int .i64 (rsq n p), .int .i64 0, .int .i64 0, .func (.func 101) #[.pointer (some ⟨B, 0, none⟩)] #[]], .bool true]) (by simp [results, Try.results77, go_sem]) rfl ⟨rfl, ?_⟩
  repeat (first | exact Below.refl _ _ | refine Below.setCell ?_ (by simp <;> omega) _ | refine Below.alloc ?_ (by simp <;> omega) _)
set_option maxHeartbeats 800000 in
set_option maxRecDepth 100000 in
theorem impl_get2 (n k a x p cc cw r v : Int) (d : Bool) (B : Nat) (w : World) (hz : rzB n = true) (hB : B < w.heap.size) (hc : ∀ o, w.cell? ⟨B, o, none⟩ = #[Value.int .i64 k, .int .i64 a, .int .i64 x, .int .i64 2, .int .i64 p, .int .i64 cc, .int .i64 cw, .int .i64 r, .int .i64 v, .bool d][o]?) :
    Calls Try.prog 77 #[.int .i64 n, .pointer (some ⟨B, 0, none⟩)] w fun e w' => e = .returned (.tuple #[.agg #[.int .i64 3, .int .i64 1, .int .i64 p, .int .i64 (wrap64 (p + 1)), .func (.func 98) #[.pointer (some ⟨B, 0, none⟩)] #[]], .bool true]) ∧ Below w.heap.size w w' := by
  have hmf : ∀ (fn : Fn) (first cap : Array Value) (w : World), (Instr.makeFunc fn first cap).run Try.prog w = .ok (.func fn first cap) w := fun _ _ _ _ => rfl
  have HZ := hidIt hz
  clear hz
  go_enter Try.func77, Try.ntmps77
  go_wp2_with fail
  generalize hW : World.alloc _ _ = W0
  have q1 : ∀ o, W0.cell? ⟨B, o, none⟩ = #[Value.int .i64 k, .int .i64 a, .int .i64 x, .int .i64 2, .int .i64 p, .int .i64 cc, .int .i64 cw, .int .i64 r, .int .i64 v, .bool d][o]? := by rw [← hW]; intro o; rw [World.cell?_alloc_lt _ _ _ (by simpa using hB)]; exact hc o
  have q2 : (∀ o, W0.cell? ⟨w.heap.size, o, none⟩ = #[Value.int .i64 0, .int .i64 0, .int .i64 0, .int .i64 0, .nilFunc][o]?) ∧ (∀ o, W0.frozen? ⟨w.heap.size, o, none⟩ = false) := by rw [← hW]; exact ⟨fun o => by simp [go_sem], fun o => by simp [go_sem]⟩
  have qz : w.heap.size < W0.heap.size := by rw [← hW]; simp
  have B0 := hidIt (show Below w.heap.size w W0 by rw [← hW]; exact (Below.refl _ _).alloc (Nat.le_refl _) _)
  have hn : B ≠ w.heap.size := by omega
  have hn2 : ¬ w.heap.size = B := by omega
  have hB0 : B < W0.heap.size := by omega
  have OO := hidIt (show ∀ W, Out w.heap.size (w.heap.size + 1) W0 W → Out w.heap.size (w.heap.size + 1) W0 W ∧ ∀ o, W.cell? ⟨B, o, none⟩ = #[Value.int .i64 k, .int .i64 a, .int .i64 x, .int .i64 2, .int .i64 p, .int .i64 cc, .int .i64 cw, .int .i64 r, .int .i64 v, .bool d][o]? from fun W h => ⟨h, fun o => h.cell hB0 (.inl hB) (q1 o)⟩)
  clear hW hc
  go_region_held3 (fun W => Out w.heap.size (w.heap.size + 1) W0 W ∧ ∀ o, W.cell? ⟨B, o, none⟩ = #[Value.int .i64 k, .int .i64 a, .int .i64 x, .int .i64 2, .int .i64 p, .int .i64 cc, .int .i64 cw, .int .i64 r, .int .i64 v, .bool d][o]?) (first | (go_split_ands; refine OO.out _ ?_; repeat (first | with_reducible assumption | with_reducible exact Out.refl _ _ _ | with_reducible refine Out.drew ?_ | with_reducible refine Out.setCell ?_ (by simp <;> omega) (by simp <;> omega)))) (first | fail)
  all_goals
    rename_i hHeld
    have ho := hHeld.1
    clear hHeld OO
    go_wp2
    exact bodyPost_ret (v := .tuple #[.agg #[.int .i64 3, .int .i64 1, .int .i64 p, .int .i64 (wrap64 (p + 1)), .func (.func 98) #[.pointer (some ⟨B, 0, none⟩)] #[]], .bool true]) (by simp [results, Try.results77, go_sem, q2.1] <;> exact wrapEq _) rfl ⟨rfl, B0.out.trans (ho.below (Nat.le_refl _) (by omega))⟩
set_option maxHeartbeats 800000 in
set_option maxRecDepth 100000 in
theorem impl_get3 (n k a x p cc cw r v : Int) (d : Bool) (B : Nat) (w : World) (hz : rzB n = true) (hB : B < w.heap.size) (hc : ∀ o, w.cell? ⟨B, o, none⟩ = #[Value.int .i64 k, .int .i64 a, .int .i64 x, .int .i64 3, .int .i64 p, .int .i64 cc, .int .i64 cw, .int .i64 r, .int .i64 v, .bool d][o]?) :
    Calls Try.prog 77 #[.int .i64 n, .pointer (some ⟨B, 0, none⟩)] w fun e w' => e = .returned (.tuple #[.agg #[.int .i64 1, .int .i64 (rsq n p + 1), .int .i64 0, .int .i64 0, .func (.func 102) #[.pointer (some ⟨B, 0, none⟩)] #[]], .bool true]) ∧ Below w.heap.size w w' := by
  have hmf : ∀ (fn : Fn) (first cap : Array Value) (w : World), (Instr.makeFunc fn first cap).run Try.prog w = .ok (.func fn first cap) w := fun _ _ _ _ => rfl
  have HZ := hidIt hz
  clear hz
  go_enter Try.func77, Try.ntmps77
  go_wp2_with (go_at_call 99; refine (impl_value n p _ HZ.out).mono ?_; rintro e wq ⟨rfl, rfl⟩)
  refine bodyPost_ret (v := .tuple #[.agg #[.int .i64 1, .int .i64 (rsq n p + 1), .int .i64 0, .int .i64 0, .func (.func 102) #[.pointer (some ⟨B, 0, none⟩)] #[]], .bool true]) (by simp [results, Try.results77, go_sem]) rfl ⟨rfl, ?_⟩
  repeat (first | exact Below.refl _ _ | refine Below.setCell ?_ (by simp <;> omega) _ | refine Below.alloc ?_ (by simp <;> omega) _)
set_option maxHeartbeats 800000 in
set_option maxRecDepth 100000 in
theorem impl_get4 (n k a x p cc cw r v : Int) (d : Bool) (B : Nat) (w : World) (hz : rzB n = true) (hB : B < w.heap.size) (hc : ∀ o, w.cell? ⟨B, o, none⟩ = #[Value.int .i64 k, .int .i64 a, .int .i64 x, .int .i64 4, .int .i64 p, .int .i64 cc, .int .i64 cw, .int .i64 r, .int .i64 v, .bool d][o]?) :
    Calls Try.prog 77 #[.int .i64 n, .pointer (some ⟨B, 0, none⟩)] w fun e w' => e = .returned (.tuple #[.agg #[.int .i64 2, .int .i64 (rsq n p), .int .i64 (wrap64 (p + n)), .int .i64 0, .func (.func 100) #[.pointer (some ⟨B, 0, none⟩)] #[]], .bool true]) ∧ Below w.heap.size w w' := by
  have hmf : ∀ (fn : Fn) (first cap : Array Value) (w : World), (Instr.makeFunc fn first cap).run Try.prog w = .ok (.func fn first cap) w := fun _ _ _ _ => rfl
  have HZ := hidIt hz
  clear hz
  go_enter Try.func77, Try.ntmps77
  go_wp2_with fail
  generalize hW : World.alloc _ _ = W0
  have q1 : ∀ o, W0.cell? ⟨B, o, none⟩ = #[Value.int .i64 k, .int .i64 a, .int .i64 x, .int .i64 4, .int .i64 p, .int .i64 cc, .int .i64 cw, .int .i64 r, .int .i64 v, .bool d][o]? := by rw [← hW]; intro o; rw [World.cell?_alloc_lt _ _ _ (by simpa using hB)]; exact hc o
  have q2 : (∀ o, W0.cell? ⟨w.heap.size, o, none⟩ = #[Value.int .i64 0, .int .i64 0, .int .i64 0, .int .i64 0, .nilFunc][o]?) ∧ (∀ o, W0.frozen? ⟨w.heap.size, o, none⟩ = false) := by rw [← hW]; exact ⟨fun o => by simp [go_sem], fun o => by simp [go_sem]⟩
  have qz : w.heap.size < W0.heap.size := by rw [← hW]; simp
  have B0 := hidIt (show Below w.heap.size w W0 by rw [← hW]; exact (Below.refl _ _).alloc (Nat.le_refl _) _)
  have hn : B ≠ w.heap.size := by omega
  have hn2 : ¬ w.heap.size = B := by omega
  have hB0 : B < W0.heap.size := by omega
  have OO := hidIt (show ∀ W, Out w.heap.size (w.heap.size + 1) W0 W → Out w.heap.size (w.heap.size + 1) W0 W ∧ ∀ o, W.cell? ⟨B, o, none⟩ = #[Value.int .i64 k, .int .i64 a, .int .i64 x, .int .i64 4, .int .i64 p, .int .i64 cc, .int .i64 cw, .int .i64 r, .int .i64 v, .bool d][o]? from fun W h => ⟨h, fun o => h.cell hB0 (.inl hB) (q1 o)⟩)
  clear hW hc
  go_region_held3 (fun W => Out w.heap.size (w.heap.size + 1) W0 W ∧ ∀ o, W.cell? ⟨B, o, none⟩ = #[Value.int .i64 k, .int .i64 a, .int .i64 x, .int .i64 4, .int .i64 p, .int .i64 cc, .int .i64 cw, .int .i64 r, .int .i64 v, .bool d][o]?) (first | (go_split_ands; refine OO.out _ ?_; repeat (first | with_reducible assumption | with_reducible exact Out.refl _ _ _ | with_reducible refine Out.drew ?_ | with_reducible refine Out.setCell ?_ (by simp <;> omega) (by simp <;> omega)))) (first | (go_at_call 96; refine (impl_seq n p _ HZ.out).mono ?_; rintro e wq ⟨rfl, rfl⟩))
  all_goals
    rename_i hHeld
    have ho := hHeld.1
    clear hHeld OO
    go_wp2
    exact bodyPost_ret (v := .tuple #[.agg #[.int .i64 2, .int .i64 (rsq n p), .int .i64 (wrap64 (p + n)), .int .i64 0, .func (.func 100) #[.pointer (some ⟨B, 0, none⟩)] #[]], .bool true]) (by simp [results, Try.results77, go_sem, q2.1] <;> exact wrapEq _) rfl ⟨rfl, B0.out.trans (ho.below (Nat.le_refl _) (by omega))⟩

end Go.Proofs.Ytomfdbglnedpcaa
