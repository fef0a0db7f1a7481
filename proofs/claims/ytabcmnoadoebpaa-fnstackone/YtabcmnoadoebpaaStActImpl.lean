/- The act of a step of a stack's call, by the program. -/
import Derived.Test.YtabcmnoadoebpaaRows
import Derived.WalkKit
import Derived.ProofKit
import Derived.OpenShut
import Derived.ShutString
import Derived.Test.YtabcmnoadoebpaaStackImpl3
import Derived.Test.YtabcmnoadoebpaaJumpPlain
import Derived.Test.YtabcmnoadoebpaaOutMoves
import Derived.Deep.RegionHeld3
namespace Go.Proofs.Ytabcmnoadoebpaa
open Go.ChangeShapes Go.WideShapes Go.ChangeAt Go.RowKit
set_option linter.unusedVariables false

set_option maxHeartbeats 1600000 in
set_option maxRecDepth 100000 in
theorem impl_pushact_no (n k a x pc p cc cw r v : Int) (d : Bool) (w : World) (h : plcB n a = false) :
    Calls Try.prog 55 #[.int .i64 n, .agg #[.int .i64 k, .int .i64 a, .int .i64 x, .int .i64 pc, .int .i64 p, .int .i64 cc, .int .i64 cw, .int .i64 r, .int .i64 v, .bool d]] w fun e w' => e = .returned (.tuple #[.agg #[.int .i64 0, .int .i64 0, .int .i64 0, .int .i64 0], .bool false]) ∧ Below w.heap.size w w' := by
  go_enter Try.func55, Try.ntmps55
  go_wp2
  refine wp_scope_hops 1 fun C HC => ?_
  go_wp2_with fail
  refine (impl_isplace n a _).mono ?_
  rintro e w1 ⟨rfl, rfl⟩
  rw [h]
  go_wp2
  try rw [hop_ret]
  exact bodyPost_ret (v := .tuple #[.agg #[.int .i64 0, .int .i64 0, .int .i64 0, .int .i64 0], .bool false]) (by simp [results, Try.results55, go_sem]) rfl ⟨rfl, by repeat (first | exact Below.refl _ _ | refine Below.setCell ?_ (by simp <;> omega) _ | refine Below.alloc ?_ (by simp <;> omega) _)⟩
set_option maxHeartbeats 1600000 in
set_option maxRecDepth 100000 in
theorem impl_pushact_bad (n k a x pc p cc cw r v : Int) (d : Bool) (w : World) (h : plcB n a = true) (c0 : (pc == 0) = false) (c1 : (pc == 1) = false) (c2 : (pc == 2) = false) :
    Calls Try.prog 55 #[.int .i64 n, .agg #[.int .i64 k, .int .i64 a, .int .i64 x, .int .i64 pc, .int .i64 p, .int .i64 cc, .int .i64 cw, .int .i64 r, .int .i64 v, .bool d]] w fun e w' => e = .returned (.tuple #[.agg #[.int .i64 0, .int .i64 0, .int .i64 0, .int .i64 0], .bool false]) ∧ Below w.heap.size w w' := by
  go_enter Try.func55, Try.ntmps55
  go_wp2
  refine wp_scope_hops 1 fun C HC => ?_
  go_wp2_with fail
  refine (impl_isplace n a _).mono ?_
  rintro e w1 ⟨rfl, rfl⟩
  rw [h]
  go_wp2
  try rw [hop_ret]
  exact bodyPost_ret (v := .tuple #[.agg #[.int .i64 0, .int .i64 0, .int .i64 0, .int .i64 0], .bool false]) (by simp [results, Try.results55, go_sem]) rfl ⟨rfl, by repeat (first | exact Below.refl _ _ | refine Below.setCell ?_ (by simp <;> omega) _ | refine Below.alloc ?_ (by simp <;> omega) _)⟩
set_option maxHeartbeats 1600000 in
set_option maxRecDepth 100000 in
theorem impl_pushact_0 (n k a x p cc cw r v : Int) (d : Bool) (w : World) (h : plcB n a = true) :
    Calls Try.prog 55 #[.int .i64 n, .agg #[.int .i64 k, .int .i64 a, .int .i64 x, .int .i64 0, .int .i64 p, .int .i64 cc, .int .i64 cw, .int .i64 r, .int .i64 v, .bool d]] w fun e w' => e = .returned (.tuple #[.agg #[.int .i64 1, .int .i64 0, .int .i64 0, .int .i64 0], .bool true]) ∧ Below w.heap.size w w' := by
  go_enter Try.func55, Try.ntmps55
  go_wp2
  refine wp_scope_hops 1 fun C HC => ?_
  go_wp2_with fail
  refine (impl_isplace n a _).mono ?_
  rintro e w1 ⟨rfl, rfl⟩
  rw [h]
  go_wp2
  go_step3
  refine hop_goto HC rfl ?_
  go_wp2
  try rw [hop_ret]
  exact bodyPost_ret (v := .tuple #[.agg #[.int .i64 1, .int .i64 0, .int .i64 0, .int .i64 0], .bool true]) (by simp [results, Try.results55, go_sem]) rfl ⟨rfl, by repeat (first | exact Below.refl _ _ | refine Below.setCell ?_ (by simp <;> omega) _ | refine Below.alloc ?_ (by simp <;> omega) _)⟩
set_option maxHeartbeats 1600000 in
set_option maxRecDepth 100000 in
theorem impl_pushact_1 (n k a x p cc cw r v : Int) (d : Bool) (w : World) (h : plcB n a = true) (a1 : 0 ≤ a) (a2 : a ≤ 16) (l : -9223372036854775808 ≤ cw) (u : cw ≤ 9223372036854775807) :
    Calls Try.prog 55 #[.int .i64 n, .agg #[.int .i64 k, .int .i64 a, .int .i64 x, .int .i64 1, .int .i64 p, .int .i64 cc, .int .i64 cw, .int .i64 r, .int .i64 v, .bool d]] w fun e w' => e = .returned (.tuple #[.agg #[.int .i64 2, .int .i64 (1 + a), .int .i64 (unI cw), .int .i64 0], .bool true]) ∧ Below w.heap.size w w' := by
  go_enter Try.func55, Try.ntmps55
  go_wp2
  refine wp_scope_hops 1 fun C HC => ?_
  go_wp2_with fail
  refine (impl_isplace n a _).mono ?_
  rintro e w1 ⟨rfl, rfl⟩
  rw [h]
  go_wp2
  go_step3
  refine hop_goto HC rfl ?_
  go_wp2_with fail
  generalize hW : World.alloc _ _ = W3
  have f1 : W3.cell? ⟨w.heap.size, 1, none⟩ = some (.int .i64 a) ∧ W3.cell? ⟨w.heap.size, 6, none⟩ = some (.int .i64 cw) := by rw [← hW]; exact ⟨by simp [go_sem], by simp [go_sem]⟩
  have f2 : (∀ o, W3.cell? ⟨w.heap.size + 1, o, none⟩ = #[Value.int .i64 0, .int .i64 0, .int .i64 0, .int .i64 0][o]?) ∧ ∀ o, W3.frozen? ⟨w.heap.size + 1, o, none⟩ = false := by rw [← hW]; exact ⟨fun o => by simp [go_sem], fun o => by simp [go_sem]⟩
  have hb : Below w.heap.size w W3 := by rw [← hW]; exact ((Below.refl _ _).alloc (Nat.le_refl _) _).alloc (by simp) _
  have hz : w.heap.size + 2 ≤ W3.heap.size := by rw [← hW]; simp
  have HB := hidIt hb
  have OO := hidIt (show ∀ W, Out (w.heap.size + 1) (w.heap.size + 2) W3 W → Out (w.heap.size + 1) (w.heap.size + 2) W3 W ∧ W.cell? ⟨w.heap.size, 1, none⟩ = some (.int .i64 a) ∧ W.cell? ⟨w.heap.size, 6, none⟩ = some (.int .i64 cw) from fun W h => ⟨h, h.cell (by omega) (by omega) f1.1, h.cell (by omega) (by omega) f1.2⟩)
  clear hW hb
  go_region_held3 (fun W => Out (w.heap.size + 1) (w.heap.size + 2) W3 W ∧ W.cell? ⟨w.heap.size, 1, none⟩ = some (.int .i64 a) ∧ W.cell? ⟨w.heap.size, 6, none⟩ = some (.int .i64 cw)) (first | (go_split_ands; refine OO.out _ ?_; repeat (first | with_reducible assumption | with_reducible exact Out.refl _ _ _ | with_reducible refine Out.drew ?_ | with_reducible refine Out.setCell ?_ (by simp <;> omega) (by simp <;> omega) | with_reducible refine Out.alloc ?_ _))) (first | (go_at_call 41; refine (impl_placecell _ _ (by omega) (by omega)).mono ?_; rintro e wp ⟨rfl, rfl⟩) | (go_at_call 73; refine (impl_wordindex _ _ (by omega) (by omega)).mono ?_; rintro e wp ⟨rfl, rfl⟩))
  all_goals
    rename_i hHeld
    have HO := hidIt hHeld.1
    clear hHeld OO
    go_wp2
    try rw [hop_ret]
    exact bodyPost_ret (v := .tuple #[.agg #[.int .i64 2, .int .i64 (1 + a), .int .i64 (unI cw), .int .i64 0], .bool true]) (by simp [results, Try.results55, go_sem, f2]) rfl ⟨rfl, HB.out.trans (HO.out.below (by omega) (by omega))⟩
set_option maxHeartbeats 1600000 in
set_option maxRecDepth 100000 in
theorem impl_pushact_2 (n k a x p cc cw r v : Int) (d : Bool) (w : World) (h : plcB n a = true) (a1 : 0 ≤ a) (a2 : a ≤ 16) (l : -9223372036854775808 ≤ cw) (u : cw ≤ 9223372036854775807) :
    Calls Try.prog 55 #[.int .i64 n, .agg #[.int .i64 k, .int .i64 a, .int .i64 x, .int .i64 2, .int .i64 p, .int .i64 cc, .int .i64 cw, .int .i64 r, .int .i64 v, .bool d]] w fun e w' => e = .returned (.tuple #[.agg #[.int .i64 3, .int .i64 0, .int .i64 cw, .int .i64 (casW cw (a + 1))], .bool true]) ∧ Below w.heap.size w w' := by
  go_enter Try.func55, Try.ntmps55
  go_wp2
  refine wp_scope_hops 1 fun C HC => ?_
  go_wp2_with fail
  refine (impl_isplace n a _).mono ?_
  rintro e w1 ⟨rfl, rfl⟩
  rw [h]
  go_wp2
  go_step3
  refine hop_goto HC rfl ?_
  go_wp2_with fail
  refine (impl_headcas cw (a + 1) _ l u (by omega) (by omega)).mono ?_
  rintro e w2 ⟨rfl, b2⟩
  have f2 : (∀ o, w2.cell? ⟨w.heap.size + 1, o, none⟩ = #[Value.int .i64 0, .int .i64 0, .int .i64 0, .int .i64 0][o]?) ∧ ∀ o, w2.frozen? ⟨w.heap.size + 1, o, none⟩ = false := ⟨fun o => below_cell b2 (by simp <;> omega) (by simp [go_sem]), fun o => below_frozen b2 (by simp <;> omega) (by simp [go_sem])⟩
  have HB := hidIt ((((Below.refl w.heap.size w).alloc (Nat.le_refl _) _).alloc (by simp) _).trans (b2.mono (by simp <;> omega)))
  clear b2
  go_wp2
  try rw [hop_ret]
  exact bodyPost_ret (v := .tuple #[.agg #[.int .i64 3, .int .i64 0, .int .i64 cw, .int .i64 (casW cw (a + 1))], .bool true]) (by simp [results, Try.results55, go_sem, f2]) rfl ⟨rfl, by repeat (first | exact HB.out | refine Below.setCell ?_ (by simp <;> omega) _)⟩
set_option maxHeartbeats 1600000 in
set_option maxRecDepth 100000 in
theorem impl_popact_no (n k a x pc p cc cw r v : Int) (d : Bool) (w : World) (h : plcB n (unI cw - 1) = false) (c0 : (pc == 0) = false) (l : -9223372036854775808 ≤ cw) (u : cw ≤ 9223372036854775807) :
    Calls Try.prog 56 #[.int .i64 n, .agg #[.int .i64 k, .int .i64 a, .int .i64 x, .int .i64 pc, .int .i64 p, .int .i64 cc, .int .i64 cw, .int .i64 r, .int .i64 v, .bool d]] w fun e w' => e = .returned (.tuple #[.agg #[.int .i64 0, .int .i64 0, .int .i64 0, .int .i64 0], .bool false]) ∧ Below w.heap.size w w' := by
  have hub := un_bd cw
  have c0' : (pc != 0) = true := by simpa using c0
  go_enter Try.func56, Try.ntmps56
  go_wp2
  refine wp_scope_hops 1 fun C HC => ?_
  go_wp2_with fail
  refine (impl_wordindex cw _ l u).mono ?_
  rintro e w1 ⟨rfl, rfl⟩
  go_wp2_with fail
  refine (impl_isplace n (unI cw - 1) _).mono ?_
  rintro e w1 ⟨rfl, rfl⟩
  rw [h]
  go_wp2
  try rw [hop_ret]
  exact bodyPost_ret (v := .tuple #[.agg #[.int .i64 0, .int .i64 0, .int .i64 0, .int .i64 0], .bool false]) (by simp [results, Try.results56, go_sem]) rfl ⟨rfl, by repeat (first | exact Below.refl _ _ | refine Below.setCell ?_ (by simp <;> omega) _ | refine Below.alloc ?_ (by simp <;> omega) _)⟩
set_option maxHeartbeats 1600000 in
set_option maxRecDepth 100000 in
theorem impl_popact_bad (n k a x pc p cc cw r v : Int) (d : Bool) (w : World) (h : plcB n (unI cw - 1) = true) (c0 : (pc == 0) = false) (c1 : (pc == 1) = false) (c2 : (pc == 2) = false) (l : -9223372036854775808 ≤ cw) (u : cw ≤ 9223372036854775807) :
    Calls Try.prog 56 #[.int .i64 n, .agg #[.int .i64 k, .int .i64 a, .int .i64 x, .int .i64 pc, .int .i64 p, .int .i64 cc, .int .i64 cw, .int .i64 r, .int .i64 v, .bool d]] w fun e w' => e = .returned (.tuple #[.agg #[.int .i64 0, .int .i64 0, .int .i64 0, .int .i64 0], .bool false]) ∧ Below w.heap.size w w' := by
  have hub := un_bd cw
  have c0' : (pc != 0) = true := by simpa using c0
  go_enter Try.func56, Try.ntmps56
  go_wp2
  refine wp_scope_hops 1 fun C HC => ?_
  go_wp2_with fail
  refine (impl_wordindex cw _ l u).mono ?_
  rintro e w1 ⟨rfl, rfl⟩
  go_wp2_with fail
  refine (impl_isplace n (unI cw - 1) _).mono ?_
  rintro e w1 ⟨rfl, rfl⟩
  rw [h]
  go_wp2
  try rw [hop_ret]
  exact bodyPost_ret (v := .tuple #[.agg #[.int .i64 0, .int .i64 0, .int .i64 0, .int .i64 0], .bool false]) (by simp [results, Try.results56, go_sem]) rfl ⟨rfl, by repeat (first | exact Below.refl _ _ | refine Below.setCell ?_ (by simp <;> omega) _ | refine Below.alloc ?_ (by simp <;> omega) _)⟩
set_option maxHeartbeats 1600000 in
set_option maxRecDepth 100000 in
theorem impl_popact_0 (n k a x p cc cw r v : Int) (d : Bool) (w : World) (l : -9223372036854775808 ≤ cw) (u : cw ≤ 9223372036854775807) :
    Calls Try.prog 56 #[.int .i64 n, .agg #[.int .i64 k, .int .i64 a, .int .i64 x, .int .i64 0, .int .i64 p, .int .i64 cc, .int .i64 cw, .int .i64 r, .int .i64 v, .bool d]] w fun e w' => e = .returned (.tuple #[.agg #[.int .i64 1, .int .i64 0, .int .i64 0, .int .i64 0], .bool true]) ∧ Below w.heap.size w w' := by
  have hub := un_bd cw
  go_enter Try.func56, Try.ntmps56
  go_wp2
  refine wp_scope_hops 1 fun C HC => ?_
  go_wp2_with fail
  refine (impl_wordindex cw _ l u).mono ?_
  rintro e w1 ⟨rfl, rfl⟩
  go_wp2
  go_step3
  refine hop_goto HC rfl ?_
  go_wp2
  try rw [hop_ret]
  exact bodyPost_ret (v := .tuple #[.agg #[.int .i64 1, .int .i64 0, .int .i64 0, .int .i64 0], .bool true]) (by simp [results, Try.results56, go_sem]) rfl ⟨rfl, by repeat (first | exact Below.refl _ _ | refine Below.setCell ?_ (by simp <;> omega) _ | refine Below.alloc ?_ (by simp <;> omega) _)⟩
set_option maxHeartbeats 1600000 in
set_option maxRecDepth 100000 in
theorem impl_popact_1 (n k a x p cc cw r v : Int) (d : Bool) (w : World) (h : plcB n (unI cw - 1) = true) (l : -9223372036854775808 ≤ cw) (u : cw ≤ 9223372036854775807) :
    Calls Try.prog 56 #[.int .i64 n, .agg #[.int .i64 k, .int .i64 a, .int .i64 x, .int .i64 1, .int .i64 p, .int .i64 cc, .int .i64 cw, .int .i64 r, .int .i64 v, .bool d]] w fun e w' => e = .returned (.tuple #[.agg #[.int .i64 1, .int .i64 (1 + (unI cw - 1)), .int .i64 0, .int .i64 0], .bool true]) ∧ Below w.heap.size w w' := by
  have hub := un_bd cw
  have hp : 0 ≤ unI cw - 1 ∧ unI cw - 1 < n := of_decide_eq_true h
  go_enter Try.func56, Try.ntmps56
  go_wp2
  refine wp_scope_hops 1 fun C HC => ?_
  go_wp2_with fail
  refine (impl_wordindex cw _ l u).mono ?_
  rintro e w1 ⟨rfl, rfl⟩
  go_wp2_with fail
  refine (impl_isplace n (unI cw - 1) _).mono ?_
  rintro e w1 ⟨rfl, rfl⟩
  rw [h]
  go_wp2
  go_step3
  refine hop_goto HC rfl ?_
  go_wp2_with fail
  refine (impl_placecell (unI cw - 1) _ (by omega) (by omega)).mono ?_
  rintro e w1 ⟨rfl, rfl⟩
  go_wp2
  try rw [hop_ret]
  exact bodyPost_ret (v := .tuple #[.agg #[.int .i64 1, .int .i64 (1 + (unI cw - 1)), .int .i64 0, .int .i64 0], .bool true]) (by simp [results, Try.results56, go_sem]) rfl ⟨rfl, by repeat (first | exact Below.refl _ _ | refine Below.setCell ?_ (by simp <;> omega) _ | refine Below.alloc ?_ (by simp <;> omega) _)⟩
set_option maxHeartbeats 1600000 in
set_option maxRecDepth 100000 in
theorem impl_popact_2 (n k a x p cc cw r v : Int) (d : Bool) (w : World) (h : plcB n (unI cw - 1) = true) (l : -9223372036854775808 ≤ cw) (u : cw ≤ 9223372036854775807) :
    Calls Try.prog 56 #[.int .i64 n, .agg #[.int .i64 k, .int .i64 a, .int .i64 x, .int .i64 2, .int .i64 p, .int .i64 cc, .int .i64 cw, .int .i64 r, .int .i64 v, .bool d]] w fun e w' => e = .returned (.tuple #[.agg #[.int .i64 3, .int .i64 0, .int .i64 cw, .int .i64 (casW cw (inIx cc))], .bool true]) ∧ Below w.heap.size w w' := by
  have hub := un_bd cw
  go_enter Try.func56, Try.ntmps56
  go_wp2
  refine wp_scope_hops 1 fun C HC => ?_
  go_wp2_with fail
  refine (impl_wordindex cw _ l u).mono ?_
  rintro e w1 ⟨rfl, rfl⟩
  go_wp2_with fail
  refine (impl_isplace n (unI cw - 1) _).mono ?_
  rintro e w1 ⟨rfl, rfl⟩
  rw [h]
  go_wp2
  go_step3
  refine hop_goto HC rfl ?_
  go_wp2_with fail
  generalize hW : World.alloc _ _ = W3
  have f1 : W3.cell? ⟨w.heap.size, 5, none⟩ = some (.int .i64 cc) ∧ W3.cell? ⟨w.heap.size, 6, none⟩ = some (.int .i64 cw) := by rw [← hW]; exact ⟨by simp [go_sem], by simp [go_sem]⟩
  have f2 : (∀ o, W3.cell? ⟨w.heap.size + 1, o, none⟩ = #[Value.int .i64 0, .int .i64 0, .int .i64 0, .int .i64 0][o]?) ∧ ∀ o, W3.frozen? ⟨w.heap.size + 1, o, none⟩ = false := by rw [← hW]; exact ⟨fun o => by simp [go_sem], fun o => by simp [go_sem]⟩
  have hb : Below w.heap.size w W3 := by rw [← hW]; exact ((Below.refl _ _).alloc (Nat.le_refl _) _).alloc (by simp) _
  have hz : w.heap.size + 2 ≤ W3.heap.size := by rw [← hW]; simp
  have HB := hidIt hb
  have OO := hidIt (show ∀ W, Out (w.heap.size + 1) (w.heap.size + 2) W3 W → Out (w.heap.size + 1) (w.heap.size + 2) W3 W ∧ W.cell? ⟨w.heap.size, 5, none⟩ = some (.int .i64 cc) ∧ W.cell? ⟨w.heap.size, 6, none⟩ = some (.int .i64 cw) from fun W h => ⟨h, h.cell (by omega) (by omega) f1.1, h.cell (by omega) (by omega) f1.2⟩)
  clear hW hb
  go_region_held3 (fun W => Out (w.heap.size + 1) (w.heap.size + 2) W3 W ∧ W.cell? ⟨w.heap.size, 5, none⟩ = some (.int .i64 cc) ∧ W.cell? ⟨w.heap.size, 6, none⟩ = some (.int .i64 cw)) (first | (refine OO.out _ ?_; with_reducible exact Out.trans (Out.drew (Out.refl _ _ _)) (Out.of_below b2)) | (refine OO.out _ ?_; with_reducible exact Out.of_below b2) | (go_split_ands; refine OO.out _ ?_; repeat (first | with_reducible assumption | with_reducible exact Out.refl _ _ _ | with_reducible refine Out.drew ?_ | with_reducible refine Out.setCell ?_ (by simp <;> omega) (by simp <;> omega) | with_reducible refine Out.alloc ?_ _))) (first | (go_at_call 75; refine (impl_indexor0 _ _).mono ?_; rintro e wp ⟨rfl, rfl⟩) | (go_at_call 74; refine (impl_headcas cw (inIx cc) _ l u (inIx_bd cc).1 (inIx_bd cc).2).mono ?_; rintro e w2 ⟨rfl, b2⟩; have f3 : (∀ o, w2.cell? ⟨w.heap.size + 1, o, none⟩ = #[Value.int .i64 0, .int .i64 0, .int .i64 0, .int .i64 0][o]?) ∧ ∀ o, w2.frozen? ⟨w.heap.size + 1, o, none⟩ = false := ⟨fun o => below_cell b2 (by first | omega | (simp; done) | (simp; omega)) (by simp [go_sem, f2]), fun o => below_frozen b2 (by first | omega | (simp; done) | (simp; omega)) (by simp [go_sem, f2])⟩))
  all_goals
    rename_i hHeld
    have HO := hidIt hHeld.1
    clear hHeld OO
    go_wp2
    try rw [hop_ret]
    exact bodyPost_ret (v := .tuple #[.agg #[.int .i64 3, .int .i64 0, .int .i64 cw, .int .i64 (casW cw (inIx cc))], .bool true]) (by simp [results, Try.results56, go_sem, f3]) rfl ⟨rfl, HB.out.trans (HO.out.below (by omega) (by omega))⟩
def iAct (n : Int) (c : Cl) : Option Ac :=
  if c.d = true ∨ szB n = false then none
  else if c.k = 1 then (if plcB n c.a = true then (if c.pc = 0 then some ⟨1, 0, 0, 0⟩ else if c.pc = 1 then some ⟨2, 1 + c.a, unI c.w, 0⟩ else if c.pc = 2 then some ⟨3, 0, c.w, casW c.w (c.a + 1)⟩ else none) else none)
  else if c.k = 2 then (if c.pc = 0 then some ⟨1, 0, 0, 0⟩ else if plcB n (unI c.w - 1) = true then (if c.pc = 1 then some ⟨1, 1 + (unI c.w - 1), 0, 0⟩ else if c.pc = 2 then some ⟨3, 0, c.w, casW c.w (inIx c.c)⟩ else none) else none)
  else none
set_option maxHeartbeats 1600000 in
set_option maxRecDepth 100000 in
theorem impl_stact_done (n k a x pc p cc cw r v : Int) (d b : Bool) (w : World) :
    Calls Try.prog 24 #[.int .i64 n, .agg #[.int .i64 k, .int .i64 a, .int .i64 x, .int .i64 pc, .int .i64 p, .int .i64 cc, .int .i64 cw, .int .i64 r, .int .i64 v, .bool true]] w fun e w' => e = .returned (.tuple #[.agg #[.int .i64 0, .int .i64 0, .int .i64 0, .int .i64 0], .bool false]) ∧ Below w.heap.size w w' := by
  go_enter Try.func24, Try.ntmps24
  go_wp2
  exact bodyPost_ret (v := .tuple #[.agg #[.int .i64 0, .int .i64 0, .int .i64 0, .int .i64 0], .bool false]) (by simp [results, Try.results24, go_sem]) rfl ⟨rfl, by repeat (first | exact Below.refl _ _ | refine Below.setCell ?_ (by simp <;> omega) _ | refine Below.alloc ?_ (by simp <;> omega) _)⟩
set_option maxHeartbeats 1600000 in
set_option maxRecDepth 100000 in
theorem impl_stact_size (n k a x pc p cc cw r v : Int) (d b : Bool) (w : World) (h : szB n = false) :
    Calls Try.prog 24 #[.int .i64 n, .agg #[.int .i64 k, .int .i64 a, .int .i64 x, .int .i64 pc, .int .i64 p, .int .i64 cc, .int .i64 cw, .int .i64 r, .int .i64 v, .bool false]] w fun e w' => e = .returned (.tuple #[.agg #[.int .i64 0, .int .i64 0, .int .i64 0, .int .i64 0], .bool false]) ∧ Below w.heap.size w w' := by
  go_enter Try.func24, Try.ntmps24
  go_wp2_with fail
  refine (impl_size n _).mono ?_
  rintro e w1 ⟨rfl, rfl⟩
  rw [h]
  go_wp2
  exact bodyPost_ret (v := .tuple #[.agg #[.int .i64 0, .int .i64 0, .int .i64 0, .int .i64 0], .bool false]) (by simp [results, Try.results24, go_sem]) rfl ⟨rfl, by repeat (first | exact Below.refl _ _ | refine Below.setCell ?_ (by simp <;> omega) _ | refine Below.alloc ?_ (by simp <;> omega) _)⟩
set_option maxHeartbeats 1600000 in
set_option maxRecDepth 100000 in
theorem impl_stact_kind (n k a x pc p cc cw r v : Int) (d b : Bool) (w : World) (h : szB n = true) (k1 : (k == 1) = false) (k2 : (k == 2) = false) :
    Calls Try.prog 24 #[.int .i64 n, .agg #[.int .i64 k, .int .i64 a, .int .i64 x, .int .i64 pc, .int .i64 p, .int .i64 cc, .int .i64 cw, .int .i64 r, .int .i64 v, .bool false]] w fun e w' => e = .returned (.tuple #[.agg #[.int .i64 0, .int .i64 0, .int .i64 0, .int .i64 0], .bool false]) ∧ Below w.heap.size w w' := by
  go_enter Try.func24, Try.ntmps24
  go_wp2_with fail
  refine (impl_size n _).mono ?_
  rintro e w1 ⟨rfl, rfl⟩
  rw [h]
  go_wp2
  exact bodyPost_ret (v := .tuple #[.agg #[.int .i64 0, .int .i64 0, .int .i64 0, .int .i64 0], .bool false]) (by simp [results, Try.results24, go_sem]) rfl ⟨rfl, by repeat (first | exact Below.refl _ _ | refine Below.setCell ?_ (by simp <;> omega) _ | refine Below.alloc ?_ (by simp <;> omega) _)⟩
set_option maxHeartbeats 1600000 in
set_option maxRecDepth 100000 in
theorem impl_stact_push (n k a x pc p cc cw r v q0 q1 q2 q3 : Int) (d b : Bool) (w : World) (h : szB n = true) (hA : ∀ W, Calls Try.prog 55 #[.int .i64 n, .agg #[.int .i64 1, .int .i64 a, .int .i64 x, .int .i64 pc, .int .i64 p, .int .i64 cc, .int .i64 cw, .int .i64 r, .int .i64 v, .bool false]] W fun e w' => e = .returned (.tuple #[.agg #[.int .i64 q0, .int .i64 q1, .int .i64 q2, .int .i64 q3], .bool b]) ∧ Below W.heap.size W w') :
    Calls Try.prog 24 #[.int .i64 n, .agg #[.int .i64 1, .int .i64 a, .int .i64 x, .int .i64 pc, .int .i64 p, .int .i64 cc, .int .i64 cw, .int .i64 r, .int .i64 v, .bool false]] w fun e w' => e = .returned (.tuple #[.agg #[.int .i64 q0, .int .i64 q1, .int .i64 q2, .int .i64 q3], .bool b]) ∧ Below w.heap.size w w' := by
  have HA := hidIt hA
  clear hA
  go_enter Try.func24, Try.ntmps24
  go_wp2_with fail
  refine (impl_size n _).mono ?_
  rintro e w1 ⟨rfl, rfl⟩
  rw [h]
  go_wp2_with fail
  refine (HA.out _).mono ?_
  rintro e w2 ⟨rfl, b2⟩
  have f2 : (∀ o, w2.cell? ⟨w.heap.size + 1, o, none⟩ = #[Value.int .i64 0, .int .i64 0, .int .i64 0, .int .i64 0][o]?) ∧ ∀ o, w2.frozen? ⟨w.heap.size + 1, o, none⟩ = false := ⟨fun o => below_cell b2 (by simp <;> omega) (by simp [go_sem]), fun o => below_frozen b2 (by simp <;> omega) (by simp [go_sem])⟩
  have HB := hidIt ((((Below.refl w.heap.size w).alloc (Nat.le_refl _) _).alloc (by simp) _).trans (b2.mono (by simp <;> omega)))
  clear b2 HA
  go_wp2
  exact bodyPost_ret (v := .tuple #[.agg #[.int .i64 q0, .int .i64 q1, .int .i64 q2, .int .i64 q3], .bool b]) (by simp [results, Try.results24, go_sem, f2]) rfl ⟨rfl, by repeat (first | exact HB.out | refine Below.setCell ?_ (by simp <;> omega) _)⟩
set_option maxHeartbeats 1600000 in
set_option maxRecDepth 100000 in
theorem impl_stact_pop (n k a x pc p cc cw r v q0 q1 q2 q3 : Int) (d b : Bool) (w : World) (h : szB n = true) (hA : ∀ W, Calls Try.prog 56 #[.int .i64 n, .agg #[.int .i64 2, .int .i64 a, .int .i64 x, .int .i64 pc, .int .i64 p, .int .i64 cc, .int .i64 cw, .int .i64 r, .int .i64 v, .bool false]] W fun e w' => e = .returned (.tuple #[.agg #[.int .i64 q0, .int .i64 q1, .int .i64 q2, .int .i64 q3], .bool b]) ∧ Below W.heap.size W w') :
    Calls Try.prog 24 #[.int .i64 n, .agg #[.int .i64 2, .int .i64 a, .int .i64 x, .int .i64 pc, .int .i64 p, .int .i64 cc, .int .i64 cw, .int .i64 r, .int .i64 v, .bool false]] w fun e w' => e = .returned (.tuple #[.agg #[.int .i64 q0, .int .i64 q1, .int .i64 q2, .int .i64 q3], .bool b]) ∧ Below w.heap.size w w' := by
  have HA := hidIt hA
  clear hA
  go_enter Try.func24, Try.ntmps24
  go_wp2_with fail
  refine (impl_size n _).mono ?_
  rintro e w1 ⟨rfl, rfl⟩
  rw [h]
  go_wp2_with fail
  refine (HA.out _).mono ?_
  rintro e w2 ⟨rfl, b2⟩
  have f2 : (∀ o, w2.cell? ⟨w.heap.size + 1, o, none⟩ = #[Value.int .i64 0, .int .i64 0, .int .i64 0, .int .i64 0][o]?) ∧ ∀ o, w2.frozen? ⟨w.heap.size + 1, o, none⟩ = false := ⟨fun o => below_cell b2 (by simp <;> omega) (by simp [go_sem]), fun o => below_frozen b2 (by simp <;> omega) (by simp [go_sem])⟩
  have HB := hidIt ((((Below.refl w.heap.size w).alloc (Nat.le_refl _) _).alloc (by simp) _).trans (b2.mono (by simp <;> omega)))
  clear b2 HA
  go_wp2
  exact bodyPost_ret (v := .tuple #[.agg #[.int .i64 q0, .int .i64 q1, .int .i64 q2, .int .i64 q3], .bool b]) (by simp [results, Try.results24, go_sem, f2]) rfl ⟨rfl, by repeat (first | exact HB.out | refine Below.setCell ?_ (by simp <;> omega) _)⟩
theorem impl_stact (n k a x pc p cc cw r v : Int) (d : Bool) (w : World) (l : -9223372036854775808 ≤ cw) (u : cw ≤ 9223372036854775807) (ac : Option Ac) (hac : iAct n ⟨k, a, x, pc, p, cc, cw, r, v, d⟩ = ac) :
    Calls Try.prog 24 #[.int .i64 n, .agg #[.int .i64 k, .int .i64 a, .int .i64 x, .int .i64 pc, .int .i64 p, .int .i64 cc, .int .i64 cw, .int .i64 r, .int .i64 v, .bool d]] w fun e w' => e = .returned (.tuple #[.agg #[.int .i64 (ac.getD acZero).k, .int .i64 (ac.getD acZero).t, .int .i64 (ac.getD acZero).a, .int .i64 (ac.getD acZero).b], .bool ac.isSome]) ∧ Below w.heap.size w w' := by
  subst hac
  have fs : ∀ {q : Int} {i : Int}, ¬ q = i → (q == i) = false := fun h => by simpa using h
  by_cases hd : d = true
  · subst hd
    exact impl_stact_done n k a x pc p cc cw r v true true w
  · have hd : d = false := by simpa using hd
    subst hd
    by_cases hz : szB n = true
    · by_cases k1 : k = 1
      · subst k1
        by_cases hp : plcB n a = true
        · have hb : 0 ≤ a ∧ a < n := of_decide_eq_true hp
          have hb2 : 1 ≤ n ∧ n ≤ 16 := of_decide_eq_true hz
          by_cases c0 : pc = 0
          · subst c0
            rw [show iAct n ⟨1, a, x, 0, p, cc, cw, r, v, false⟩ = some ⟨1, 0, 0, 0⟩ by simp [iAct, hz, hp]]
            exact impl_stact_push n 1 a x 0 p cc cw r v 1 0 0 0 false true w hz (fun W => impl_pushact_0 n 1 a x p cc cw r v false W hp)
          · by_cases c1 : pc = 1
            · subst c1
              rw [show iAct n ⟨1, a, x, 1, p, cc, cw, r, v, false⟩ = some ⟨2, 1 + a, unI cw, 0⟩ by simp [iAct, hz, hp]]
              exact impl_stact_push n 1 a x 1 p cc cw r v 2 (1 + a) (unI cw) 0 false true w hz (fun W => impl_pushact_1 n 1 a x p cc cw r v false W hp hb.1 (by omega) l u)
            · by_cases c2 : pc = 2
              · subst c2
                rw [show iAct n ⟨1, a, x, 2, p, cc, cw, r, v, false⟩ = some ⟨3, 0, cw, casW cw (a + 1)⟩ by simp [iAct, hz, hp]]
                exact impl_stact_push n 1 a x 2 p cc cw r v 3 0 cw (casW cw (a + 1)) false true w hz (fun W => impl_pushact_2 n 1 a x p cc cw r v false W hp hb.1 (by omega) l u)
              · rw [show iAct n ⟨1, a, x, pc, p, cc, cw, r, v, false⟩ = none by simp [iAct, hz, hp, c0, c1, c2]]
                exact impl_stact_push n 1 a x pc p cc cw r v 0 0 0 0 false false w hz (fun W => impl_pushact_bad n 1 a x pc p cc cw r v false W hp (fs c0) (fs c1) (fs c2))
        · rw [show iAct n ⟨1, a, x, pc, p, cc, cw, r, v, false⟩ = none by simp [iAct, hz, hp]]
          exact impl_stact_push n 1 a x pc p cc cw r v 0 0 0 0 false false w hz (fun W => impl_pushact_no n 1 a x pc p cc cw r v false W (by simpa using hp))
      · by_cases k2 : k = 2
        · subst k2
          by_cases c0 : pc = 0
          · subst c0
            rw [show iAct n ⟨2, a, x, 0, p, cc, cw, r, v, false⟩ = some ⟨1, 0, 0, 0⟩ by simp [iAct, hz]]
            exact impl_stact_pop n 2 a x 0 p cc cw r v 1 0 0 0 false true w hz (fun W => impl_popact_0 n 2 a x p cc cw r v false W l u)
          · by_cases hp : plcB n (unI cw - 1) = true
            · by_cases c1 : pc = 1
              · subst c1
                rw [show iAct n ⟨2, a, x, 1, p, cc, cw, r, v, false⟩ = some ⟨1, 1 + (unI cw - 1), 0, 0⟩ by simp [iAct, hz, hp]]
                exact impl_stact_pop n 2 a x 1 p cc cw r v 1 (1 + (unI cw - 1)) 0 0 false true w hz (fun W => impl_popact_1 n 2 a x p cc cw r v false W hp l u)
              · by_cases c2 : pc = 2
                · subst c2
                  rw [show iAct n ⟨2, a, x, 2, p, cc, cw, r, v, false⟩ = some ⟨3, 0, cw, casW cw (inIx cc)⟩ by simp [iAct, hz, hp]]
                  exact impl_stact_pop n 2 a x 2 p cc cw r v 3 0 cw (casW cw (inIx cc)) false true w hz (fun W => impl_popact_2 n 2 a x p cc cw r v false W hp l u)
                · rw [show iAct n ⟨2, a, x, pc, p, cc, cw, r, v, false⟩ = none by simp [iAct, hz, hp, c0, c1, c2]]
                  exact impl_stact_pop n 2 a x pc p cc cw r v 0 0 0 0 false false w hz (fun W => impl_popact_bad n 2 a x pc p cc cw r v false W hp (fs c0) (fs c1) (fs c2) l u)
            · rw [show iAct n ⟨2, a, x, pc, p, cc, cw, r, v, false⟩ = none by simp [iAct, hz, hp, c0]]
              exact impl_stact_pop n 2 a x pc p cc cw r v 0 0 0 0 false false w hz (fun W => impl_popact_no n 2 a x pc p cc cw r v false W (by simpa using hp) (fs c0) l u)
        · rw [show iAct n ⟨k, a, x, pc, p, cc, cw, r, v, false⟩ = none by simp [iAct, hz, k1, k2]]
          exact impl_stact_kind n k a x pc p cc cw r v false false w hz (fs k1) (fs k2)
    · have hz : szB n = false := by simpa using hz
      rw [show iAct n ⟨k, a, x, pc, p, cc, cw, r, v, false⟩ = none by simp [iAct, hz]]
      exact impl_stact_size n k a x pc p cc cw r v false false w hz

end Go.Proofs.Ytabcmnoadoebpaa
