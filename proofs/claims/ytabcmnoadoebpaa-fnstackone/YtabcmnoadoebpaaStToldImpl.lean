/- The call behind a step of a stack's call, by the program. -/
import Derived.Test.YtabcmnoadoebpaaRows
import Derived.WalkKit
import Derived.ProofKit
import Derived.OpenShut
import Derived.ShutString
import Derived.Test.YtabcmnoadoebpaaStActImpl
namespace Go.Proofs.Ytabcmnoadoebpaa
open Go.ChangeShapes Go.WideShapes Go.ChangeAt Go.RowKit
set_option linter.unusedVariables false

def iAfter (c : Cl) (told : Int) : Cl :=
  if c.pc = 0 then (if c.k = 2 ∧ unI (stHead told) = 0 then { c with pc := 1, w := stHead told, r := 2, d := true } else { c with pc := 1, w := stHead told })
  else if c.pc = 1 then (if c.k = 2 then { c with pc := 2, c := told } else { c with pc := 2 })
  else if told = 1 then (if c.k = 2 then { c with pc := 3, v := unI c.w - 1, r := 1, d := true } else { c with pc := 3, r := 1, d := true })
  else { c with pc := 0 }
theorem stHead_bds (t : Int) (l : -9223372036854775808 ≤ t) (u : t ≤ 9223372036854775807) : -9223372036854775808 ≤ stHead t ∧ stHead t ≤ 9223372036854775807 := by unfold stHead; split <;> omega
set_option maxHeartbeats 1600000 in
set_option maxRecDepth 100000 in
theorem impl_told_A1 (a x p cc cw r v T : Int) (w : World) (l : -9223372036854775808 ≤ cw) (u : cw ≤ 9223372036854775807) (t1 : -9223372036854775808 ≤ T) (t2 : T ≤ 9223372036854775807) (hi : (unI (stHead T) == 0) = true) :
    Calls Try.prog 44 #[.agg #[.int .i64 2, .int .i64 a, .int .i64 x, .int .i64 0, .int .i64 p, .int .i64 cc, .int .i64 cw, .int .i64 r, .int .i64 v, .bool false], .int .i64 T] w fun e w' => e = .returned (.agg #[.int .i64 2, .int .i64 a, .int .i64 x, .int .i64 1, .int .i64 p, .int .i64 cc, .int .i64 (stHead T), .int .i64 2, .int .i64 v, .bool true]) ∧ Below w.heap.size w w' := by
  obtain ⟨s1, s2⟩ := stHead_bds T t1 t2
  have hub := un_bd cw
  go_enter Try.func44, Try.ntmps44
  go_wp2
  refine wp_scope_hops 3 fun C HC => ?_
  go_wp2
  go_step3
  refine hop_goto HC rfl ?_
  go_wp2_with fail
  refine (impl_wordor0 T _ t1 t2).mono ?_
  rintro e w1 ⟨rfl, rfl⟩
  go_wp2_with fail
  refine (impl_wordindex (stHead T) _ s1 s2).mono ?_
  rintro e w1 ⟨rfl, rfl⟩
  go_wp2
  go_step3
  refine hop_goto HC rfl ?_
  go_wp2
  try rw [hop_ret]
  exact bodyPost_ret (v := .agg #[.int .i64 2, .int .i64 a, .int .i64 x, .int .i64 1, .int .i64 p, .int .i64 cc, .int .i64 (stHead T), .int .i64 2, .int .i64 v, .bool true]) (by simp [results, Try.results44, go_sem]) rfl ⟨rfl, by repeat (first | exact Below.refl _ _ | refine Below.setCell ?_ (by simp <;> omega) _ | refine Below.alloc ?_ (by simp <;> omega) _)⟩
set_option maxHeartbeats 1600000 in
set_option maxRecDepth 100000 in
theorem impl_told_A2 (a x p cc cw r v T : Int) (w : World) (l : -9223372036854775808 ≤ cw) (u : cw ≤ 9223372036854775807) (t1 : -9223372036854775808 ≤ T) (t2 : T ≤ 9223372036854775807) (hi : (unI (stHead T) == 0) = false) :
    Calls Try.prog 44 #[.agg #[.int .i64 2, .int .i64 a, .int .i64 x, .int .i64 0, .int .i64 p, .int .i64 cc, .int .i64 cw, .int .i64 r, .int .i64 v, .bool false], .int .i64 T] w fun e w' => e = .returned (.agg #[.int .i64 2, .int .i64 a, .int .i64 x, .int .i64 1, .int .i64 p, .int .i64 cc, .int .i64 (stHead T), .int .i64 r, .int .i64 v, .bool false]) ∧ Below w.heap.size w w' := by
  obtain ⟨s1, s2⟩ := stHead_bds T t1 t2
  have hub := un_bd cw
  go_enter Try.func44, Try.ntmps44
  go_wp2
  refine wp_scope_hops 3 fun C HC => ?_
  go_wp2
  go_step3
  refine hop_goto HC rfl ?_
  go_wp2_with fail
  refine (impl_wordor0 T _ t1 t2).mono ?_
  rintro e w1 ⟨rfl, rfl⟩
  go_wp2_with fail
  refine (impl_wordindex (stHead T) _ s1 s2).mono ?_
  rintro e w1 ⟨rfl, rfl⟩
  go_wp2
  go_step3
  refine hop_goto HC rfl ?_
  go_wp2
  try rw [hop_ret]
  exact bodyPost_ret (v := .agg #[.int .i64 2, .int .i64 a, .int .i64 x, .int .i64 1, .int .i64 p, .int .i64 cc, .int .i64 (stHead T), .int .i64 r, .int .i64 v, .bool false]) (by simp [results, Try.results44, go_sem]) rfl ⟨rfl, by repeat (first | exact Below.refl _ _ | refine Below.setCell ?_ (by simp <;> omega) _ | refine Below.alloc ?_ (by simp <;> omega) _)⟩
set_option maxHeartbeats 1600000 in
set_option maxRecDepth 100000 in
theorem impl_told_B (k a x p cc cw r v T : Int) (w : World) (l : -9223372036854775808 ≤ cw) (u : cw ≤ 9223372036854775807) (t1 : -9223372036854775808 ≤ T) (t2 : T ≤ 9223372036854775807) (hk : (k == 2) = false) :
    Calls Try.prog 44 #[.agg #[.int .i64 k, .int .i64 a, .int .i64 x, .int .i64 0, .int .i64 p, .int .i64 cc, .int .i64 cw, .int .i64 r, .int .i64 v, .bool false], .int .i64 T] w fun e w' => e = .returned (.agg #[.int .i64 k, .int .i64 a, .int .i64 x, .int .i64 1, .int .i64 p, .int .i64 cc, .int .i64 (stHead T), .int .i64 r, .int .i64 v, .bool false]) ∧ Below w.heap.size w w' := by
  obtain ⟨s1, s2⟩ := stHead_bds T t1 t2
  have hub := un_bd cw
  go_enter Try.func44, Try.ntmps44
  go_wp2
  refine wp_scope_hops 3 fun C HC => ?_
  go_wp2
  go_step3
  refine hop_goto HC rfl ?_
  go_wp2_with fail
  refine (impl_wordor0 T _ t1 t2).mono ?_
  rintro e w1 ⟨rfl, rfl⟩
  go_wp2
  go_step3
  refine hop_goto HC rfl ?_
  go_wp2
  try rw [hop_ret]
  exact bodyPost_ret (v := .agg #[.int .i64 k, .int .i64 a, .int .i64 x, .int .i64 1, .int .i64 p, .int .i64 cc, .int .i64 (stHead T), .int .i64 r, .int .i64 v, .bool false]) (by simp [results, Try.results44, go_sem]) rfl ⟨rfl, by repeat (first | exact Below.refl _ _ | refine Below.setCell ?_ (by simp <;> omega) _ | refine Below.alloc ?_ (by simp <;> omega) _)⟩
set_option maxHeartbeats 1600000 in
set_option maxRecDepth 100000 in
theorem impl_told_C (a x p cc cw r v T : Int) (w : World) (l : -9223372036854775808 ≤ cw) (u : cw ≤ 9223372036854775807) (t1 : -9223372036854775808 ≤ T) (t2 : T ≤ 9223372036854775807) :
    Calls Try.prog 44 #[.agg #[.int .i64 2, .int .i64 a, .int .i64 x, .int .i64 1, .int .i64 p, .int .i64 cc, .int .i64 cw, .int .i64 r, .int .i64 v, .bool false], .int .i64 T] w fun e w' => e = .returned (.agg #[.int .i64 2, .int .i64 a, .int .i64 x, .int .i64 2, .int .i64 p, .int .i64 T, .int .i64 cw, .int .i64 r, .int .i64 v, .bool false]) ∧ Below w.heap.size w w' := by
  obtain ⟨s1, s2⟩ := stHead_bds T t1 t2
  have hub := un_bd cw
  go_enter Try.func44, Try.ntmps44
  go_wp2
  refine wp_scope_hops 3 fun C HC => ?_
  go_wp2
  go_step3
  refine hop_goto HC rfl ?_
  go_wp2
  go_step3
  refine hop_goto HC rfl ?_
  go_wp2
  try rw [hop_ret]
  exact bodyPost_ret (v := .agg #[.int .i64 2, .int .i64 a, .int .i64 x, .int .i64 2, .int .i64 p, .int .i64 T, .int .i64 cw, .int .i64 r, .int .i64 v, .bool false]) (by simp [results, Try.results44, go_sem]) rfl ⟨rfl, by repeat (first | exact Below.refl _ _ | refine Below.setCell ?_ (by simp <;> omega) _ | refine Below.alloc ?_ (by simp <;> omega) _)⟩
set_option maxHeartbeats 1600000 in
set_option maxRecDepth 100000 in
theorem impl_told_D (k a x p cc cw r v T : Int) (w : World) (l : -9223372036854775808 ≤ cw) (u : cw ≤ 9223372036854775807) (t1 : -9223372036854775808 ≤ T) (t2 : T ≤ 9223372036854775807) (hk : (k == 2) = false) :
    Calls Try.prog 44 #[.agg #[.int .i64 k, .int .i64 a, .int .i64 x, .int .i64 1, .int .i64 p, .int .i64 cc, .int .i64 cw, .int .i64 r, .int .i64 v, .bool false], .int .i64 T] w fun e w' => e = .returned (.agg #[.int .i64 k, .int .i64 a, .int .i64 x, .int .i64 2, .int .i64 p, .int .i64 cc, .int .i64 cw, .int .i64 r, .int .i64 v, .bool false]) ∧ Below w.heap.size w w' := by
  obtain ⟨s1, s2⟩ := stHead_bds T t1 t2
  have hub := un_bd cw
  go_enter Try.func44, Try.ntmps44
  go_wp2
  refine wp_scope_hops 3 fun C HC => ?_
  go_wp2
  go_step3
  refine hop_goto HC rfl ?_
  go_wp2
  try rw [hop_ret]
  exact bodyPost_ret (v := .agg #[.int .i64 k, .int .i64 a, .int .i64 x, .int .i64 2, .int .i64 p, .int .i64 cc, .int .i64 cw, .int .i64 r, .int .i64 v, .bool false]) (by simp [results, Try.results44, go_sem]) rfl ⟨rfl, by repeat (first | exact Below.refl _ _ | refine Below.setCell ?_ (by simp <;> omega) _ | refine Below.alloc ?_ (by simp <;> omega) _)⟩
set_option maxHeartbeats 1600000 in
set_option maxRecDepth 100000 in
theorem impl_told_E (k a x p cc cw r v T : Int) (w : World) (l : -9223372036854775808 ≤ cw) (u : cw ≤ 9223372036854775807) (t1 : -9223372036854775808 ≤ T) (t2 : T ≤ 9223372036854775807) (ht : (T == 1) = false) :
    Calls Try.prog 44 #[.agg #[.int .i64 k, .int .i64 a, .int .i64 x, .int .i64 2, .int .i64 p, .int .i64 cc, .int .i64 cw, .int .i64 r, .int .i64 v, .bool false], .int .i64 T] w fun e w' => e = .returned (.agg #[.int .i64 k, .int .i64 a, .int .i64 x, .int .i64 0, .int .i64 p, .int .i64 cc, .int .i64 cw, .int .i64 r, .int .i64 v, .bool false]) ∧ Below w.heap.size w w' := by
  obtain ⟨s1, s2⟩ := stHead_bds T t1 t2
  have hub := un_bd cw
  have ht' : (T != 1) = true := by simpa using ht
  go_enter Try.func44, Try.ntmps44
  go_wp2
  refine wp_scope_hops 3 fun C HC => ?_
  go_wp2
  go_step3
  refine hop_goto HC rfl ?_
  go_wp2
  go_step3
  refine hop_goto HC rfl ?_
  go_wp2
  try rw [hop_ret]
  exact bodyPost_ret (v := .agg #[.int .i64 k, .int .i64 a, .int .i64 x, .int .i64 0, .int .i64 p, .int .i64 cc, .int .i64 cw, .int .i64 r, .int .i64 v, .bool false]) (by simp [results, Try.results44, go_sem]) rfl ⟨rfl, by repeat (first | exact Below.refl _ _ | refine Below.setCell ?_ (by simp <;> omega) _ | refine Below.alloc ?_ (by simp <;> omega) _)⟩
set_option maxHeartbeats 1600000 in
set_option maxRecDepth 100000 in
theorem impl_told_F (a x p cc cw r v T : Int) (w : World) (l : -9223372036854775808 ≤ cw) (u : cw ≤ 9223372036854775807) (t1 : -9223372036854775808 ≤ T) (t2 : T ≤ 9223372036854775807) (ht : (T == 1) = true) :
    Calls Try.prog 44 #[.agg #[.int .i64 2, .int .i64 a, .int .i64 x, .int .i64 2, .int .i64 p, .int .i64 cc, .int .i64 cw, .int .i64 r, .int .i64 v, .bool false], .int .i64 T] w fun e w' => e = .returned (.agg #[.int .i64 2, .int .i64 a, .int .i64 x, .int .i64 3, .int .i64 p, .int .i64 cc, .int .i64 cw, .int .i64 1, .int .i64 (unI cw - 1), .bool true]) ∧ Below w.heap.size w w' := by
  obtain ⟨s1, s2⟩ := stHead_bds T t1 t2
  have hub := un_bd cw
  have ht' : (T != 1) = false := by simpa using ht
  go_enter Try.func44, Try.ntmps44
  go_wp2
  refine wp_scope_hops 3 fun C HC => ?_
  go_wp2
  go_step3
  refine hop_goto HC rfl ?_
  go_wp2_with fail
  refine (impl_wordindex cw _ l u).mono ?_
  rintro e w1 ⟨rfl, rfl⟩
  go_wp2
  go_step3
  go_wp2
  try rw [hop_ret]
  exact bodyPost_ret (v := .agg #[.int .i64 2, .int .i64 a, .int .i64 x, .int .i64 3, .int .i64 p, .int .i64 cc, .int .i64 cw, .int .i64 1, .int .i64 (unI cw - 1), .bool true]) (by simp [results, Try.results44, go_sem]) rfl ⟨rfl, by repeat (first | exact Below.refl _ _ | refine Below.setCell ?_ (by simp <;> omega) _ | refine Below.alloc ?_ (by simp <;> omega) _)⟩
set_option maxHeartbeats 1600000 in
set_option maxRecDepth 100000 in
theorem impl_told_G (k a x p cc cw r v T : Int) (w : World) (l : -9223372036854775808 ≤ cw) (u : cw ≤ 9223372036854775807) (t1 : -9223372036854775808 ≤ T) (t2 : T ≤ 9223372036854775807) (ht : (T == 1) = true) (hk : (k == 2) = false) :
    Calls Try.prog 44 #[.agg #[.int .i64 k, .int .i64 a, .int .i64 x, .int .i64 2, .int .i64 p, .int .i64 cc, .int .i64 cw, .int .i64 r, .int .i64 v, .bool false], .int .i64 T] w fun e w' => e = .returned (.agg #[.int .i64 k, .int .i64 a, .int .i64 x, .int .i64 3, .int .i64 p, .int .i64 cc, .int .i64 cw, .int .i64 1, .int .i64 v, .bool true]) ∧ Below w.heap.size w w' := by
  obtain ⟨s1, s2⟩ := stHead_bds T t1 t2
  have hub := un_bd cw
  have ht' : (T != 1) = false := by simpa using ht
  go_enter Try.func44, Try.ntmps44
  go_wp2
  refine wp_scope_hops 3 fun C HC => ?_
  go_wp2
  go_step3
  refine hop_goto HC rfl ?_
  go_wp2
  go_step3
  go_wp2
  try rw [hop_ret]
  exact bodyPost_ret (v := .agg #[.int .i64 k, .int .i64 a, .int .i64 x, .int .i64 3, .int .i64 p, .int .i64 cc, .int .i64 cw, .int .i64 1, .int .i64 v, .bool true]) (by simp [results, Try.results44, go_sem]) rfl ⟨rfl, by repeat (first | exact Below.refl _ _ | refine Below.setCell ?_ (by simp <;> omega) _ | refine Below.alloc ?_ (by simp <;> omega) _)⟩
theorem impl_told (k a x pc p cc cw r v T : Int) (w : World) (l : -9223372036854775808 ≤ cw) (u : cw ≤ 9223372036854775807) (t1 : -9223372036854775808 ≤ T) (t2 : T ≤ 9223372036854775807) (p1 : 0 ≤ pc) (p2 : pc ≤ 2) (co : Cl) (hco : iAfter ⟨k, a, x, pc, p, cc, cw, r, v, false⟩ T = co) :
    Calls Try.prog 44 #[.agg #[.int .i64 k, .int .i64 a, .int .i64 x, .int .i64 pc, .int .i64 p, .int .i64 cc, .int .i64 cw, .int .i64 r, .int .i64 v, .bool false], .int .i64 T] w fun e w' => e = .returned (.agg #[.int .i64 co.k, .int .i64 co.a, .int .i64 co.x, .int .i64 co.pc, .int .i64 co.p, .int .i64 co.c, .int .i64 co.w, .int .i64 co.r, .int .i64 co.v, .bool co.d]) ∧ Below w.heap.size w w' := by
  subst hco
  have fs : ∀ {q : Int} {i : Int}, ¬ q = i → (q == i) = false := fun h => by simpa using h
  have tr : ∀ {q : Int} {i : Int}, q = i → (q == i) = true := fun h => by simpa using h
  by_cases c0 : pc = 0
  · subst c0
    by_cases hk : k = 2
    · subst hk
      by_cases hi : unI (stHead T) = 0
      · rw [show iAfter ⟨2, a, x, 0, p, cc, cw, r, v, false⟩ T = ⟨2, a, x, 1, p, cc, stHead T, 2, v, true⟩ by simp [iAfter, hi]]
        exact impl_told_A1 a x p cc cw r v T w l u t1 t2 (tr hi)
      · rw [show iAfter ⟨2, a, x, 0, p, cc, cw, r, v, false⟩ T = ⟨2, a, x, 1, p, cc, stHead T, r, v, false⟩ by simp [iAfter, hi]]
        exact impl_told_A2 a x p cc cw r v T w l u t1 t2 (fs hi)
    · rw [show iAfter ⟨k, a, x, 0, p, cc, cw, r, v, false⟩ T = ⟨k, a, x, 1, p, cc, stHead T, r, v, false⟩ by simp [iAfter, hk]]
      exact impl_told_B k a x p cc cw r v T w l u t1 t2 (fs hk)
  · by_cases c1 : pc = 1
    · subst c1
      by_cases hk : k = 2
      · subst hk
        rw [show iAfter ⟨2, a, x, 1, p, cc, cw, r, v, false⟩ T = ⟨2, a, x, 2, p, T, cw, r, v, false⟩ by simp [iAfter]]
        exact impl_told_C a x p cc cw r v T w l u t1 t2
      · rw [show iAfter ⟨k, a, x, 1, p, cc, cw, r, v, false⟩ T = ⟨k, a, x, 2, p, cc, cw, r, v, false⟩ by simp [iAfter, hk]]
        exact impl_told_D k a x p cc cw r v T w l u t1 t2 (fs hk)
    · obtain rfl : pc = 2 := by omega
      by_cases ht : T = 1
      · by_cases hk : k = 2
        · subst hk
          rw [show iAfter ⟨2, a, x, 2, p, cc, cw, r, v, false⟩ T = ⟨2, a, x, 3, p, cc, cw, 1, unI cw - 1, true⟩ by simp [iAfter, ht]]
          exact impl_told_F a x p cc cw r v T w l u t1 t2 (tr ht)
        · rw [show iAfter ⟨k, a, x, 2, p, cc, cw, r, v, false⟩ T = ⟨k, a, x, 3, p, cc, cw, 1, v, true⟩ by simp [iAfter, ht, hk]]
          exact impl_told_G k a x p cc cw r v T w l u t1 t2 (tr ht) (fs hk)
      · rw [show iAfter ⟨k, a, x, 2, p, cc, cw, r, v, false⟩ T = ⟨k, a, x, 0, p, cc, cw, r, v, false⟩ by simp [iAfter, ht]]
        exact impl_told_E k a x p cc cw r v T w l u t1 t2 (fs ht)

end Go.Proofs.Ytabcmnoadoebpaa
