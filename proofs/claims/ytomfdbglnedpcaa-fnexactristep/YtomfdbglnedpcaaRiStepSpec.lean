/- A step of a ring's call, by the model. -/
import Derived.Test.YtomfdbglnedpcaaRows
import Derived.WalkKit
import Derived.ProofKit
import Derived.OpenShut
import Derived.ShutString
import Derived.Test.YtomfdbglnedpcaaRiSeenSpec
import Derived.Test.YtomfdbglnedpcaaRiActSpec
import Derived.Test.YtomfdbglnedpcaaDoFns
import Derived.Test.YtomfdbglnedpcaaOutMoves
import Derived.Deep.RegionHeld3
import Derived.Deep.DeepCutAuto
import Derived.Deep.CutBlock
namespace Go.Proofs.Ytomfdbglnedpcaa
open Go.ChangeShapes Go.WideShapes Go.ChangeAt Go.RowKit
set_option linter.unusedVariables false

set_option maxHeartbeats 8000000 in
set_option maxRecDepth 100000 in
theorem spec_ristep_yes (n k a x pc p cc cw r v T : Int) (ac : Ac) (co : Cl) (hco : riAfter n ⟨k, a, x, pc, p, cc, cw, r, v, false⟩ T = co) (lo hi : Nat) (mv : Value) (xs L : List Int) (w : World) (hn : xs.length ≤ 4194304) (hh : hi ≤ w.heap.size) (rm : Row w lo hi mv (ints xs)) (n2 : n ≤ 16) (n1 : 2 ≤ n) (hlen : (xs.length : Int) = 2 + 2 * n)
    (k1 : 1 ≤ k) (k2 : k ≤ 2) (p1 : 0 ≤ pc) (p2 : pc ≤ 4)
    (hA : ∀ W, Calls Try.prog 33 #[.int .i64 n, .agg #[.int .i64 k, .int .i64 a, .int .i64 x, .int .i64 pc, .int .i64 p, .int .i64 cc, .int .i64 cw, .int .i64 r, .int .i64 v, .bool false]] W fun e w' => e = .returned (.tuple #[.agg #[.int .i64 ac.k, .int .i64 ac.t, .int .i64 ac.a, .int .i64 ac.b], .bool true]) ∧ Below W.heap.size W w')
    (hD : ∀ lo hi v W, hi ≤ W.heap.size → Row W lo hi v (ints xs) → Calls Try.prog 34 #[.agg #[v], .agg #[.int .i64 ac.k, .int .i64 ac.t, .int .i64 ac.a, .int .i64 ac.b]] W fun e w' => ∃ v', e = .returned (.tuple #[.agg #[v'], .int .i64 T, .bool true]) ∧ Row w' W.heap.size w'.heap.size v' (ints L) ∧ Below W.heap.size W w') :
    Calls Try.prog 10 #[.int .i64 n, .agg #[mv], .agg #[.int .i64 k, .int .i64 a, .int .i64 x, .int .i64 pc, .int .i64 p, .int .i64 cc, .int .i64 cw, .int .i64 r, .int .i64 v, .bool false]] w fun e w' => ∃ v', e = .returned (.tuple #[.agg #[v'], .agg #[.int .i64 co.k, .int .i64 co.a, .int .i64 co.x, .int .i64 co.pc, .int .i64 co.p, .int .i64 co.c, .int .i64 co.w, .int .i64 co.r, .int .i64 co.v, .bool co.d], .bool true]) ∧ Row w' w.heap.size w'.heap.size v' (ints L) ∧ Below w.heap.size w w' := by
  have HA := hidIt hA
  have HD := hidIt hD
  have RM := hidIt rm
  obtain ⟨am, cm, rfl⟩ := rm.form
  clear hA hD rm
  have hne : ((xs.length : Int) != 2 + 2 * n) = false := by simpa using hlen
  have HLEN := hidIt hlen
  clear hlen
  go_enter Try.func10, Try.ntmps10
  go_wp2_with fail
  refine (HA.out _).mono ?_
  rintro e w1 ⟨rfl, b1⟩
  have z1 := b1.size
  simp at z1
  have m0 : w1.cell? ⟨w.heap.size, 0, none⟩ = some (.slice am xs.length cm) := below_cell b1 (by simp <;> omega) (by simp [go_sem])
  have k0 : (∀ o, w1.cell? ⟨w.heap.size + 1, o, none⟩ = #[.int .i64 k, .int .i64 a, .int .i64 x, .int .i64 pc, .int .i64 p, .int .i64 cc, .int .i64 cw, .int .i64 r, .int .i64 v, .bool false][o]?) ∧ (∀ o, w1.frozen? ⟨w.heap.size + 1, o, none⟩ = false) := ⟨fun o => below_cell b1 (by simp <;> omega) (by simp [go_sem]), fun o => below_frozen b1 (by simp <;> omega) (by simp [go_sem])⟩
  have k3 : (∀ o, w1.cell? ⟨w.heap.size + 1 + 1, o, none⟩ = #[Value.slice none 0 0][o]?) ∧ (∀ o, w1.frozen? ⟨w.heap.size + 1 + 1, o, none⟩ = false) := ⟨fun o => below_cell b1 (by simp <;> omega) (by simp [go_sem]), fun o => below_frozen b1 (by simp <;> omega) (by simp [go_sem])⟩
  have k4 : (∀ o, w1.cell? ⟨w.heap.size + 1 + 1 + 1, o, none⟩ = #[.int .i64 0, .int .i64 0, .int .i64 0, .int .i64 0, .int .i64 0, .int .i64 0, .int .i64 0, .int .i64 0, .int .i64 0, .bool false][o]?) ∧ (∀ o, w1.frozen? ⟨w.heap.size + 1 + 1 + 1, o, none⟩ = false) := ⟨fun o => below_cell b1 (by simp <;> omega) (by simp [go_sem]), fun o => below_frozen b1 (by simp <;> omega) (by simp [go_sem])⟩
  have B1 := hidIt ((((((Below.refl w.heap.size w).alloc (Nat.le_refl _) _).alloc (by simp) _).alloc (by simp <;> omega) _).alloc (by simp <;> omega) _).trans (b1.mono (by simp <;> omega)))
  have K0 := hidIt k0
  have K3 := hidIt k3
  have K4 := hidIt k4
  have hz1 : w.heap.size < w1.heap.size := by omega
  clear b1 k0 k3 k4
  go_wp2_with fail
  refine (HD.out lo hi _ _ (by simp; omega) ((RM.out.below (B1.out.mono hh)).alloc (by omega) _)).mono ?_
  rintro e w2 ⟨v2, rfl, r2, b2⟩
  have z2 := b2.size
  simp at z2
  have R2 := hidIt r2
  obtain ⟨a2, c2, rfl⟩ := r2.form
  have B2 := hidIt ((B1.out.alloc (by omega) _).trans (b2.mono (by simp <;> omega)))
  have q0 : w2.cell? ⟨w.heap.size, 0, none⟩ = some (.slice am xs.length cm) := below_cell b2 (by simp <;> omega) (by rw [World.cell?_alloc_lt _ _ _ (by simp <;> omega)]; exact m0)
  have q1 : ∀ o, w2.cell? ⟨w.heap.size + 1, o, none⟩ = #[.int .i64 k, .int .i64 a, .int .i64 x, .int .i64 pc, .int .i64 p, .int .i64 cc, .int .i64 cw, .int .i64 r, .int .i64 v, .bool false][o]? := fun o => below_cell b2 (by simp <;> omega) (by rw [World.cell?_alloc_lt _ _ _ (by simp <;> omega)]; exact K0.out.1 o)
  have q2 : ∀ o, w2.frozen? ⟨w.heap.size + 1, o, none⟩ = false := fun o => below_frozen b2 (by simp <;> omega) (by rw [World.frozen?_alloc_old _ _ _ (by simp <;> omega)]; exact K0.out.2 o)
  have q3 : ∀ o, w2.cell? ⟨w.heap.size + 1 + 1, o, none⟩ = #[Value.slice none 0 0][o]? := fun o => below_cell b2 (by simp <;> omega) (by rw [World.cell?_alloc_lt _ _ _ (by simp <;> omega)]; exact K3.out.1 o)
  have q4 : ∀ o, w2.frozen? ⟨w.heap.size + 1 + 1, o, none⟩ = false := fun o => below_frozen b2 (by simp <;> omega) (by rw [World.frozen?_alloc_old _ _ _ (by simp <;> omega)]; exact K3.out.2 o)
  have q5 : ∀ o, w2.cell? ⟨w.heap.size + 1 + 1 + 1, o, none⟩ = #[.int .i64 0, .int .i64 0, .int .i64 0, .int .i64 0, .int .i64 0, .int .i64 0, .int .i64 0, .int .i64 0, .int .i64 0, .bool false][o]? := fun o => below_cell b2 (by simp <;> omega) (by rw [World.cell?_alloc_lt _ _ _ (by simp <;> omega)]; exact K4.out.1 o)
  have q6 : ∀ o, w2.frozen? ⟨w.heap.size + 1 + 1 + 1, o, none⟩ = false := fun o => below_frozen b2 (by simp <;> omega) (by rw [World.frozen?_alloc_old _ _ _ (by simp <;> omega)]; exact K4.out.2 o)
  have y0 : w.heap.size < w2.heap.size := by omega
  have y1 : w.heap.size + 1 < w2.heap.size := by omega
  have y2 : w.heap.size + 1 + 1 < w2.heap.size := by omega
  have y3 : w.heap.size + 1 + 1 + 1 < w2.heap.size := by omega
  clear r2 b2 m0 K0 K3 K4 B1
  go_upto_block 0 with fail
  go_cut [] (fun wc => Hid (wc.cell? ⟨w2.heap.size, 0, none⟩ = some (.slice a2 L.length c2) ∧ (∀ o, wc.cell? ⟨w.heap.size + 1, o, none⟩ = #[Value.int .i64 co.k, .int .i64 co.a, .int .i64 co.x, .int .i64 co.pc, .int .i64 co.p, .int .i64 co.c, .int .i64 co.w, .int .i64 co.r, .int .i64 co.v, .bool co.d][o]?) ∧ w2.heap.size < wc.heap.size ∧ Out (w.heap.size + 1) (w.heap.size + 2) w2 wc))
  case first =>
    obtain rfl | rfl | rfl | rfl | rfl : pc = 0 ∨ pc = 1 ∨ pc = 2 ∨ pc = 3 ∨ pc = 4 := by omega
    · have hs : riAfter n ⟨k, a, x, 0, p, cc, cw, r, v, false⟩ T = ⟨k, a, x, 1, T, cc, cw, r, v, false⟩ := by simp [riAfter]
      rw [hs] at hco
      subst hco
      clear hs
      go_wp2
      go_meet
      exact ⟨by simp [go_sem], fun o => by rcases o with _ | _ | _ | _ | _ | _ | _ | _ | _ | _ | o <;> simp [go_sem, q1, y1], by simp, (by repeat (first | with_reducible assumption | with_reducible exact Out.refl _ _ _ | with_reducible refine Out.drew ?_ | with_reducible refine Out.setCell ?_ (by simp <;> omega) (by simp <;> omega) | with_reducible refine Out.alloc ?_ _))⟩
    · have hs : riAfter n ⟨k, a, x, 1, p, cc, cw, r, v, false⟩ T = riSeen ⟨k, a, x, 1, p, cc, cw, r, v, false⟩ T := by simp [riAfter, riSeen]
      rw [hs] at hco
      clear hs
      have HC := hidIt hco
      clear hco
      go_wp2_with fail
      refine (spec_seen k a x p cc cw r v T _ (by omega) co HC.out).mono ?_
      rintro e w3 ⟨rfl, b3⟩
      have g0 : (∀ o, w3.cell? ⟨w.heap.size + 1, o, none⟩ = #[Value.int .i64 k, .int .i64 a, .int .i64 x, .int .i64 2, .int .i64 p, .int .i64 cc, .int .i64 cw, .int .i64 r, .int .i64 v, .bool false][o]?) := fun o => below_cell b3 (by simp <;> omega) (by rcases o with _ | _ | _ | _ | _ | _ | _ | _ | _ | _ | o <;> simp [go_sem, q1, y1])
      have g1 : (∀ o, w3.frozen? ⟨w.heap.size + 1, o, none⟩ = false) := fun o => below_frozen b3 (by simp <;> omega) (by simp [go_sem, q2, y1])
      have g2 : w3.cell? ⟨w2.heap.size, 0, none⟩ = some (.slice a2 L.length c2) := below_cell b3 (by simp) (by simp [go_sem])
      have z3 := b3.size
      simp at z3
      have O3 : Out (w.heap.size + 1) (w.heap.size + 2) w2 w3 := Out.trans (by repeat (first | with_reducible assumption | with_reducible exact Out.refl _ _ _ | with_reducible refine Out.drew ?_ | with_reducible refine Out.setCell ?_ (by simp <;> omega) (by simp <;> omega) | with_reducible refine Out.alloc ?_ _)) (Out.of_below b3)
      clear b3
      go_wp2
      go_meet
      exact ⟨by simp [go_sem, g2], fun o => by rcases o with _ | _ | _ | _ | _ | _ | _ | _ | _ | _ | o <;> simp [go_sem, g0], by simp <;> omega, (by repeat (first | with_reducible assumption | with_reducible exact Out.refl _ _ _ | with_reducible refine Out.drew ?_ | with_reducible refine Out.setCell ?_ (by simp <;> omega) (by simp <;> omega) | with_reducible refine Out.alloc ?_ _))⟩
    · by_cases h0 : T = 0
      · have hs : riAfter n ⟨k, a, x, 2, p, cc, cw, r, v, false⟩ T = ⟨k, a, x, 0, p, cc, cw, r, v, false⟩ := by simp [riAfter, h0]
        rw [hs] at hco
        subst hco
        have e0 : (T == 0) = true := by simpa using h0
        clear hs h0
        go_wp2
        go_meet
        exact ⟨by simp [go_sem], fun o => by rcases o with _ | _ | _ | _ | _ | _ | _ | _ | _ | _ | o <;> simp [go_sem, q1, y1], by simp, (by repeat (first | with_reducible assumption | with_reducible exact Out.refl _ _ _ | with_reducible refine Out.drew ?_ | with_reducible refine Out.setCell ?_ (by simp <;> omega) (by simp <;> omega) | with_reducible refine Out.alloc ?_ _))⟩
      · have hs : riAfter n ⟨k, a, x, 2, p, cc, cw, r, v, false⟩ T = ⟨k, a, x, 3, p, cc, cw, r, v, false⟩ := by simp [riAfter, h0]
        rw [hs] at hco
        subst hco
        have e0 : (T == 0) = false := by simpa using h0
        clear hs h0
        go_wp2
        go_meet
        exact ⟨by simp [go_sem], fun o => by rcases o with _ | _ | _ | _ | _ | _ | _ | _ | _ | _ | o <;> simp [go_sem, q1, y1], by simp, (by repeat (first | with_reducible assumption | with_reducible exact Out.refl _ _ _ | with_reducible refine Out.drew ?_ | with_reducible refine Out.setCell ?_ (by simp <;> omega) (by simp <;> omega) | with_reducible refine Out.alloc ?_ _))⟩
    · obtain rfl | rfl : k = 1 ∨ k = 2 := by omega
      · have hs : riAfter n ⟨1, a, x, 3, p, cc, cw, r, v, false⟩ T = ⟨1, a, x, 4, p, cc, cw, r, v, false⟩ := by simp [riAfter]
        rw [hs] at hco
        subst hco
        clear hs
        go_wp2
        go_meet
        exact ⟨by simp [go_sem], fun o => by rcases o with _ | _ | _ | _ | _ | _ | _ | _ | _ | _ | o <;> simp [go_sem, q1, y1], by simp, (by repeat (first | with_reducible assumption | with_reducible exact Out.refl _ _ _ | with_reducible refine Out.drew ?_ | with_reducible refine Out.setCell ?_ (by simp <;> omega) (by simp <;> omega) | with_reducible refine Out.alloc ?_ _))⟩
      · have hs : riAfter n ⟨2, a, x, 3, p, cc, cw, r, v, false⟩ T = ⟨2, a, x, 4, p, cc, cw, r, T, false⟩ := by simp [riAfter]
        rw [hs] at hco
        subst hco
        clear hs
        go_wp2
        go_meet
        exact ⟨by simp [go_sem], fun o => by rcases o with _ | _ | _ | _ | _ | _ | _ | _ | _ | _ | o <;> simp [go_sem, q1, y1], by simp, (by repeat (first | with_reducible assumption | with_reducible exact Out.refl _ _ _ | with_reducible refine Out.drew ?_ | with_reducible refine Out.setCell ?_ (by simp <;> omega) (by simp <;> omega) | with_reducible refine Out.alloc ?_ _))⟩
    · have hs : riAfter n ⟨k, a, x, 4, p, cc, cw, r, v, false⟩ T = ⟨k, a, x, 5, p, cc, cw, 1, v, true⟩ := by simp [riAfter]
      rw [hs] at hco
      subst hco
      clear hs
      go_wp2_with fail
      refine (spec_end k a x 5 p cc cw r v 1 false _).mono ?_
      rintro e w3 ⟨rfl, b3⟩
      have g0 : (∀ o, w3.cell? ⟨w.heap.size + 1, o, none⟩ = #[Value.int .i64 k, .int .i64 a, .int .i64 x, .int .i64 5, .int .i64 p, .int .i64 cc, .int .i64 cw, .int .i64 r, .int .i64 v, .bool false][o]?) := fun o => below_cell b3 (by simp <;> omega) (by rcases o with _ | _ | _ | _ | _ | _ | _ | _ | _ | _ | o <;> simp [go_sem, q1, y1])
      have g1 : (∀ o, w3.frozen? ⟨w.heap.size + 1, o, none⟩ = false) := fun o => below_frozen b3 (by simp <;> omega) (by simp [go_sem, q2, y1])
      have g2 : w3.cell? ⟨w2.heap.size, 0, none⟩ = some (.slice a2 L.length c2) := below_cell b3 (by simp) (by simp [go_sem])
      have z3 := b3.size
      simp at z3
      have O3 : Out (w.heap.size + 1) (w.heap.size + 2) w2 w3 := Out.trans (by repeat (first | with_reducible assumption | with_reducible exact Out.refl _ _ _ | with_reducible refine Out.drew ?_ | with_reducible refine Out.setCell ?_ (by simp <;> omega) (by simp <;> omega) | with_reducible refine Out.alloc ?_ _)) (Out.of_below b3)
      clear b3
      go_wp2
      go_meet
      exact ⟨by simp [go_sem, g2], fun o => by rcases o with _ | _ | _ | _ | _ | _ | _ | _ | _ | _ | o <;> simp [go_sem, g0], by simp <;> omega, (by repeat (first | with_reducible assumption | with_reducible exact Out.refl _ _ _ | with_reducible refine Out.drew ?_ | with_reducible refine Out.setCell ?_ (by simp <;> omega) (by simp <;> omega) | with_reducible refine Out.alloc ?_ _))⟩
  case rest =>
    go_wp2_with fail
    obtain ⟨t0, t1, t2, HO⟩ := hcut.out
    have s3 : (∀ o, wc.cell? ⟨w.heap.size + 1 + 1, o, none⟩ = #[Value.slice none 0 0][o]?) ∧ (∀ o, wc.frozen? ⟨w.heap.size + 1 + 1, o, none⟩ = false) := ⟨fun o => HO.cell y2 (by omega) (q3 o), fun o => HO.frozen y2 (by omega) (q4 o)⟩
    have s4 : (∀ o, wc.cell? ⟨w.heap.size + 1 + 1 + 1, o, none⟩ = #[Value.int .i64 0, .int .i64 0, .int .i64 0, .int .i64 0, .int .i64 0, .int .i64 0, .int .i64 0, .int .i64 0, .int .i64 0, .bool false][o]?) ∧ (∀ o, wc.frozen? ⟨w.heap.size + 1 + 1 + 1, o, none⟩ = false) := ⟨fun o => HO.cell y3 (by omega) (q5 o), fun o => HO.frozen y3 (by omega) (q6 o)⟩
    have B4 := hidIt (B2.out.trans (HO.below (by omega) (by omega)))
    have R4 := hidIt (R2.out.out HO (Nat.le_refl _) (.inr (by simp <;> omega)))
    have OO := hidIt (show ∀ W, Out (w.heap.size + 2) (w.heap.size + 4) wc W → Out (w.heap.size + 2) (w.heap.size + 4) wc W ∧ W.cell? ⟨w2.heap.size, 0, none⟩ = some (.slice a2 L.length c2) ∧ ∀ o, W.cell? ⟨w.heap.size + 1, o, none⟩ = #[Value.int .i64 co.k, .int .i64 co.a, .int .i64 co.x, .int .i64 co.pc, .int .i64 co.p, .int .i64 co.c, .int .i64 co.w, .int .i64 co.r, .int .i64 co.v, .bool co.d][o]? from fun W h => ⟨h, h.cell (by omega) (by omega) t0, fun o => h.cell (by omega) (by omega) (t1 o)⟩)
    have u1 : w2.heap.size ≠ w.heap.size + 1 + 1 := by omega
    have u2 : w2.heap.size ≠ w.heap.size + 1 + 1 + 1 := by omega
    have u3 : ¬ w.heap.size + 1 + 1 = w2.heap.size := by omega
    have u4 : ¬ w.heap.size + 1 + 1 + 1 = w2.heap.size := by omega
    clear hcut HO q0 q1 q2 q3 q4 q5 q6 HA HD hco
    go_region_held3 (fun W => Out (w.heap.size + 2) (w.heap.size + 4) wc W ∧ W.cell? ⟨w2.heap.size, 0, none⟩ = some (.slice a2 L.length c2) ∧ ∀ o, W.cell? ⟨w.heap.size + 1, o, none⟩ = #[Value.int .i64 co.k, .int .i64 co.a, .int .i64 co.x, .int .i64 co.pc, .int .i64 co.p, .int .i64 co.c, .int .i64 co.w, .int .i64 co.r, .int .i64 co.v, .bool co.d][o]?) (first | (go_split_ands; refine OO.out _ ?_; repeat (first | with_reducible assumption | with_reducible exact Out.refl _ _ _ | with_reducible refine Out.drew ?_ | with_reducible refine Out.setCell ?_ (by simp <;> omega) (by simp <;> omega) | with_reducible refine Out.alloc ?_ _))) (fail)
    all_goals
      rename_i hHeld
      have ho := hHeld.1
      clear hHeld OO
      generalize hX : World.setCell _ _ (Value.bool co.d) = X at ho ⊢
      have x1 : X.cell? ⟨w.heap.size + 1 + 1, 0, none⟩ = some (.slice a2 L.length c2) ∧ X.cell? ⟨w.heap.size + 1 + 1 + 1, 0, none⟩ = some (.int .i64 co.k) ∧ X.cell? ⟨w.heap.size + 1 + 1 + 1, 1, none⟩ = some (.int .i64 co.a) ∧ X.cell? ⟨w.heap.size + 1 + 1 + 1, 2, none⟩ = some (.int .i64 co.x) ∧ X.cell? ⟨w.heap.size + 1 + 1 + 1, 3, none⟩ = some (.int .i64 co.pc) ∧ X.cell? ⟨w.heap.size + 1 + 1 + 1, 4, none⟩ = some (.int .i64 co.p) ∧ X.cell? ⟨w.heap.size + 1 + 1 + 1, 5, none⟩ = some (.int .i64 co.c) ∧ X.cell? ⟨w.heap.size + 1 + 1 + 1, 6, none⟩ = some (.int .i64 co.w) ∧ X.cell? ⟨w.heap.size + 1 + 1 + 1, 7, none⟩ = some (.int .i64 co.r) ∧ X.cell? ⟨w.heap.size + 1 + 1 + 1, 8, none⟩ = some (.int .i64 co.v) ∧ X.cell? ⟨w.heap.size + 1 + 1 + 1, 9, none⟩ = some (.bool co.d) := by rw [← hX]; exact ⟨by simp [go_sem, s3.1], by simp [go_sem, s4.1], by simp [go_sem, s4.1], by simp [go_sem, s4.1], by simp [go_sem, s4.1], by simp [go_sem, s4.1], by simp [go_sem, s4.1], by simp [go_sem, s4.1], by simp [go_sem, s4.1], by simp [go_sem, s4.1], by simp [go_sem, s4.1]⟩
      have HO := hidIt ho
      clear hX ho s3 s4 t0 t1
      go_wp2
      have zx := HO.out.size
      refine bodyPost_ret (v := .tuple #[.agg #[.slice a2 L.length c2], .agg #[.int .i64 co.k, .int .i64 co.a, .int .i64 co.x, .int .i64 co.pc, .int .i64 co.p, .int .i64 co.c, .int .i64 co.w, .int .i64 co.r, .int .i64 co.v, .bool co.d], .bool true]) (by simp [results, Try.results10, go_sem, x1]) rfl ⟨_, rfl, ?_, ?_⟩
      · exact ((R4.out.out HO.out (by omega) (.inr (by simp <;> omega))).lo (by simp <;> omega)).up (by omega)
      · exact B4.out.trans (HO.out.below (by omega) (by omega))

end Go.Proofs.Ytomfdbglnedpcaa
