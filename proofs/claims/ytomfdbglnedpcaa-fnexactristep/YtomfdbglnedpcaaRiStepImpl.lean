/- A step of a ring's call, by the program. -/
import Derived.Test.YtomfdbglnedpcaaRows
import Derived.WalkKit
import Derived.ProofKit
import Derived.OpenShut
import Derived.ShutString
import Derived.Test.YtomfdbglnedpcaaRiTakeImpl
import Derived.Test.YtomfdbglnedpcaaRiRing
import Derived.Test.YtomfdbglnedpcaaDoFns
import Derived.Test.YtomfdbglnedpcaaOutMoves
import Derived.Deep.RegionHeld3
import Derived.Deep.DeepCutAuto
namespace Go.Proofs.Ytomfdbglnedpcaa
open Go.ChangeShapes Go.WideShapes Go.ChangeAt Go.RowKit
set_option linter.unusedVariables false

set_option maxHeartbeats 8000000 in
set_option maxRecDepth 100000 in
theorem impl_ristep_yes (n k a x pc p cc cw r v T : Int) (ac : Ac) (F : Nat) (co : Cl) (lo hi : Nat) (mv : Value) (xs L : List Int) (w : World) (hh : hi ≤ w.heap.size) (rm : Row w lo hi mv (ints xs)) (hr : rngB n xs.length = true) (hF : F = 95 ∨ F = 97 ∨ F = 101 ∨ F = 98 ∨ F = 91 ∨ F = 102 ∨ F = 100)
    (hA : ∀ B W, B < W.heap.size → (∀ o, W.cell? ⟨B, o, none⟩ = #[Value.int .i64 k, .int .i64 a, .int .i64 x, .int .i64 pc, .int .i64 p, .int .i64 cc, .int .i64 cw, .int .i64 r, .int .i64 v, .bool false][o]?) → Calls Try.prog 38 #[.int .i64 n, .pointer (some ⟨B, 0, none⟩)] W fun e w' => e = .returned (.tuple #[.agg #[.int .i64 ac.k, .int .i64 ac.t, .int .i64 ac.a, .int .i64 ac.b, .func (.func F) #[.pointer (some ⟨B, 0, none⟩)] #[]], .bool true]) ∧ Below W.heap.size W w')
    (hD : ∀ lo hi v W, hi ≤ W.heap.size → Row W lo hi v (ints xs) → Calls Try.prog 40 #[.agg #[v], .agg #[.int .i64 ac.k, .int .i64 ac.t, .int .i64 ac.a, .int .i64 ac.b]] W fun e w' => ∃ v', e = .returned (.tuple #[.agg #[v'], .int .i64 T, .bool true]) ∧ Row w' W.heap.size w'.heap.size v' (ints L) ∧ Below W.heap.size W w')
    (hT : ∀ B W, At B #[Value.int .i64 k, .int .i64 a, .int .i64 x, .int .i64 pc, .int .i64 p, .int .i64 cc, .int .i64 cw, .int .i64 r, .int .i64 v, .bool false] W → Calls Try.prog F #[.pointer (some ⟨B, 0, none⟩), .int .i64 T] W fun e w' => e = .returned (.tuple #[]) ∧ Out B (B + 1) W w' ∧ At B #[Value.int .i64 co.k, .int .i64 co.a, .int .i64 co.x, .int .i64 co.pc, .int .i64 co.p, .int .i64 co.c, .int .i64 co.w, .int .i64 co.r, .int .i64 co.v, .bool co.d] w') :
    Calls Try.prog 13 #[.int .i64 n, .agg #[mv], .agg #[.int .i64 k, .int .i64 a, .int .i64 x, .int .i64 pc, .int .i64 p, .int .i64 cc, .int .i64 cw, .int .i64 r, .int .i64 v, .bool false]] w fun e w' => ∃ v', e = .returned (.tuple #[.agg #[v'], .agg #[.int .i64 co.k, .int .i64 co.a, .int .i64 co.x, .int .i64 co.pc, .int .i64 co.p, .int .i64 co.c, .int .i64 co.w, .int .i64 co.r, .int .i64 co.v, .bool co.d], .bool true]) ∧ Row w' w.heap.size w'.heap.size v' (ints L) ∧ Below w.heap.size w w' := by
  have HA := hidIt hA
  have HD := hidIt hD
  have HT := hidIt hT
  have HR := hidIt hr
  have RM := hidIt rm
  obtain ⟨am, cm, rfl⟩ := rm.form
  clear hA hD hT rm hr
  go_enter Try.func13, Try.ntmps13
  go_wp2_with fail
  refine (HA.out (w.heap.size + 1) _ (by simp <;> omega) (fun o => by simp [go_sem])).mono ?_
  rintro e w1 ⟨rfl, b1⟩
  have z1 := b1.size
  simp at z1
  have f0 : (∀ o, w1.cell? ⟨w.heap.size, o, none⟩ = #[Value.slice am xs.length cm][o]?) ∧ (∀ o, w1.frozen? ⟨w.heap.size, o, none⟩ = false) := ⟨fun o => below_cell b1 (by first | omega | (simp; done) | (simp; omega)) (by simp [go_sem]), fun o => below_frozen b1 (by first | omega | (simp; done) | (simp; omega)) (by simp [go_sem])⟩
  have f1 : (∀ o, w1.cell? ⟨w.heap.size + 1, o, none⟩ = #[Value.int .i64 k, .int .i64 a, .int .i64 x, .int .i64 pc, .int .i64 p, .int .i64 cc, .int .i64 cw, .int .i64 r, .int .i64 v, .bool false][o]?) ∧ (∀ o, w1.frozen? ⟨w.heap.size + 1, o, none⟩ = false) := ⟨fun o => below_cell b1 (by first | omega | (simp; done) | (simp; omega)) (by simp [go_sem]), fun o => below_frozen b1 (by first | omega | (simp; done) | (simp; omega)) (by simp [go_sem])⟩
  have f2 : (∀ o, w1.cell? ⟨w.heap.size + 1 + 1, o, none⟩ = #[Value.slice none 0 0][o]?) ∧ (∀ o, w1.frozen? ⟨w.heap.size + 1 + 1, o, none⟩ = false) := ⟨fun o => below_cell b1 (by first | omega | (simp; done) | (simp; omega)) (by simp [go_sem]), fun o => below_frozen b1 (by first | omega | (simp; done) | (simp; omega)) (by simp [go_sem])⟩
  have f3 : (∀ o, w1.cell? ⟨w.heap.size + 1 + 1 + 1, o, none⟩ = #[Value.int .i64 0, .int .i64 0, .int .i64 0, .int .i64 0, .int .i64 0, .int .i64 0, .int .i64 0, .int .i64 0, .int .i64 0, .bool false][o]?) ∧ (∀ o, w1.frozen? ⟨w.heap.size + 1 + 1 + 1, o, none⟩ = false) := ⟨fun o => below_cell b1 (by first | omega | (simp; done) | (simp; omega)) (by simp [go_sem]), fun o => below_frozen b1 (by first | omega | (simp; done) | (simp; omega)) (by simp [go_sem])⟩
  have B1 := hidIt ((((((Below.refl w.heap.size w).alloc (Nat.le_refl _) _).alloc (by simp) _).alloc (by simp <;> omega) _).alloc (by simp <;> omega) _).trans (b1.mono (by simp <;> omega)))
  clear b1
  have y1 : w.heap.size < w1.heap.size := by omega
  go_wp2_with fail
  refine (impl_isring n am xs.length cm _).mono ?_
  rintro e w2 ⟨rfl, b2⟩
  rw [HR.out]
  have z2 := b2.size
  simp at z2
  have g0 : (∀ o, w2.cell? ⟨w.heap.size, o, none⟩ = #[Value.slice am xs.length cm][o]?) ∧ (∀ o, w2.frozen? ⟨w.heap.size, o, none⟩ = false) := ⟨fun o => below_cell b2 (by first | omega | (simp; done) | (simp; omega)) (by rw [World.cell?_alloc_lt _ _ _ (by simp <;> omega)]; exact f0.1 o), fun o => below_frozen b2 (by first | omega | (simp; done) | (simp; omega)) (by rw [World.frozen?_alloc_old _ _ _ (by simp <;> omega)]; exact f0.2 o)⟩
  have g1 : (∀ o, w2.cell? ⟨w.heap.size + 1, o, none⟩ = #[Value.int .i64 k, .int .i64 a, .int .i64 x, .int .i64 pc, .int .i64 p, .int .i64 cc, .int .i64 cw, .int .i64 r, .int .i64 v, .bool false][o]?) ∧ (∀ o, w2.frozen? ⟨w.heap.size + 1, o, none⟩ = false) := ⟨fun o => below_cell b2 (by first | omega | (simp; done) | (simp; omega)) (by rw [World.cell?_alloc_lt _ _ _ (by simp <;> omega)]; exact f1.1 o), fun o => below_frozen b2 (by first | omega | (simp; done) | (simp; omega)) (by rw [World.frozen?_alloc_old _ _ _ (by simp <;> omega)]; exact f1.2 o)⟩
  have g2 : (∀ o, w2.cell? ⟨w.heap.size + 1 + 1, o, none⟩ = #[Value.slice none 0 0][o]?) ∧ (∀ o, w2.frozen? ⟨w.heap.size + 1 + 1, o, none⟩ = false) := ⟨fun o => below_cell b2 (by first | omega | (simp; done) | (simp; omega)) (by rw [World.cell?_alloc_lt _ _ _ (by simp <;> omega)]; exact f2.1 o), fun o => below_frozen b2 (by first | omega | (simp; done) | (simp; omega)) (by rw [World.frozen?_alloc_old _ _ _ (by simp <;> omega)]; exact f2.2 o)⟩
  have g3 : (∀ o, w2.cell? ⟨w.heap.size + 1 + 1 + 1, o, none⟩ = #[Value.int .i64 0, .int .i64 0, .int .i64 0, .int .i64 0, .int .i64 0, .int .i64 0, .int .i64 0, .int .i64 0, .int .i64 0, .bool false][o]?) ∧ (∀ o, w2.frozen? ⟨w.heap.size + 1 + 1 + 1, o, none⟩ = false) := ⟨fun o => below_cell b2 (by first | omega | (simp; done) | (simp; omega)) (by rw [World.cell?_alloc_lt _ _ _ (by simp <;> omega)]; exact f3.1 o), fun o => below_frozen b2 (by first | omega | (simp; done) | (simp; omega)) (by rw [World.frozen?_alloc_old _ _ _ (by simp <;> omega)]; exact f3.2 o)⟩
  have gs : (∀ o, w2.cell? ⟨w1.heap.size, o, none⟩ = #[Value.int .i64 ac.k, .int .i64 ac.t, .int .i64 ac.a, .int .i64 ac.b, .func (.func F) #[.pointer (some ⟨w.heap.size + 1, 0, none⟩)] #[]][o]?) := fun o => below_cell b2 (by simp) (by simp [go_sem])
  have B2 := hidIt ((B1.out.alloc (by omega) _).trans (b2.mono (by simp <;> omega)))
  clear b2 f0 f1 f2 f3 B1
  go_wp2_with fail
  refine (HD.out lo hi _ _ (by omega) (RM.out.below (B2.out.mono hh))).mono ?_
  rintro e w3 ⟨v3, rfl, r3, b3⟩
  have z3 := b3.size
  have R3 := hidIt r3
  obtain ⟨a2, c2, rfl⟩ := r3.form
  have h0 : (∀ o, w3.cell? ⟨w.heap.size, o, none⟩ = #[Value.slice am xs.length cm][o]?) ∧ (∀ o, w3.frozen? ⟨w.heap.size, o, none⟩ = false) := ⟨fun o => below_cell b3 (by first | omega | (simp; done) | (simp; omega)) (g0.1 o), fun o => below_frozen b3 (by first | omega | (simp; done) | (simp; omega)) (g0.2 o)⟩
  have h1 : (∀ o, w3.cell? ⟨w.heap.size + 1, o, none⟩ = #[Value.int .i64 k, .int .i64 a, .int .i64 x, .int .i64 pc, .int .i64 p, .int .i64 cc, .int .i64 cw, .int .i64 r, .int .i64 v, .bool false][o]?) ∧ (∀ o, w3.frozen? ⟨w.heap.size + 1, o, none⟩ = false) := ⟨fun o => below_cell b3 (by first | omega | (simp; done) | (simp; omega)) (g1.1 o), fun o => below_frozen b3 (by first | omega | (simp; done) | (simp; omega)) (g1.2 o)⟩
  have h2 : (∀ o, w3.cell? ⟨w.heap.size + 1 + 1, o, none⟩ = #[Value.slice none 0 0][o]?) ∧ (∀ o, w3.frozen? ⟨w.heap.size + 1 + 1, o, none⟩ = false) := ⟨fun o => below_cell b3 (by first | omega | (simp; done) | (simp; omega)) (g2.1 o), fun o => below_frozen b3 (by first | omega | (simp; done) | (simp; omega)) (g2.2 o)⟩
  have h3 : (∀ o, w3.cell? ⟨w.heap.size + 1 + 1 + 1, o, none⟩ = #[Value.int .i64 0, .int .i64 0, .int .i64 0, .int .i64 0, .int .i64 0, .int .i64 0, .int .i64 0, .int .i64 0, .int .i64 0, .bool false][o]?) ∧ (∀ o, w3.frozen? ⟨w.heap.size + 1 + 1 + 1, o, none⟩ = false) := ⟨fun o => below_cell b3 (by first | omega | (simp; done) | (simp; omega)) (g3.1 o), fun o => below_frozen b3 (by first | omega | (simp; done) | (simp; omega)) (g3.2 o)⟩
  have hs : (∀ o, w3.cell? ⟨w1.heap.size, o, none⟩ = #[Value.int .i64 ac.k, .int .i64 ac.t, .int .i64 ac.a, .int .i64 ac.b, .func (.func F) #[.pointer (some ⟨w.heap.size + 1, 0, none⟩)] #[]][o]?) := fun o => below_cell b3 (by omega) (gs o)
  have B3 := hidIt (B2.out.trans (b3.mono (by omega)))
  clear b3 g0 g1 g2 g3 gs B2 r3
  have yy : w1.heap.size < w3.heap.size := by omega
  go_upto_region 7 with fail
  go_cut [] (fun wc => Hid (Out (w.heap.size + 1) (w.heap.size + 1 + 1) (w3.alloc (.cells #[.slice a2 L.length c2] 28)) wc ∧ At (w.heap.size + 1) #[Value.int .i64 co.k, .int .i64 co.a, .int .i64 co.x, .int .i64 co.pc, .int .i64 co.p, .int .i64 co.c, .int .i64 co.w, .int .i64 co.r, .int .i64 co.v, .bool co.d] wc))
  case first =>
    rcases hF with rfl | rfl | rfl | rfl | rfl | rfl | rfl
    all_goals
      go_wp2_with fail
      refine (HT.out (w.heap.size + 1) _ ⟨by simp <;> omega, fun o => by rw [World.cell?_alloc_lt _ _ _ (by simp <;> omega)]; exact h1.1 o, fun o => by rw [World.frozen?_alloc_old _ _ _ (by simp <;> omega)]; exact h1.2 o⟩).mono ?_
      rintro e wc ⟨rfl, o5, a5⟩
      go_wp2
      go_meet
      exact ⟨o5, a5⟩
  case rest =>
  obtain ⟨o5, a5⟩ := hcut.out
  clear hcut hF
  have z5 := o5.size
  simp at z5
  obtain ⟨-, t1, -⟩ := a5
  have t0 : wc.cell? ⟨w3.heap.size, 0, none⟩ = some (.slice a2 L.length c2) := o5.cell (by simp) (by omega) (by simp [go_sem])
  have s3 : (∀ o, wc.cell? ⟨w.heap.size + 1 + 1, o, none⟩ = #[Value.slice none 0 0][o]?) ∧ (∀ o, wc.frozen? ⟨w.heap.size + 1 + 1, o, none⟩ = false) := ⟨fun o => o5.cell (by simp <;> omega) (by omega) (by rw [World.cell?_alloc_lt _ _ _ (by simp <;> omega)]; exact h2.1 o), fun o => o5.frozen (by simp <;> omega) (by omega) (by rw [World.frozen?_alloc_old _ _ _ (by simp <;> omega)]; exact h2.2 o)⟩
  have s4 : (∀ o, wc.cell? ⟨w.heap.size + 1 + 1 + 1, o, none⟩ = #[Value.int .i64 0, .int .i64 0, .int .i64 0, .int .i64 0, .int .i64 0, .int .i64 0, .int .i64 0, .int .i64 0, .int .i64 0, .bool false][o]?) ∧ (∀ o, wc.frozen? ⟨w.heap.size + 1 + 1 + 1, o, none⟩ = false) := ⟨fun o => o5.cell (by simp <;> omega) (by omega) (by rw [World.cell?_alloc_lt _ _ _ (by simp <;> omega)]; exact h3.1 o), fun o => o5.frozen (by simp <;> omega) (by omega) (by rw [World.frozen?_alloc_old _ _ _ (by simp <;> omega)]; exact h3.2 o)⟩
  have B4 := hidIt ((B3.out.alloc (by omega) _).trans (o5.below (by omega) (by simp <;> omega)))
  have R4 := hidIt ((R3.out.alloc (Nat.le_refl _) _).out o5 (by simp) (.inr (by omega)))
  have t2 : w3.heap.size < wc.heap.size := by omega
  have y2 : w.heap.size + 1 + 1 < wc.heap.size := by omega
  have y3 : w.heap.size + 1 + 1 + 1 < wc.heap.size := by omega
  clear o5 h0 h1 h2 h3 hs B3 R3 HA HD HT
  go_wp2_with fail
  have OO := hidIt (show ∀ W, Out (w.heap.size + 2) (w.heap.size + 4) wc W → Out (w.heap.size + 2) (w.heap.size + 4) wc W ∧ W.cell? ⟨w3.heap.size, 0, none⟩ = some (.slice a2 L.length c2) ∧ ∀ o, W.cell? ⟨w.heap.size + 1, o, none⟩ = #[Value.int .i64 co.k, .int .i64 co.a, .int .i64 co.x, .int .i64 co.pc, .int .i64 co.p, .int .i64 co.c, .int .i64 co.w, .int .i64 co.r, .int .i64 co.v, .bool co.d][o]? from fun W h => ⟨h, h.cell (by omega) (by omega) t0, fun o => h.cell (by omega) (by omega) (t1 o)⟩)
  have u1 : w3.heap.size ≠ w.heap.size + 1 + 1 := by omega
  have u2 : w3.heap.size ≠ w.heap.size + 1 + 1 + 1 := by omega
  have u3 : ¬ w.heap.size + 1 + 1 = w3.heap.size := by omega
  have u4 : ¬ w.heap.size + 1 + 1 + 1 = w3.heap.size := by omega
  go_region_held3 (fun W => Out (w.heap.size + 2) (w.heap.size + 4) wc W ∧ W.cell? ⟨w3.heap.size, 0, none⟩ = some (.slice a2 L.length c2) ∧ ∀ o, W.cell? ⟨w.heap.size + 1, o, none⟩ = #[Value.int .i64 co.k, .int .i64 co.a, .int .i64 co.x, .int .i64 co.pc, .int .i64 co.p, .int .i64 co.c, .int .i64 co.w, .int .i64 co.r, .int .i64 co.v, .bool co.d][o]?) (first | (go_split_ands; refine OO.out _ ?_; repeat (first | with_reducible assumption | with_reducible exact Out.refl _ _ _ | with_reducible refine Out.drew ?_ | with_reducible refine Out.setCell ?_ (by simp <;> omega) (by simp <;> omega) | with_reducible refine Out.alloc ?_ _))) (fail)
  all_goals
    rename_i hHeld
    have ho := hHeld.1
    clear hHeld OO
    generalize hX : World.setCell _ _ (Value.bool co.d) = X at ho ⊢
    have x1 : X.cell? ⟨w.heap.size + 1 + 1, 0, none⟩ = some (.slice a2 L.length c2) ∧ X.cell? ⟨w.heap.size + 1 + 1 + 1, 0, none⟩ = some (.int .i64 co.k) ∧ X.cell? ⟨w.heap.size + 1 + 1 + 1, 1, none⟩ = some (.int .i64 co.a) ∧ X.cell? ⟨w.heap.size + 1 + 1 + 1, 2, none⟩ = some (.int .i64 co.x) ∧ X.cell? ⟨w.heap.size + 1 + 1 + 1, 3, none⟩ = some (.int .i64 co.pc) ∧ X.cell? ⟨w.heap.size + 1 + 1 + 1, 4, none⟩ = some (.int .i64 co.p) ∧ X.cell? ⟨w.heap.size + 1 + 1 + 1, 5, none⟩ = some (.int .i64 co.c) ∧ X.cell? ⟨w.heap.size + 1 + 1 + 1, 6, none⟩ = some (.int .i64 co.w) ∧ X.cell? ⟨w.heap.size + 1 + 1 + 1, 7, none⟩ = some (.int .i64 co.r) ∧ X.cell? ⟨w.heap.size + 1 + 1 + 1, 8, none⟩ = some (.int .i64 co.v) ∧ X.cell? ⟨w.heap.size + 1 + 1 + 1, 9, none⟩ = some (.bool co.d) := by rw [← hX]; exact ⟨by simp [go_sem, s3.1], by simp [go_sem, s4.1], by simp [go_sem, s4.1], by simp [go_sem, s4.1], by simp [go_sem, s4.1], by simp [go_sem, s4.1], by simp [go_sem, s4.1], by simp [go_sem, s4.1], by simp [go_sem, s4.1], by simp [go_sem, s4.1], by simp [go_sem, s4.1]⟩
    have HO := hidIt ho
    clear hX ho s3 s4 t0 t1
    go_wp2
    have zx := HO.out.size
    refine bodyPost_ret (v := .tuple #[.agg #[.slice a2 L.length c2], .agg #[.int .i64 co.k, .int .i64 co.a, .int .i64 co.x, .int .i64 co.pc, .int .i64 co.p, .int .i64 co.c, .int .i64 co.w, .int .i64 co.r, .int .i64 co.v, .bool co.d], .bool true]) (by simp [results, Try.results13, go_sem, x1]) rfl ⟨_, rfl, ?_, ?_⟩
    · exact ((R4.out.out HO.out (by omega) (.inr (by first | omega | (simp <;> omega)))).lo (by first | omega | (simp <;> omega))).up (by omega)
    · exact B4.out.trans (HO.out.below (by omega) (by omega))
set_option maxHeartbeats 1600000 in
set_option maxRecDepth 100000 in
theorem impl_ristep_no1 (n k a x pc p cc cw r v : Int) (d : Bool) (ac : Ac) (am : Option Addr) (m cm : Nat) (w : World)
    (hA : ∀ B W, B < W.heap.size → (∀ o, W.cell? ⟨B, o, none⟩ = #[Value.int .i64 k, .int .i64 a, .int .i64 x, .int .i64 pc, .int .i64 p, .int .i64 cc, .int .i64 cw, .int .i64 r, .int .i64 v, .bool d][o]?) → Calls Try.prog 38 #[.int .i64 n, .pointer (some ⟨B, 0, none⟩)] W fun e w' => e = .returned (.tuple #[.agg #[.int .i64 ac.k, .int .i64 ac.t, .int .i64 ac.a, .int .i64 ac.b, .nilFunc], .bool false]) ∧ Below W.heap.size W w') :
    Calls Try.prog 13 #[.int .i64 n, .agg #[.slice am m cm], .agg #[.int .i64 k, .int .i64 a, .int .i64 x, .int .i64 pc, .int .i64 p, .int .i64 cc, .int .i64 cw, .int .i64 r, .int .i64 v, .bool d]] w fun e w' => e = .returned (.tuple #[.agg #[.slice none 0 0], .agg #[.int .i64 0, .int .i64 0, .int .i64 0, .int .i64 0, .int .i64 0, .int .i64 0, .int .i64 0, .int .i64 0, .int .i64 0, .bool false], .bool false]) ∧ Below w.heap.size w w' := by
  have HA := hidIt hA
  clear hA
  go_enter Try.func13, Try.ntmps13
  go_wp2_with fail
  refine (HA.out (w.heap.size + 1) _ (by simp <;> omega) (fun o => by simp [go_sem])).mono ?_
  rintro e w1 ⟨rfl, b1⟩
  have z1 := b1.size
  simp at z1
  have f0 : (∀ o, w1.cell? ⟨w.heap.size, o, none⟩ = #[Value.slice am m cm][o]?) ∧ (∀ o, w1.frozen? ⟨w.heap.size, o, none⟩ = false) := ⟨fun o => below_cell b1 (by first | omega | (simp; done) | (simp; omega)) (by simp [go_sem]), fun o => below_frozen b1 (by first | omega | (simp; done) | (simp; omega)) (by simp [go_sem])⟩
  have f1 : (∀ o, w1.cell? ⟨w.heap.size + 1, o, none⟩ = #[Value.int .i64 k, .int .i64 a, .int .i64 x, .int .i64 pc, .int .i64 p, .int .i64 cc, .int .i64 cw, .int .i64 r, .int .i64 v, .bool d][o]?) ∧ (∀ o, w1.frozen? ⟨w.heap.size + 1, o, none⟩ = false) := ⟨fun o => below_cell b1 (by first | omega | (simp; done) | (simp; omega)) (by simp [go_sem]), fun o => below_frozen b1 (by first | omega | (simp; done) | (simp; omega)) (by simp [go_sem])⟩
  have f2 : (∀ o, w1.cell? ⟨w.heap.size + 1 + 1, o, none⟩ = #[Value.slice none 0 0][o]?) ∧ (∀ o, w1.frozen? ⟨w.heap.size + 1 + 1, o, none⟩ = false) := ⟨fun o => below_cell b1 (by first | omega | (simp; done) | (simp; omega)) (by simp [go_sem]), fun o => below_frozen b1 (by first | omega | (simp; done) | (simp; omega)) (by simp [go_sem])⟩
  have f3 : (∀ o, w1.cell? ⟨w.heap.size + 1 + 1 + 1, o, none⟩ = #[Value.int .i64 0, .int .i64 0, .int .i64 0, .int .i64 0, .int .i64 0, .int .i64 0, .int .i64 0, .int .i64 0, .int .i64 0, .bool false][o]?) ∧ (∀ o, w1.frozen? ⟨w.heap.size + 1 + 1 + 1, o, none⟩ = false) := ⟨fun o => below_cell b1 (by first | omega | (simp; done) | (simp; omega)) (by simp [go_sem]), fun o => below_frozen b1 (by first | omega | (simp; done) | (simp; omega)) (by simp [go_sem])⟩
  have B1 := hidIt ((((((Below.refl w.heap.size w).alloc (Nat.le_refl _) _).alloc (by simp) _).alloc (by simp <;> omega) _).alloc (by simp <;> omega) _).trans (b1.mono (by simp <;> omega)))
  clear b1
  have y1 : w.heap.size < w1.heap.size := by omega
  have y2 : w.heap.size + 1 + 1 < w1.heap.size := by omega
  have y3 : w.heap.size + 1 + 1 + 1 < w1.heap.size := by omega
  go_wp2
  refine bodyPost_ret (v := .tuple #[.agg #[.slice none 0 0], .agg #[.int .i64 0, .int .i64 0, .int .i64 0, .int .i64 0, .int .i64 0, .int .i64 0, .int .i64 0, .int .i64 0, .int .i64 0, .bool false], .bool false]) (by simp [results, Try.results13, go_sem, f2.1, f3.1, y2, y3]) rfl ⟨rfl, ?_⟩
  exact B1.out.trans (Out.below (show Out (w.heap.size + 2) (w.heap.size + 4) w1 _ by exact (by repeat (first | with_reducible exact Out.refl _ _ _ | with_reducible refine Out.drew ?_ | with_reducible refine Out.setCell ?_ (by simp <;> omega) (by simp <;> omega) | with_reducible refine Out.alloc ?_ _))) (by omega) (by omega))
set_option maxHeartbeats 1600000 in
set_option maxRecDepth 100000 in
theorem impl_ristep_no2 (n k a x pc p cc cw r v : Int) (d : Bool) (ac : Ac) (F : Nat) (am : Option Addr) (m cm : Nat) (w : World) (hr : rngB n m = false)
    (hA : ∀ B W, B < W.heap.size → (∀ o, W.cell? ⟨B, o, none⟩ = #[Value.int .i64 k, .int .i64 a, .int .i64 x, .int .i64 pc, .int .i64 p, .int .i64 cc, .int .i64 cw, .int .i64 r, .int .i64 v, .bool d][o]?) → Calls Try.prog 38 #[.int .i64 n, .pointer (some ⟨B, 0, none⟩)] W fun e w' => e = .returned (.tuple #[.agg #[.int .i64 ac.k, .int .i64 ac.t, .int .i64 ac.a, .int .i64 ac.b, .func (.func F) #[.pointer (some ⟨B, 0, none⟩)] #[]], .bool true]) ∧ Below W.heap.size W w') :
    Calls Try.prog 13 #[.int .i64 n, .agg #[.slice am m cm], .agg #[.int .i64 k, .int .i64 a, .int .i64 x, .int .i64 pc, .int .i64 p, .int .i64 cc, .int .i64 cw, .int .i64 r, .int .i64 v, .bool d]] w fun e w' => e = .returned (.tuple #[.agg #[.slice none 0 0], .agg #[.int .i64 0, .int .i64 0, .int .i64 0, .int .i64 0, .int .i64 0, .int .i64 0, .int .i64 0, .int .i64 0, .int .i64 0, .bool false], .bool false]) ∧ Below w.heap.size w w' := by
  have HA := hidIt hA
  clear hA
  go_enter Try.func13, Try.ntmps13
  go_wp2_with fail
  refine (HA.out (w.heap.size + 1) _ (by simp <;> omega) (fun o => by simp [go_sem])).mono ?_
  rintro e w1 ⟨rfl, b1⟩
  have z1 := b1.size
  simp at z1
  have f0 : (∀ o, w1.cell? ⟨w.heap.size, o, none⟩ = #[Value.slice am m cm][o]?) ∧ (∀ o, w1.frozen? ⟨w.heap.size, o, none⟩ = false) := ⟨fun o => below_cell b1 (by first | omega | (simp; done) | (simp; omega)) (by simp [go_sem]), fun o => below_frozen b1 (by first | omega | (simp; done) | (simp; omega)) (by simp [go_sem])⟩
  have f1 : (∀ o, w1.cell? ⟨w.heap.size + 1, o, none⟩ = #[Value.int .i64 k, .int .i64 a, .int .i64 x, .int .i64 pc, .int .i64 p, .int .i64 cc, .int .i64 cw, .int .i64 r, .int .i64 v, .bool d][o]?) ∧ (∀ o, w1.frozen? ⟨w.heap.size + 1, o, none⟩ = false) := ⟨fun o => below_cell b1 (by first | omega | (simp; done) | (simp; omega)) (by simp [go_sem]), fun o => below_frozen b1 (by first | omega | (simp; done) | (simp; omega)) (by simp [go_sem])⟩
  have f2 : (∀ o, w1.cell? ⟨w.heap.size + 1 + 1, o, none⟩ = #[Value.slice none 0 0][o]?) ∧ (∀ o, w1.frozen? ⟨w.heap.size + 1 + 1, o, none⟩ = false) := ⟨fun o => below_cell b1 (by first | omega | (simp; done) | (simp; omega)) (by simp [go_sem]), fun o => below_frozen b1 (by first | omega | (simp; done) | (simp; omega)) (by simp [go_sem])⟩
  have f3 : (∀ o, w1.cell? ⟨w.heap.size + 1 + 1 + 1, o, none⟩ = #[Value.int .i64 0, .int .i64 0, .int .i64 0, .int .i64 0, .int .i64 0, .int .i64 0, .int .i64 0, .int .i64 0, .int .i64 0, .bool false][o]?) ∧ (∀ o, w1.frozen? ⟨w.heap.size + 1 + 1 + 1, o, none⟩ = false) := ⟨fun o => below_cell b1 (by first | omega | (simp; done) | (simp; omega)) (by simp [go_sem]), fun o => below_frozen b1 (by first | omega | (simp; done) | (simp; omega)) (by simp [go_sem])⟩
  have B1 := hidIt ((((((Below.refl w.heap.size w).alloc (Nat.le_refl _) _).alloc (by simp) _).alloc (by simp <;> omega) _).alloc (by simp <;> omega) _).trans (b1.mono (by simp <;> omega)))
  clear b1
  have y1 : w.heap.size < w1.heap.size := by omega
  have HR := hidIt hr
  clear hr
  go_wp2_with fail
  refine (impl_isring n am m cm _).mono ?_
  rintro e w2 ⟨rfl, b2⟩
  rw [HR.out]
  have z2 := b2.size
  simp at z2
  have g2 : (∀ o, w2.cell? ⟨w.heap.size + 1 + 1, o, none⟩ = #[Value.slice none 0 0][o]?) ∧ (∀ o, w2.frozen? ⟨w.heap.size + 1 + 1, o, none⟩ = false) := ⟨fun o => below_cell b2 (by simp <;> omega) (by rw [World.cell?_alloc_lt _ _ _ (by simp <;> omega)]; exact f2.1 o), fun o => below_frozen b2 (by simp <;> omega) (by rw [World.frozen?_alloc_old _ _ _ (by simp <;> omega)]; exact f2.2 o)⟩
  have g3 : (∀ o, w2.cell? ⟨w.heap.size + 1 + 1 + 1, o, none⟩ = #[Value.int .i64 0, .int .i64 0, .int .i64 0, .int .i64 0, .int .i64 0, .int .i64 0, .int .i64 0, .int .i64 0, .int .i64 0, .bool false][o]?) ∧ (∀ o, w2.frozen? ⟨w.heap.size + 1 + 1 + 1, o, none⟩ = false) := ⟨fun o => below_cell b2 (by simp <;> omega) (by rw [World.cell?_alloc_lt _ _ _ (by simp <;> omega)]; exact f3.1 o), fun o => below_frozen b2 (by simp <;> omega) (by rw [World.frozen?_alloc_old _ _ _ (by simp <;> omega)]; exact f3.2 o)⟩
  have B2 := hidIt ((B1.out.alloc (by omega) _).trans (b2.mono (by simp <;> omega)))
  clear b2 B1
  go_wp2
  refine bodyPost_ret (v := .tuple #[.agg #[.slice none 0 0], .agg #[.int .i64 0, .int .i64 0, .int .i64 0, .int .i64 0, .int .i64 0, .int .i64 0, .int .i64 0, .int .i64 0, .int .i64 0, .bool false], .bool false]) (by simp [results, Try.results13, go_sem, g2.1, g3.1]) rfl ⟨rfl, ?_⟩
  exact B2.out.trans (Out.below (show Out (w.heap.size + 2) (w.heap.size + 4) w2 _ by exact (by repeat (first | with_reducible exact Out.refl _ _ _ | with_reducible refine Out.drew ?_ | with_reducible refine Out.setCell ?_ (by simp <;> omega) (by simp <;> omega) | with_reducible refine Out.alloc ?_ _))) (by omega) (by omega))
theorem takeF_one (k pc : Int) : takeF k pc = 95 ∨ takeF k pc = 97 ∨ takeF k pc = 101 ∨ takeF k pc = 98 ∨ takeF k pc = 91 ∨ takeF k pc = 102 ∨ takeF k pc = 100 := by
  unfold takeF
  repeat' split
  all_goals simp
theorem impl_ristep (n : Int) (c : Cl) (lo hi : Nat) (mv : Value) (xs : List Int) (w : World) (hn : xs.length ≤ 4194304) (hh : hi ≤ w.heap.size) (rm : Row w lo hi mv (ints xs)) :
    Calls Try.prog 13 #[.int .i64 n, .agg #[mv], .agg #[.int .i64 c.k, .int .i64 c.a, .int .i64 c.x, .int .i64 c.pc, .int .i64 c.p, .int .i64 c.c, .int .i64 c.w, .int .i64 c.r, .int .i64 c.v, .bool c.d]] w fun e w' => ∃ v', e = .returned (.tuple #[.agg #[v'], .agg #[.int .i64 (riStepC n xs c).k, .int .i64 (riStepC n xs c).a, .int .i64 (riStepC n xs c).x, .int .i64 (riStepC n xs c).pc, .int .i64 (riStepC n xs c).p, .int .i64 (riStepC n xs c).c, .int .i64 (riStepC n xs c).w, .int .i64 (riStepC n xs c).r, .int .i64 (riStepC n xs c).v, .bool (riStepC n xs c).d], .bool (riStepOk n xs c)]) ∧ Row w' w.heap.size w'.heap.size v' (ints (riStepL n xs c)) ∧ Below w.heap.size w w' := by
  have hA := fun B W hB hc => impl_ringstep n c B W hB hc
  have hD := fun lo hi v W hh r => impl_do lo hi v xs (riAc n c).k (riAc n c).t (riAc n c).a (riAc n c).b W hn hh r
  by_cases h : riStepOk n xs c = true
  · have eC : riStepC n xs c = _ := if_pos h
    have eL : riStepL n xs c = doL xs (riAc n c).k (riAc n c).t (riAc n c).a (riAc n c).b := by unfold riStepL doL; rw [if_pos h, if_pos (riAct_fits h)]
    have eT : riTold n xs c = doT xs (riAc n c).k (riAc n c).t (riAc n c).a (riAc n c).b := by unfold riTold doT; rw [if_pos (riAct_fits h)]
    have hcas := fun hp => riTold_cas h hp
    rw [eL, eC, h]
    rw [eT] at hcas ⊢
    rw [riAct_fits h] at hD
    have hr : rngB n xs.length = true := by
      unfold riStepOk at h
      unfold rngB
      rw [Bool.and_eq_true] at h ⊢
      exact ⟨rzB_iff.2 ⟨(riOk_bd h.1).2.1, (riOk_bd h.1).2.2.1⟩, h.2⟩
    unfold riStepOk at h
    rw [Bool.and_eq_true, decide_eq_true_iff] at h
    obtain ⟨h1, h3⟩ := h
    obtain ⟨b0, b1, b2, b3, b4, b5, b6⟩ := riOk_bd h1
    have ht : ∀ B, takeOf n c B = takeV c.k c.pc B := fun B => if_pos h1
    rw [h1] at hA
    have hA2 := fun B W hB hc => (show Calls Try.prog 38 #[.int .i64 n, .pointer (some ⟨B, 0, none⟩)] W fun e w' => e = .returned (.tuple #[.agg #[.int .i64 (riAc n c).k, .int .i64 (riAc n c).t, .int .i64 (riAc n c).a, .int .i64 (riAc n c).b, .func (.func (takeF c.k c.pc)) #[.pointer (some ⟨B, 0, none⟩)] #[]], .bool true]) ∧ Below W.heap.size W w' by have := hA B W hB hc; rw [ht B] at this; exact this)
    clear hA ht
    obtain ⟨k, a, x, pc, p, cc, cw, r, v, d⟩ := c
    have b0 : d = false := b0
    subst b0
    exact impl_ristep_yes n k a x pc p cc cw r v _ _ _ _ lo hi mv xs _ w hh rm hr (takeF_one k pc) hA2 hD (fun B W hat => take_any n k a x pc p cc cw r v _ B W b5 b6 (by have b3 : 1 ≤ k := b3; have b4 : k ≤ 2 := b4; omega) hcas _ rfl hat)
  · have h' : riStepOk n xs c = false := by simpa using h
    have eL : riStepL n xs c = [] := if_neg h
    have eC : riStepC n xs c = clZero := if_neg h
    rw [eL, eC, h']
    obtain ⟨am, cm, rfl⟩ := rm.form
    cases ho : riOk n c
    · have ht : ∀ B, takeOf n c B = .nilFunc := fun B => if_neg (by rw [ho]; simp)
      rw [ho] at hA
      refine (impl_ristep_no1 n c.k c.a c.x c.pc c.p c.c c.w c.r c.v c.d _ am xs.length cm w (fun B W hB hc => by have := hA B W hB hc; rw [ht B] at this; exact this)).mono ?_
      rintro e w' ⟨rfl, b⟩
      exact ⟨_, rfl, ⟨none, 0, rfl, .inl rfl⟩, b⟩
    · have ht : ∀ B, takeOf n c B = takeV c.k c.pc B := fun B => if_pos ho
      have hr : rngB n xs.length = false := by
        unfold riStepOk at h'
        rw [ho, Bool.true_and] at h'
        unfold rngB
        rw [h', Bool.and_false]
      rw [ho] at hA
      refine (impl_ristep_no2 n c.k c.a c.x c.pc c.p c.c c.w c.r c.v c.d _ (takeF c.k c.pc) am xs.length cm w hr (fun B W hB hc => by have := hA B W hB hc; rw [ht B] at this; exact this)).mono ?_
      rintro e w' ⟨rfl, b⟩
      exact ⟨_, rfl, ⟨none, 0, rfl, .inl rfl⟩, b⟩

end Go.Proofs.Ytomfdbglnedpcaa
