/- A step of a stack's call, by the program. -/
import Derived.Test.YtabcmnoadoebpaaRows
import Derived.WalkKit
import Derived.ProofKit
import Derived.OpenShut
import Derived.ShutString
import Derived.Test.YtabcmnoadoebpaaStToldImpl
import Derived.Test.YtabcmnoadoebpaaDoFns
namespace Go.Proofs.Ytabcmnoadoebpaa
open Go.ChangeShapes Go.WideShapes Go.ChangeAt Go.RowKit
set_option linter.unusedVariables false

set_option maxHeartbeats 8000000 in
set_option maxRecDepth 100000 in
theorem impl_ststep_yes (n k a x pc p cc cw r v T : Int) (ac : Ac) (co : Cl) (lo hi : Nat) (mv : Value) (xs L : List Int) (w : World) (hh : hi ≤ w.heap.size) (rm : Row w lo hi mv (ints xs)) (hS : stkB n xs.length = true)
    (hA : ∀ W, Calls Try.prog 24 #[.int .i64 n, .agg #[.int .i64 k, .int .i64 a, .int .i64 x, .int .i64 pc, .int .i64 p, .int .i64 cc, .int .i64 cw, .int .i64 r, .int .i64 v, .bool false]] W fun e w' => e = .returned (.tuple #[.agg #[.int .i64 ac.k, .int .i64 ac.t, .int .i64 ac.a, .int .i64 ac.b], .bool true]) ∧ Below W.heap.size W w')
    (hD : ∀ lo hi v W, hi ≤ W.heap.size → Row W lo hi v (ints xs) → Calls Try.prog 43 #[.agg #[v], .agg #[.int .i64 ac.k, .int .i64 ac.t, .int .i64 ac.a, .int .i64 ac.b]] W fun e w' => ∃ v', e = .returned (.tuple #[.agg #[v'], .int .i64 T, .bool true]) ∧ Row w' W.heap.size w'.heap.size v' (ints L) ∧ Below W.heap.size W w')
    (hT : ∀ W, Calls Try.prog 44 #[.agg #[.int .i64 k, .int .i64 a, .int .i64 x, .int .i64 pc, .int .i64 p, .int .i64 cc, .int .i64 cw, .int .i64 r, .int .i64 v, .bool false], .int .i64 T] W fun e w' => e = .returned (.agg #[.int .i64 co.k, .int .i64 co.a, .int .i64 co.x, .int .i64 co.pc, .int .i64 co.p, .int .i64 co.c, .int .i64 co.w, .int .i64 co.r, .int .i64 co.v, .bool co.d]) ∧ Below W.heap.size W w') :
    Calls Try.prog 14 #[.int .i64 n, .agg #[mv], .agg #[.int .i64 k, .int .i64 a, .int .i64 x, .int .i64 pc, .int .i64 p, .int .i64 cc, .int .i64 cw, .int .i64 r, .int .i64 v, .bool false]] w fun e w' => ∃ v', e = .returned (.tuple #[.agg #[v'], .agg #[.int .i64 co.k, .int .i64 co.a, .int .i64 co.x, .int .i64 co.pc, .int .i64 co.p, .int .i64 co.c, .int .i64 co.w, .int .i64 co.r, .int .i64 co.v, .bool co.d], .bool true]) ∧ Row w' w.heap.size w'.heap.size v' (ints L) ∧ Below w.heap.size w w' := by
  have HA := hidIt hA
  have HD := hidIt hD
  have HT := hidIt hT
  have RM := hidIt rm
  obtain ⟨am, cm, rfl⟩ := rm.form
  have HS := hidIt hS
  clear hA hD hT rm hS
  go_enter Try.func14, Try.ntmps14
  go_wp2_with fail
  refine (HA.out _).mono ?_
  rintro e w1 ⟨rfl, b1⟩
  have z1 := b1.size
  simp at z1
  have f0 : (∀ o, w1.cell? ⟨w.heap.size, o, none⟩ = #[Value.slice am xs.length cm][o]?) ∧ (∀ o, w1.frozen? ⟨w.heap.size, o, none⟩ = false) := ⟨fun o => below_cell b1 (by first | omega | (simp; done) | (simp; omega)) (by simp [go_sem]), fun o => below_frozen b1 (by first | omega | (simp; done) | (simp; omega)) (by simp [go_sem])⟩
  have fy0 : w.heap.size < w1.heap.size := by omega
  have f1 : (∀ o, w1.cell? ⟨w.heap.size + 1, o, none⟩ = #[Value.int .i64 k, .int .i64 a, .int .i64 x, .int .i64 pc, .int .i64 p, .int .i64 cc, .int .i64 cw, .int .i64 r, .int .i64 v, .bool false][o]?) ∧ (∀ o, w1.frozen? ⟨w.heap.size + 1, o, none⟩ = false) := ⟨fun o => below_cell b1 (by first | omega | (simp; done) | (simp; omega)) (by simp [go_sem]), fun o => below_frozen b1 (by first | omega | (simp; done) | (simp; omega)) (by simp [go_sem])⟩
  have fy1 : w.heap.size + 1 < w1.heap.size := by omega
  have f2 : (∀ o, w1.cell? ⟨w.heap.size + 1 + 1, o, none⟩ = #[Value.slice none 0 0][o]?) ∧ (∀ o, w1.frozen? ⟨w.heap.size + 1 + 1, o, none⟩ = false) := ⟨fun o => below_cell b1 (by first | omega | (simp; done) | (simp; omega)) (by simp [go_sem]), fun o => below_frozen b1 (by first | omega | (simp; done) | (simp; omega)) (by simp [go_sem])⟩
  have fy2 : w.heap.size + 1 + 1 < w1.heap.size := by omega
  have f3 : (∀ o, w1.cell? ⟨w.heap.size + 1 + 1 + 1, o, none⟩ = #[Value.int .i64 0, .int .i64 0, .int .i64 0, .int .i64 0, .int .i64 0, .int .i64 0, .int .i64 0, .int .i64 0, .int .i64 0, .bool false][o]?) ∧ (∀ o, w1.frozen? ⟨w.heap.size + 1 + 1 + 1, o, none⟩ = false) := ⟨fun o => below_cell b1 (by first | omega | (simp; done) | (simp; omega)) (by simp [go_sem]), fun o => below_frozen b1 (by first | omega | (simp; done) | (simp; omega)) (by simp [go_sem])⟩
  have fy3 : w.heap.size + 1 + 1 + 1 < w1.heap.size := by omega
  have B1 := hidIt (((((Below.refl _ w).alloc (Nat.le_refl _) _).alloc (by simp) _).alloc (by simp <;> omega) _).alloc (by simp <;> omega) _ |>.trans (b1.mono (by simp <;> omega)))
  clear b1
  go_wp2_with fail
  refine (impl_isstack n am xs.length cm _).mono ?_
  rintro e w2 ⟨rfl, b2⟩
  rw [HS.out]
  have z2 := b2.size
  simp at z2
  have g0 : (∀ o, w2.cell? ⟨w.heap.size, o, none⟩ = #[Value.slice am xs.length cm][o]?) ∧ (∀ o, w2.frozen? ⟨w.heap.size, o, none⟩ = false) := ⟨fun o => below_cell b2 (by first | omega | (simp; done) | (simp; omega)) (by simp [go_sem, f0.1, fy0]), fun o => below_frozen b2 (by first | omega | (simp; done) | (simp; omega)) (by simp [go_sem, f0.2, fy0])⟩
  have gy0 : w.heap.size < w2.heap.size := by omega
  have g1 : (∀ o, w2.cell? ⟨w.heap.size + 1, o, none⟩ = #[Value.int .i64 k, .int .i64 a, .int .i64 x, .int .i64 pc, .int .i64 p, .int .i64 cc, .int .i64 cw, .int .i64 r, .int .i64 v, .bool false][o]?) ∧ (∀ o, w2.frozen? ⟨w.heap.size + 1, o, none⟩ = false) := ⟨fun o => below_cell b2 (by first | omega | (simp; done) | (simp; omega)) (by simp [go_sem, f1.1, fy1]), fun o => below_frozen b2 (by first | omega | (simp; done) | (simp; omega)) (by simp [go_sem, f1.2, fy1])⟩
  have gy1 : w.heap.size + 1 < w2.heap.size := by omega
  have g2 : (∀ o, w2.cell? ⟨w.heap.size + 1 + 1, o, none⟩ = #[Value.slice none 0 0][o]?) ∧ (∀ o, w2.frozen? ⟨w.heap.size + 1 + 1, o, none⟩ = false) := ⟨fun o => below_cell b2 (by first | omega | (simp; done) | (simp; omega)) (by simp [go_sem, f2.1, fy2]), fun o => below_frozen b2 (by first | omega | (simp; done) | (simp; omega)) (by simp [go_sem, f2.2, fy2])⟩
  have gy2 : w.heap.size + 1 + 1 < w2.heap.size := by omega
  have g3 : (∀ o, w2.cell? ⟨w.heap.size + 1 + 1 + 1, o, none⟩ = #[Value.int .i64 0, .int .i64 0, .int .i64 0, .int .i64 0, .int .i64 0, .int .i64 0, .int .i64 0, .int .i64 0, .int .i64 0, .bool false][o]?) ∧ (∀ o, w2.frozen? ⟨w.heap.size + 1 + 1 + 1, o, none⟩ = false) := ⟨fun o => below_cell b2 (by first | omega | (simp; done) | (simp; omega)) (by simp [go_sem, f3.1, fy3]), fun o => below_frozen b2 (by first | omega | (simp; done) | (simp; omega)) (by simp [go_sem, f3.2, fy3])⟩
  have gy3 : w.heap.size + 1 + 1 + 1 < w2.heap.size := by omega
  have ga : (∀ o, w2.cell? ⟨w1.heap.size, o, none⟩ = #[Value.int .i64 ac.k, .int .i64 ac.t, .int .i64 ac.a, .int .i64 ac.b][o]?) := fun o => below_cell b2 (by first | omega | (simp; done) | (simp; omega)) (by simp [go_sem])
  have gz : w1.heap.size < w2.heap.size := by omega
  have B2 := hidIt ((B1.out.alloc (by omega) _).trans (b2.mono (by simp <;> omega)))
  clear b2 B1 f0 f1 f2 f3 fy0 fy1 fy2 fy3
  go_wp2_with fail
  refine (HD.out lo hi _ _ (by omega) (RM.out.below (B2.out.mono hh))).mono ?_
  rintro e w3 ⟨v3, rfl, r3, b3⟩
  have z3 := b3.size
  have R3 := hidIt r3
  obtain ⟨a3, c3, rfl⟩ := r3.form
  have h1 : (∀ o, w3.cell? ⟨w.heap.size + 1, o, none⟩ = #[Value.int .i64 k, .int .i64 a, .int .i64 x, .int .i64 pc, .int .i64 p, .int .i64 cc, .int .i64 cw, .int .i64 r, .int .i64 v, .bool false][o]?) ∧ (∀ o, w3.frozen? ⟨w.heap.size + 1, o, none⟩ = false) := ⟨fun o => below_cell b3 (by first | omega | (simp; done) | (simp; omega)) (g1.1 o), fun o => below_frozen b3 (by first | omega | (simp; done) | (simp; omega)) (g1.2 o)⟩
  have hy1 : w.heap.size + 1 < w3.heap.size := by omega
  have h2 : (∀ o, w3.cell? ⟨w.heap.size + 1 + 1, o, none⟩ = #[Value.slice none 0 0][o]?) ∧ (∀ o, w3.frozen? ⟨w.heap.size + 1 + 1, o, none⟩ = false) := ⟨fun o => below_cell b3 (by first | omega | (simp; done) | (simp; omega)) (g2.1 o), fun o => below_frozen b3 (by first | omega | (simp; done) | (simp; omega)) (g2.2 o)⟩
  have hy2 : w.heap.size + 1 + 1 < w3.heap.size := by omega
  have h3 : (∀ o, w3.cell? ⟨w.heap.size + 1 + 1 + 1, o, none⟩ = #[Value.int .i64 0, .int .i64 0, .int .i64 0, .int .i64 0, .int .i64 0, .int .i64 0, .int .i64 0, .int .i64 0, .int .i64 0, .bool false][o]?) ∧ (∀ o, w3.frozen? ⟨w.heap.size + 1 + 1 + 1, o, none⟩ = false) := ⟨fun o => below_cell b3 (by first | omega | (simp; done) | (simp; omega)) (g3.1 o), fun o => below_frozen b3 (by first | omega | (simp; done) | (simp; omega)) (g3.2 o)⟩
  have hy3 : w.heap.size + 1 + 1 + 1 < w3.heap.size := by omega
  have B3 := hidIt (B2.out.trans (b3.mono (by omega)))
  clear r3 b3 B2 g0 g1 g2 g3 ga
  go_wp2_with fail
  generalize hW : World.alloc _ _ = W3
  have q0 : W3.cell? ⟨w3.heap.size, 0, none⟩ = some (.slice a3 L.length c3) := by rw [← hW]; simp [go_sem]
  have q1 : (∀ o, W3.cell? ⟨w.heap.size + 1, o, none⟩ = #[Value.int .i64 k, .int .i64 a, .int .i64 x, .int .i64 pc, .int .i64 p, .int .i64 cc, .int .i64 cw, .int .i64 r, .int .i64 v, .bool false][o]?) ∧ (∀ o, W3.frozen? ⟨w.heap.size + 1, o, none⟩ = false) := by rw [← hW]; exact ⟨fun o => by simp [go_sem, h1.1, hy1], fun o => by simp [go_sem, h1.2, hy1]⟩
  have q2 : (∀ o, W3.cell? ⟨w.heap.size + 1 + 1, o, none⟩ = #[Value.slice none 0 0][o]?) ∧ (∀ o, W3.frozen? ⟨w.heap.size + 1 + 1, o, none⟩ = false) := by rw [← hW]; exact ⟨fun o => by simp [go_sem, h2.1, hy2], fun o => by simp [go_sem, h2.2, hy2]⟩
  have q3 : (∀ o, W3.cell? ⟨w.heap.size + 1 + 1 + 1, o, none⟩ = #[Value.int .i64 0, .int .i64 0, .int .i64 0, .int .i64 0, .int .i64 0, .int .i64 0, .int .i64 0, .int .i64 0, .int .i64 0, .bool false][o]?) ∧ (∀ o, W3.frozen? ⟨w.heap.size + 1 + 1 + 1, o, none⟩ = false) := by rw [← hW]; exact ⟨fun o => by simp [go_sem, h3.1, hy3], fun o => by simp [go_sem, h3.2, hy3]⟩
  have qz : w3.heap.size < W3.heap.size := by rw [← hW]; simp
  have B4 := hidIt (show Below w.heap.size w W3 by rw [← hW]; exact B3.out.alloc (by omega) _)
  have R4 := hidIt (show Row W3 w2.heap.size w3.heap.size (.slice a3 L.length c3) (ints L) by rw [← hW]; exact R3.out.alloc (Nat.le_refl _) _)
  have OO := hidIt (show ∀ W, Out (w.heap.size + 2) (w.heap.size + 4) W3 W → Out (w.heap.size + 2) (w.heap.size + 4) W3 W ∧ W.cell? ⟨w3.heap.size, 0, none⟩ = some (.slice a3 L.length c3) ∧ ∀ o, W.cell? ⟨w.heap.size + 1, o, none⟩ = #[Value.int .i64 k, .int .i64 a, .int .i64 x, .int .i64 pc, .int .i64 p, .int .i64 cc, .int .i64 cw, .int .i64 r, .int .i64 v, .bool false][o]? from fun W h => ⟨h, h.cell (by omega) (by omega) q0, fun o => h.cell (by omega) (by omega) (q1.1 o)⟩)
  clear hW h1 h2 h3 B3 R3 HA HD
  have u1 : w3.heap.size ≠ w.heap.size + 1 + 1 := by omega
  have u2 : w3.heap.size ≠ w.heap.size + 1 + 1 + 1 := by omega
  have u3 : ¬ w.heap.size + 1 + 1 = w3.heap.size := by omega
  have u4 : ¬ w.heap.size + 1 + 1 + 1 = w3.heap.size := by omega
  go_region_held3 (fun W => Out (w.heap.size + 2) (w.heap.size + 4) W3 W ∧ W.cell? ⟨w3.heap.size, 0, none⟩ = some (.slice a3 L.length c3) ∧ ∀ o, W.cell? ⟨w.heap.size + 1, o, none⟩ = #[Value.int .i64 k, .int .i64 a, .int .i64 x, .int .i64 pc, .int .i64 p, .int .i64 cc, .int .i64 cw, .int .i64 r, .int .i64 v, .bool false][o]?) (first | (refine OO.out _ ?_; with_reducible exact Out.trans (Out.drew (Out.refl _ _ _)) (Out.of_below bE)) | (refine OO.out _ ?_; with_reducible exact Out.of_below bE) | (go_split_ands; refine OO.out _ ?_; repeat (first | with_reducible assumption | with_reducible exact Out.refl _ _ _ | with_reducible refine Out.drew ?_ | with_reducible refine Out.setCell ?_ (by simp <;> omega) (by simp <;> omega) | with_reducible refine Out.alloc ?_ _))) (first | (go_at_call 44; refine (HT.out _).mono ?_; rintro e wE ⟨rfl, bE⟩; have g2 : (∀ o, wE.cell? ⟨w.heap.size + 1 + 1, o, none⟩ = #[Value.slice none 0 0][o]?) ∧ (∀ o, wE.frozen? ⟨w.heap.size + 1 + 1, o, none⟩ = false) := ⟨fun o => below_cell bE (by first | omega | (simp; done) | (simp; omega)) (by simp [go_sem, q2.1]), fun o => below_frozen bE (by first | omega | (simp; done) | (simp; omega)) (by simp [go_sem, q2.2])⟩; have g3 : (∀ o, wE.cell? ⟨w.heap.size + 1 + 1 + 1, o, none⟩ = #[Value.int .i64 0, .int .i64 0, .int .i64 0, .int .i64 0, .int .i64 0, .int .i64 0, .int .i64 0, .int .i64 0, .int .i64 0, .bool false][o]?) ∧ (∀ o, wE.frozen? ⟨w.heap.size + 1 + 1 + 1, o, none⟩ = false) := ⟨fun o => below_cell bE (by first | omega | (simp; done) | (simp; omega)) (by simp [go_sem, q3.1]), fun o => below_frozen bE (by first | omega | (simp; done) | (simp; omega)) (by simp [go_sem, q3.2])⟩))
  all_goals
    rename_i hHeld
    have ho := hHeld.1
    clear hHeld OO HT
    generalize hX : World.setCell _ _ (Value.bool co.d) = X at ho ⊢
    have x1 : X.cell? ⟨w.heap.size + 1 + 1, 0, none⟩ = some (.slice a3 L.length c3) ∧ X.cell? ⟨w.heap.size + 1 + 1 + 1, 0, none⟩ = some (.int .i64 co.k) ∧ X.cell? ⟨w.heap.size + 1 + 1 + 1, 1, none⟩ = some (.int .i64 co.a) ∧ X.cell? ⟨w.heap.size + 1 + 1 + 1, 2, none⟩ = some (.int .i64 co.x) ∧ X.cell? ⟨w.heap.size + 1 + 1 + 1, 3, none⟩ = some (.int .i64 co.pc) ∧ X.cell? ⟨w.heap.size + 1 + 1 + 1, 4, none⟩ = some (.int .i64 co.p) ∧ X.cell? ⟨w.heap.size + 1 + 1 + 1, 5, none⟩ = some (.int .i64 co.c) ∧ X.cell? ⟨w.heap.size + 1 + 1 + 1, 6, none⟩ = some (.int .i64 co.w) ∧ X.cell? ⟨w.heap.size + 1 + 1 + 1, 7, none⟩ = some (.int .i64 co.r) ∧ X.cell? ⟨w.heap.size + 1 + 1 + 1, 8, none⟩ = some (.int .i64 co.v) ∧ X.cell? ⟨w.heap.size + 1 + 1 + 1, 9, none⟩ = some (.bool co.d) := by rw [← hX]; exact ⟨by simp [go_sem, g2.1], by simp [go_sem, g3.1], by simp [go_sem, g3.1], by simp [go_sem, g3.1], by simp [go_sem, g3.1], by simp [go_sem, g3.1], by simp [go_sem, g3.1], by simp [go_sem, g3.1], by simp [go_sem, g3.1], by simp [go_sem, g3.1], by simp [go_sem, g3.1]⟩
    have HO := hidIt ho
    clear hX ho g2 g3 bE q0 q1 q2 q3
    go_wp2
    have zx := HO.out.size
    refine bodyPost_ret (v := .tuple #[.agg #[.slice a3 L.length c3], .agg #[.int .i64 co.k, .int .i64 co.a, .int .i64 co.x, .int .i64 co.pc, .int .i64 co.p, .int .i64 co.c, .int .i64 co.w, .int .i64 co.r, .int .i64 co.v, .bool co.d], .bool true]) (by simp [results, Try.results14, go_sem, x1]) rfl ⟨_, rfl, ?_, ?_⟩
    · exact ((R4.out.out HO.out (by omega) (.inr (by omega))).lo (by omega)).up (by omega)
    · exact B4.out.trans (HO.out.below (by omega) (by omega))

end Go.Proofs.Ytabcmnoadoebpaa
