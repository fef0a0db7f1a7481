/- An act by the program. -/
import Derived.Test.YtomfdbglnedpcaaRows
import Derived.WalkKit
import Derived.ProofKit
import Derived.OpenShut
import Derived.ShutString
import Derived.Test.YtomfdbglnedpcaaImplAct
import Derived.Deep.RegionWith
import Derived.Deep.AppendLies
namespace Go.Proofs.Ytomfdbglnedpcaa
open Go.ChangeShapes Go.WideShapes Go.ChangeAt Go.RowKit
set_option linter.unusedVariables false

theorem act_method (a : Option Addr) (n c : Nat) (w : World) : (method 203 83 (.slice a n c) "loop.example/g00724/impl.act").run Try.prog w = .ok (126, .slice a n c) w := by kernel_rfl
set_option maxRecDepth 100000 in
theorem impl_do_no (ad : Option Addr) (n c : Nat) (k t a b : Int) (w : World) (hn : n ≤ 4194304) (h : actB n k t a b = false) :
    Calls Try.prog 40 #[.agg #[.slice ad n c], .agg #[.int .i64 k, .int .i64 t, .int .i64 a, .int .i64 b]] w fun e w' => e = .returned (.tuple #[.agg #[.slice none 0 0], .int .i64 0, .bool false]) ∧ Below w.heap.size w w' := by
  go_enter Try.func40, Try.ntmps40
  go_wp2_with fail
  refine (impl_actok ad n c k t a b _ hn).mono ?_
  rintro e w1 ⟨rfl, b1⟩
  have c2 : w1.cell? ⟨w.heap.size + 1 + 1, 0, none⟩ = some (.slice none 0 0) := below_cell b1 (by simp) (by simp [go_sem])
  have f2 : w1.frozen? ⟨w.heap.size + 1 + 1, 0, none⟩ = false := below_frozen b1 (by simp) (by simp [go_sem])
  rw [h]
  go_wp2
  refine bodyPost_ret (v := .tuple #[.agg #[.slice none 0 0], .int .i64 0, .bool false]) (by simp [results, Try.results40, go_sem, c2]) rfl ⟨rfl, ?_⟩
  exact (((((Below.refl w.heap.size w).alloc (Nat.le_refl _) _).alloc (by simp) _).alloc (by simp <;> omega) _).trans (b1.mono (by simp <;> omega))).setCell (by simp <;> omega) _

set_option maxHeartbeats 800000 in
set_option maxRecDepth 100000 in
theorem impl_do_yes (lo hi : Nat) (v : Value) (xs : List Int) (i : Nat) (k a b : Int) (w : World) (hn : xs.length ≤ 4194304) (hh : hi ≤ w.heap.size) (r : Row w lo hi v (ints xs)) (h : actB xs.length k i a b = true) :
    Calls Try.prog 40 #[.agg #[v], .agg #[.int .i64 k, .int .i64 (i : Int), .int .i64 a, .int .i64 b]] w fun e w' => ∃ v', e = .returned (.tuple #[.agg #[v'], .int .i64 (actTold (xs.getD i 0) k a), .bool true]) ∧ Row w' w.heap.size w'.heap.size v' (ints (memDo xs k i a b)) ∧ Below w.heap.size w w' := by
  obtain ⟨q1, q2, q3, q4, q5, -, -⟩ := actB_of h
  have hi1 : i < xs.length := by omega
  have R := hidIt r
  obtain ⟨g, c, rfl, g1, g2, -, -⟩ := r.ofSome (by omega)
  clear r
  go_enter Try.func40, Try.ntmps40
  go_wp2_with fail
  refine (impl_actok _ _ c k i a b _ hn).mono ?_
  rintro e w1 ⟨rfl, b1⟩
  have z1 := b1.size
  simp at z1
  have c0 : w1.cell? ⟨w.heap.size, 0, none⟩ = some (.slice (some ⟨g, 0, none⟩) xs.length c) := below_cell b1 (by simp <;> omega) (by simp [go_sem])
  rw [h]
  go_wp2_with fail
  have B1 : Below w.heap.size w w1 := (((((Below.refl w.heap.size w).alloc (Nat.le_refl _) _).alloc (by simp) _).alloc (by simp <;> omega) _).trans (b1.mono (by simp <;> omega)))
  refine (impl_copy _ lo hi _ xs hn (by omega) (R.out.below (B1.mono hh))).mono ?_
  rintro e w2 ⟨v', rfl, r2, b2⟩
  have z2 := b2.size
  have B2 := hidIt (B1.trans (b2.mono (by omega)))
  have R2 := hidIt r2
  obtain ⟨g', c', rfl, e1, e2, -, -⟩ := r2.ofSome (by omega)
  have d1 : w2.cell? ⟨w.heap.size + 1, 0, none⟩ = some (.int .i64 k) := below_cell b2 (by omega) (below_cell b1 (by simp <;> omega) (by simp [go_sem]))
  have d2 : w2.cell? ⟨w.heap.size + 1, 1, none⟩ = some (.int .i64 i) := below_cell b2 (by omega) (below_cell b1 (by simp <;> omega) (by simp [go_sem]))
  have d3 : w2.cell? ⟨w.heap.size + 1, 2, none⟩ = some (.int .i64 a) := below_cell b2 (by omega) (below_cell b1 (by simp <;> omega) (by simp [go_sem]))
  have d4 : w2.cell? ⟨w.heap.size + 1, 3, none⟩ = some (.int .i64 b) := below_cell b2 (by omega) (below_cell b1 (by simp <;> omega) (by simp [go_sem]))
  have d5 : w2.cell? ⟨w.heap.size + 1 + 1, 0, none⟩ = some (.slice none 0 0) := below_cell b2 (by omega) (below_cell b1 (by simp <;> omega) (by simp [go_sem]))
  have d6 : w2.frozen? ⟨w.heap.size + 1 + 1, 0, none⟩ = false := below_frozen b2 (by omega) (below_frozen b1 (by simp <;> omega) (by simp [go_sem]))
  have hz4 : w.heap.size + 1 < w2.heap.size := by omega
  have hz5 : w.heap.size + 1 + 1 < w2.heap.size := by omega
  have hz3 : w.heap.size < w2.heap.size := by omega
  have hz6 : w.heap.size + 1 < w2.heap.size + 1 := by omega
  have hz7 : w.heap.size + 1 + 1 < w2.heap.size + 1 := by omega
  clear r2 b1 b2 c0 h B1
  have hm := act_method (some ⟨g', 0, none⟩) xs.length c'
  go_wp2
  go_region_with (first | (go_at_call 80; refine (cells_of _ _ _ _).mono ?_; rintro e w3 ⟨rfl, rfl⟩) | (go_at_call 126; refine (act_any w1.heap.size w2.heap.size g' xs.length c' xs i k a b _ (by simp <;> omega) (R2.out.below (((Below.refl _ _).alloc (Nat.le_refl _) _).alloc (by simp) _).drew) hi1 q1 q2).mono ?_; rintro e w4 ⟨rfl, r4, b4⟩; have R4 := hidIt r4; have B4 := hidIt b4; have z4 := b4.size; have f1 := (b4.cell_far ⟨w2.heap.size, 0, none⟩ (by simp <;> omega) (by simp <;> omega)).trans (by simp [go_sem] : _ = some (.slice (some ⟨g', 0, none⟩) xs.length c')); have f2 := (b4.cell_far ⟨w.heap.size + 1 + 1, 0, none⟩ (by simp <;> omega) (by simp <;> omega)).trans (by simp [go_sem, d5, hz5, hz7] : _ = some (.slice none 0 0)); have f3 := (b4.frozen_far ⟨w.heap.size + 1 + 1, 0, none⟩ (by simp <;> omega) (by simp <;> omega)).trans (by simp [go_sem, d6, hz5, hz7] : _ = false); clear r4 b4; simp at z4))
  all_goals go_wp2
  all_goals
    refine bodyPost_ret (v := .tuple #[.agg #[.slice (some ⟨g', 0, none⟩) xs.length c'], .int .i64 (actTold (xs.getD i 0) k a), .bool true]) (by simp [results, Try.results40, go_sem, f2, hi1]) rfl ⟨_, rfl, ?_, ?_⟩
    · exact (R4.out.set_below ⟨w.heap.size + 1 + 1, 0, none⟩ _ (by show w.heap.size + 1 + 1 < w1.heap.size; omega)).lo (by omega) |>.up (by simp <;> omega)
    · exact ((((B2.out.alloc (by omega) _).alloc (by simp <;> omega) _).drew.grown B4.out (by simp <;> omega) (fun q hq => by simp at hq; omega)).setCell (p := ⟨w.heap.size + 1 + 1, 0, none⟩) (by show w.heap.size ≤ w.heap.size + 1 + 1; omega) _)

end Go.Proofs.Ytomfdbglnedpcaa
