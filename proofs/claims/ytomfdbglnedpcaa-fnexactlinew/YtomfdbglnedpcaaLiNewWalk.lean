/- The walk of the law of LiNew, over the contracts of the two functions. -/
import Derived.Test.YtomfdbglnedpcaaRows
import Derived.WalkKit
import Derived.ProofKit
import Derived.OpenShut
import Derived.ShutString
import Derived.Test.YtomfdbglnedpcaaMemFns
import Derived.Test.YtomfdbglnedpcaaLiPlain
namespace Go.Proofs.Ytomfdbglnedpcaa
open Go.ChangeShapes Go.WideShapes Go.ChangeAt Go.RowKit
set_option linter.unusedVariables false

set_option maxHeartbeats 1600000 in
set_option maxRecDepth 100000 in
theorem walk_LiNew (n : Int) (w : World)
    (hS : ∀ W, Calls Try.prog 18 #[.int .i64 n] W fun e w' => ∃ v', e = .returned (.tuple #[.agg #[v'], .bool (szB n)]) ∧ Row w' W.heap.size w'.heap.size v' (ints (liNewL n)) ∧ Below W.heap.size W w')
    (hI : ∀ W, Calls Try.prog 19 #[.int .i64 n] W fun e w' => ∃ v', e = .returned (.tuple #[.agg #[v'], .bool (szB n)]) ∧ Row w' W.heap.size w'.heap.size v' (ints (liNewL n)) ∧ Below W.heap.size W w') :
    Calls Try.prog 4 #[.int .i64 n] w fun e w' => e = .returned (.bool true) ∧ Below w.heap.size w w' := by
  have hl := liNewL_len n
  have HS := hidIt hS
  have HI := hidIt hI
  clear hS hI
  generalize liNewL n = L at HS HI hl
  generalize szB n = B at HS HI
  go_enter Try.func4, Try.ntmps4
  go_wp2_with fail
  refine (HS.out _).mono ?_
  rintro e w1 ⟨v1, rfl, r1, b1⟩
  have R1 := hidIt r1
  obtain ⟨a1, c1, rfl⟩ := r1.form
  clear r1
  go_wp2_with fail
  refine (HI.out _).mono ?_
  rintro e w2 ⟨v2, rfl, r2, b2⟩
  have R2 := hidIt r2
  obtain ⟨a2, c2, rfl⟩ := r2.form
  clear r2
  have z1 := b1.size
  have z2 := b2.size
  simp at z2
  have d1 : w2.cell? ⟨w1.heap.size, 0, none⟩ = some (.slice a1 L.length c1) := below_cell b2 (by simp) (by simp [go_sem])
  have hz1 : w1.heap.size < w2.heap.size := by omega
  have Rw := hidIt ((R1.out.alloc (Nat.le_refl _) (.cells #[.slice a1 L.length c1] 28)).below (b2.mono (by simp)))
  have Bw := hidIt (b1.trans (((Below.refl _ _).alloc (Nat.le_refl _) _).trans (b2.mono (by simp)) |>.mono z1))
  clear b1 b2
  go_wp2_with fail
  refine (eq_mem _ _ _ _ _ _ _ L (by omega) (by simp) (by simp; omega) (R2.out.alloc (Nat.le_refl _) _) (Rw.out.alloc (by omega) _)).mono ?_
  rintro e w3 ⟨rfl, b3⟩
  have z3 := b3.size
  simp at z3
  have e1 : w3.cell? ⟨w1.heap.size, 0, none⟩ = some (.slice a1 L.length c1) := below_cell b3 (by simp; omega) (by simp [go_sem, hz1, d1])
  have e2 : w3.cell? ⟨w2.heap.size, 0, none⟩ = some (.slice a2 L.length c2) := below_cell b3 (by simp) (by simp [go_sem])
  have Rw3 := hidIt ((Rw.out.alloc (by omega) _).below (b3.mono (by simp; omega)))
  have Rg3 := hidIt ((R2.out.alloc (Nat.le_refl _) _).below (b3.mono (by simp)))
  have Bw3 := hidIt ((Bw.out.alloc (by omega) _).trans (b3.mono (by simp; omega)))
  clear Rw R2 Bw b3 R1
  go_wp2_with fail
  refine (mark_mem _ _ _ _ L 1 (by omega) (by omega) (by omega) Rg3.out).mono ?_
  rintro e w4 ⟨rfl, r4, o4⟩
  have z4 := o4.size
  have f1 : w4.cell? ⟨w1.heap.size, 0, none⟩ = some (.slice a1 L.length c1) := o4.cell (by omega) (.inl (by simp)) e1
  have f2 : w4.cell? ⟨w2.heap.size, 0, none⟩ = some (.slice a2 L.length c2) := o4.cell (by omega) (.inr (Nat.le_refl _)) e2
  have Rw4 := hidIt (Rw3.out.out o4 (by omega) (.inl (by simp)))
  have Rm4 := hidIt r4
  have Bw4 := hidIt (Bw3.out.trans (o4.below (by simp; omega) (by omega)))
  clear Rw3 Rg3 Bw3 r4 o4 e1 e2 d1
  go_wp2_with fail
  refine (held_mem _ _ _ _ L.length 1 (by omega) (by omega) (by omega) Rm4.out).mono ?_
  rintro e w5 ⟨rfl, b5⟩
  have z5 := b5.size
  have g1 : w5.cell? ⟨w1.heap.size, 0, none⟩ = some (.slice a1 L.length c1) := below_cell b5 (by omega) f1
  have g2 : w5.cell? ⟨w2.heap.size, 0, none⟩ = some (.slice a2 L.length c2) := below_cell b5 (by omega) f2
  have Rw5 := hidIt (Rw4.out.below (b5.mono (by omega)))
  have Rm5 := hidIt (Rm4.out.below (b5.mono (by omega)))
  have Bw5 := hidIt (Bw4.out.trans (b5.mono (by omega)))
  clear Rw4 Rm4 Bw4 b5 f1 f2
  go_wp2_with fail
  refine (HI.out _).mono ?_
  rintro e w6 ⟨v6, rfl, r6, b6⟩
  have R6 := hidIt r6
  obtain ⟨a6, c6, rfl⟩ := r6.form
  have z6 := b6.size
  have j1 : w6.cell? ⟨w1.heap.size, 0, none⟩ = some (.slice a1 L.length c1) := below_cell b6 (by omega) g1
  have j2 : w6.cell? ⟨w2.heap.size, 0, none⟩ = some (.slice a2 L.length c2) := below_cell b6 (by omega) g2
  have hz6 : w1.heap.size < w6.heap.size := by omega
  have hz7 : w2.heap.size < w6.heap.size := by omega
  have Rw6 := hidIt (Rw5.out.below (b6.mono (by omega)))
  have Rm6 := hidIt (Rm5.out.below (b6.mono (by omega)))
  have Bw6 := hidIt (Bw5.out.trans (b6.mono (by omega)))
  clear Rw5 Rm5 Bw5 r6 b6 g1 g2
  go_wp2_with fail
  refine (eq_mem _ _ _ _ _ _ _ L (by omega) (by simp) (by simp; omega) (R6.out.alloc (Nat.le_refl _) _) (Rw6.out.alloc (by omega) _)).mono ?_
  rintro e w7 ⟨rfl, b7⟩
  have z7 := b7.size
  simp at z7
  have k2 : w7.cell? ⟨w2.heap.size, 0, none⟩ = some (.slice a2 L.length c2) := below_cell b7 (by simp; omega) (by simp [go_sem, hz7, j2])
  have Rm7 := hidIt ((Rm6.out.alloc (by omega) _).below (b7.mono (by simp; omega)))
  have Bw7 := hidIt ((Bw6.out.alloc (by omega) _).trans (b7.mono (by simp; omega)))
  clear Rw6 Rm6 Bw6 b7 j1 j2 R6
  go_wp2_with fail
  refine (held_mem _ _ _ _ L.length 1 (by omega) (by omega) (by omega) Rm7.out).mono ?_
  rintro e w8 ⟨rfl, b8⟩
  go_wp2
  go_ret
  exact ⟨rfl, Bw7.out.trans (b8.mono (by omega))⟩

end Go.Proofs.Ytomfdbglnedpcaa
