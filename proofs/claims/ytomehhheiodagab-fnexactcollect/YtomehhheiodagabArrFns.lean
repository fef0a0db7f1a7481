/- The array of pins: nobody pinned, the pins of epochs, those up to an epoch. -/
import Derived.Test.YtomehhheiodagabRows
import Derived.WalkKit
import Derived.ProofKit
import Derived.OpenShut
import Derived.ShutString
import Derived.Test.YtomehhheiodagabCopyPlain
import Derived.Test.YtomehhheiodagabImplCopy
import Derived.Test.YtomehhheiodagabLimboPlain
import Derived.Deep.RegionHeld3
namespace Go.Proofs.Ytomehhheiodagab
open Go.ChangeShapes Go.WideShapes Go.ChangeAt Go.RowKit
set_option linter.unusedVariables false

set_option maxHeartbeats 800000 in
set_option maxRecDepth 100000 in
theorem impl_nobody (w : World) :
    Calls Try.prog 38 #[] w fun e w' => e = .returned (.agg #[.int .i64 (-1), .int .i64 (-1), .int .i64 (-1), .int .i64 (-1), .int .i64 (-1), .int .i64 (-1), .int .i64 (-1), .int .i64 (-1)]) ∧ Below w.heap.size w w' := by
  go_enter Try.func38, Try.ntmps38
  go_wp2_with fail
  generalize hW : World.alloc (World.alloc w _) _ = W2
  have bW : Below w.heap.size w W2 := by rw [← hW]; exact ((Below.refl w.heap.size w).alloc (Nat.le_refl _) _).alloc (by simp) _
  have zW : W2.heap.size = w.heap.size + 2 := by rw [← hW]; simp
  have c0 : ∀ j, j < 8 → W2.cell? ⟨w.heap.size, j, none⟩ = some (.int .i64 0) := by
    rw [← hW]
    intro j hj
    rcases (by omega : j = 0 ∨ j = 1 ∨ j = 2 ∨ j = 3 ∨ j = 4 ∨ j = 5 ∨ j = 6 ∨ j = 7) with rfl | rfl | rfl | rfl | rfl | rfl | rfl | rfl <;> simp [go_sem]
  have c1 : ∀ j, j < 8 → W2.cell? ⟨w.heap.size + 1, j, none⟩ = some (.int .i64 0) := by
    rw [← hW]
    intro j hj
    rcases (by omega : j = 0 ∨ j = 1 ∨ j = 2 ∨ j = 3 ∨ j = 4 ∨ j = 5 ∨ j = 6 ∨ j = 7) with rfl | rfl | rfl | rfl | rfl | rfl | rfl | rfl <;> simp [go_sem]
  have f0 : ∀ o, W2.frozen? ⟨w.heap.size, o, none⟩ = false := by rw [← hW]; simp [go_sem]
  have f1 : ∀ o, W2.frozen? ⟨w.heap.size + 1, o, none⟩ = false := by rw [← hW]; simp [go_sem]
  clear hW
  go_loopw [3] (fun i wr => ∃ k : Nat, k ≤ 8 ∧ i = .int .i64 k ∧ Hid (Below w.heap.size w wr ∧ wr.heap.size = w.heap.size + 2 ∧ (∀ j, j < 8 → wr.cell? ⟨w.heap.size, j, none⟩ = some (.int .i64 0)) ∧ (∀ j, j < 8 → wr.cell? ⟨w.heap.size + 1, j, none⟩ = some (.int .i64 (if j < k then -1 else 0))) ∧ (∀ o, wr.frozen? ⟨w.heap.size, o, none⟩ = false) ∧ ∀ o, wr.frozen? ⟨w.heap.size + 1, o, none⟩ = false)) (fun i _ => 8 - (intOf i).toNat)
  case atStart => exact ⟨0, by omega, rfl, ⟨bW, zW, c0, fun j hj => by simpa using c1 j hj, f0, f1⟩⟩
  case round =>
    rename World => wr
    clear c0 c1 f0 f1 bW zW
    obtain ⟨k, hk, rfl, HS⟩ := hrel
    by_cases hlt : k < 8
    · have hx := HS.out.2.2.2.1 k hlt
      have hz := HS.out.2.2.2.2.2 k
      have hlt' : (k : Int) < 8 := by omega
      go_wp2
      go_roundw
      case rel =>
        refine ⟨k + 1, by omega, by go_num, ⟨HS.out.1.setCell (by simp) _, by simpa using HS.out.2.1, fun j hj => ?_, fun j hj => ?_, fun o => ?_, fun o => ?_⟩⟩
        · rw [World.cell?_setCell_other _ _ _ _ (by simp)]; exact HS.out.2.2.1 j hj
        · by_cases ej : j = k
          · subst ej
            refine (World.cell?_setCell_same _ _ _ hx).trans ?_
            simp
          · rw [World.cell?_setCell_other _ _ _ _ (by simp <;> omega), HS.out.2.2.2.1 j hj]
            by_cases e2 : j < k
            · rw [if_pos e2, if_pos (by omega)]
            · rw [if_neg e2, if_neg (by omega)]
        · rw [World.frozen?_setCell]; exact HS.out.2.2.2.2.1 o
        · rw [World.frozen?_setCell]; exact HS.out.2.2.2.2.2 o
      case measure => simp [intOf]; omega
    · obtain rfl : k = 8 := by omega
      have q0 := HS.out.2.2.2.1 0 (by omega)
      rw [if_pos (by omega)] at q0
      have r0 := HS.out.2.2.1 0 (by omega)
      have q1 := HS.out.2.2.2.1 1 (by omega)
      rw [if_pos (by omega)] at q1
      have r1 := HS.out.2.2.1 1 (by omega)
      have q2 := HS.out.2.2.2.1 2 (by omega)
      rw [if_pos (by omega)] at q2
      have r2 := HS.out.2.2.1 2 (by omega)
      have q3 := HS.out.2.2.2.1 3 (by omega)
      rw [if_pos (by omega)] at q3
      have r3 := HS.out.2.2.1 3 (by omega)
      have q4 := HS.out.2.2.2.1 4 (by omega)
      rw [if_pos (by omega)] at q4
      have r4 := HS.out.2.2.1 4 (by omega)
      have q5 := HS.out.2.2.2.1 5 (by omega)
      rw [if_pos (by omega)] at q5
      have r5 := HS.out.2.2.1 5 (by omega)
      have q6 := HS.out.2.2.2.1 6 (by omega)
      rw [if_pos (by omega)] at q6
      have r6 := HS.out.2.2.1 6 (by omega)
      have q7 := HS.out.2.2.2.1 7 (by omega)
      rw [if_pos (by omega)] at q7
      have r7 := HS.out.2.2.1 7 (by omega)
      have fr := HS.out.2.2.2.2.1
      have HB := hidIt HS.out.1
      go_wp2
      refine bodyPost_ret (v := .agg #[.int .i64 (-1), .int .i64 (-1), .int .i64 (-1), .int .i64 (-1), .int .i64 (-1), .int .i64 (-1), .int .i64 (-1), .int .i64 (-1)]) (by simp [results, Try.results38, go_sem, r0, r1, r2, r3, r4, r5, r6, r7]) rfl ⟨rfl, ?_⟩
      have HC : Below w.heap.size w wr := HB.out
      repeat (first | (with_reducible exact HC) | (with_reducible refine Below.setCell ?_ (by simp) _))

end Go.Proofs.Ytomehhheiodagab
