/- Pins up to an epoch, and whether somebody is pinned so. -/
import Derived.Test.YtomehhheiodagabRows
import Derived.WalkKit
import Derived.ProofKit
import Derived.OpenShut
import Derived.ShutString
import Derived.Test.YtomehhheiodagabPinsOf
namespace Go.Proofs.Ytomehhheiodagab
open Go.ChangeShapes Go.WideShapes Go.ChangeAt Go.RowKit
set_option linter.unusedVariables false

def cutAt (m x : Int) : Int := if m < x then -1 else x
def cutTo8 (m : Int) (x : Nat → Int) (k j : Nat) : Int := if j < k then cutAt m (x j) else x j

theorem idx8_0 (x : Nat → Int) (w : World) : (Instr.index 58 (.agg #[.int .i64 (x 0), .int .i64 (x 1), .int .i64 (x 2), .int .i64 (x 3), .int .i64 (x 4), .int .i64 (x 5), .int .i64 (x 6), .int .i64 (x 7)]) (.int .i64 0)).run Try.prog w = .ok (.int .i64 (x 0)) w := by kernel_rfl
theorem idx8_1 (x : Nat → Int) (w : World) : (Instr.index 58 (.agg #[.int .i64 (x 0), .int .i64 (x 1), .int .i64 (x 2), .int .i64 (x 3), .int .i64 (x 4), .int .i64 (x 5), .int .i64 (x 6), .int .i64 (x 7)]) (.int .i64 1)).run Try.prog w = .ok (.int .i64 (x 1)) w := by kernel_rfl
theorem idx8_2 (x : Nat → Int) (w : World) : (Instr.index 58 (.agg #[.int .i64 (x 0), .int .i64 (x 1), .int .i64 (x 2), .int .i64 (x 3), .int .i64 (x 4), .int .i64 (x 5), .int .i64 (x 6), .int .i64 (x 7)]) (.int .i64 2)).run Try.prog w = .ok (.int .i64 (x 2)) w := by kernel_rfl
theorem idx8_3 (x : Nat → Int) (w : World) : (Instr.index 58 (.agg #[.int .i64 (x 0), .int .i64 (x 1), .int .i64 (x 2), .int .i64 (x 3), .int .i64 (x 4), .int .i64 (x 5), .int .i64 (x 6), .int .i64 (x 7)]) (.int .i64 3)).run Try.prog w = .ok (.int .i64 (x 3)) w := by kernel_rfl
theorem idx8_4 (x : Nat → Int) (w : World) : (Instr.index 58 (.agg #[.int .i64 (x 0), .int .i64 (x 1), .int .i64 (x 2), .int .i64 (x 3), .int .i64 (x 4), .int .i64 (x 5), .int .i64 (x 6), .int .i64 (x 7)]) (.int .i64 4)).run Try.prog w = .ok (.int .i64 (x 4)) w := by kernel_rfl
theorem idx8_5 (x : Nat → Int) (w : World) : (Instr.index 58 (.agg #[.int .i64 (x 0), .int .i64 (x 1), .int .i64 (x 2), .int .i64 (x 3), .int .i64 (x 4), .int .i64 (x 5), .int .i64 (x 6), .int .i64 (x 7)]) (.int .i64 5)).run Try.prog w = .ok (.int .i64 (x 5)) w := by kernel_rfl
theorem idx8_6 (x : Nat → Int) (w : World) : (Instr.index 58 (.agg #[.int .i64 (x 0), .int .i64 (x 1), .int .i64 (x 2), .int .i64 (x 3), .int .i64 (x 4), .int .i64 (x 5), .int .i64 (x 6), .int .i64 (x 7)]) (.int .i64 6)).run Try.prog w = .ok (.int .i64 (x 6)) w := by kernel_rfl
theorem idx8_7 (x : Nat → Int) (w : World) : (Instr.index 58 (.agg #[.int .i64 (x 0), .int .i64 (x 1), .int .i64 (x 2), .int .i64 (x 3), .int .i64 (x 4), .int .i64 (x 5), .int .i64 (x 6), .int .i64 (x 7)]) (.int .i64 7)).run Try.prog w = .ok (.int .i64 (x 7)) w := by kernel_rfl

set_option maxHeartbeats 3200000 in
set_option maxRecDepth 100000 in
theorem impl_upto (w : World) (x : Nat → Int) (at' : Int) :
    Calls Try.prog 37 #[.agg #[.int .i64 (x 0), .int .i64 (x 1), .int .i64 (x 2), .int .i64 (x 3), .int .i64 (x 4), .int .i64 (x 5), .int .i64 (x 6), .int .i64 (x 7)], .int .i64 at'] w fun e w' => e = .returned (.agg #[.int .i64 (cutAt at' (x 0)), .int .i64 (cutAt at' (x 1)), .int .i64 (cutAt at' (x 2)), .int .i64 (cutAt at' (x 3)), .int .i64 (cutAt at' (x 4)), .int .i64 (cutAt at' (x 5)), .int .i64 (cutAt at' (x 6)), .int .i64 (cutAt at' (x 7))]) ∧ Below w.heap.size w w' := by
  go_enter Try.func37, Try.ntmps37
  go_wp2_with fail
  generalize hW : World.alloc (World.alloc w _) _ = W2
  have bW : Below w.heap.size w W2 := by rw [← hW]; exact ((Below.refl w.heap.size w).alloc (Nat.le_refl _) _).alloc (by simp) _
  have zW : W2.heap.size = w.heap.size + 2 := by rw [← hW]; simp
  have c0 : ∀ j, j < 8 → W2.cell? ⟨w.heap.size, j, none⟩ = some (.int .i64 (x j)) := by
    rw [← hW]
    intro j hj
    rcases (by omega : j = 0 ∨ j = 1 ∨ j = 2 ∨ j = 3 ∨ j = 4 ∨ j = 5 ∨ j = 6 ∨ j = 7) with rfl | rfl | rfl | rfl | rfl | rfl | rfl | rfl <;> simp [go_sem]
  have c1 : ∀ j, j < 8 → W2.cell? ⟨w.heap.size + 1, j, none⟩ = some (.int .i64 0) := by
    rw [← hW]
    intro j hj
    rcases (by omega : j = 0 ∨ j = 1 ∨ j = 2 ∨ j = 3 ∨ j = 4 ∨ j = 5 ∨ j = 6 ∨ j = 7) with rfl | rfl | rfl | rfl | rfl | rfl | rfl | rfl <;> simp [go_sem]
  have f0 : ∀ o, W2.frozen? ⟨w.heap.size, o, none⟩ = false := by rw [← hW]; simp [go_sem]
  have f1 : ∀ o, W2.frozen? ⟨w.heap.size + 1, o, none⟩ = false := by rw [← hW]; simp [go_sem]
  clear hW
  go_loopw [8] (fun i wr => ∃ k : Nat, k ≤ 8 ∧ i = .int .i64 k ∧ Hid (Below w.heap.size w wr ∧ wr.heap.size = w.heap.size + 2 ∧ (∀ j, j < 8 → wr.cell? ⟨w.heap.size, j, none⟩ = some (.int .i64 (cutTo8 at' x k j))) ∧ (∀ j, j < 8 → wr.cell? ⟨w.heap.size + 1, j, none⟩ = some (.int .i64 0)) ∧ (∀ o, wr.frozen? ⟨w.heap.size, o, none⟩ = false) ∧ ∀ o, wr.frozen? ⟨w.heap.size + 1, o, none⟩ = false)) (fun i _ => 8 - (intOf i).toNat)
  case atStart => exact ⟨0, by omega, rfl, ⟨bW, zW, fun j hj => by simpa [cutTo8] using c0 j hj, c1, f0, f1⟩⟩
  case round =>
    rename World => wr
    clear c0 c1 f0 f1 bW zW
    obtain ⟨k, hk, rfl, HS⟩ := hrel
    by_cases hlt : k < 8
    · have KEEP : Hid (¬ at' < x k → ∀ j, j < 8 → wr.cell? ⟨w.heap.size, j, none⟩ = some (.int .i64 (cutTo8 at' x (k + 1) j))) := fun hn j hj => by
        rw [HS.out.2.2.1 j hj]
        unfold cutTo8
        by_cases ej : j = k
        · subst ej; simp [cutAt, hn]
        · by_cases e2 : j < k
          · rw [if_pos e2, if_pos (by omega)]
          · rw [if_neg e2, if_neg (by omega)]
      have PUT : Hid (at' < x k → ∀ j, j < 8 → (wr.setCell ⟨w.heap.size, k, none⟩ (.int .i64 (-1))).cell? ⟨w.heap.size, j, none⟩ = some (.int .i64 (cutTo8 at' x (k + 1) j))) := fun hn j hj => by
        by_cases ej : j = k
        · subst ej
          refine (World.cell?_setCell_same _ _ _ (HS.out.2.2.1 j hj)).trans ?_
          simp [cutTo8, cutAt, hn]
        · rw [World.cell?_setCell_other _ _ _ _ (by simp <;> omega), HS.out.2.2.1 j hj]
          unfold cutTo8
          by_cases e2 : j < k
          · rw [if_pos e2, if_pos (by omega)]
          · rw [if_neg e2, if_neg (by omega)]
      have hx := HS.out.2.2.1 k hlt
      have hz := HS.out.2.2.2.2.1 k
      generalize cutTo8 at' x k k = cur at hx
      have MEAS : 8 - (k + 1) < 8 - k := by omega
      rcases (by omega : k = 0 ∨ k = 1 ∨ k = 2 ∨ k = 3 ∨ k = 4 ∨ k = 5 ∨ k = 6 ∨ k = 7) with rfl | rfl | rfl | rfl | rfl | rfl | rfl | rfl
      · have hX := idx8_0 x
        by_cases hn : at' < x 0
        · go_wp2
          go_roundw
          case rel => exact ⟨1, by omega, by go_num, ⟨HS.out.1.setCell (by simp) _, by simpa using HS.out.2.1, PUT.out hn, fun j hj => by rw [World.cell?_setCell_other _ _ _ _ (by simp)]; exact HS.out.2.2.2.1 j hj, fun o => by rw [World.frozen?_setCell]; exact HS.out.2.2.2.2.1 o, fun o => by rw [World.frozen?_setCell]; exact HS.out.2.2.2.2.2 o⟩⟩
          case measure => simp [intOf]
        · go_wp2
          go_roundw
          case rel => exact ⟨1, by omega, by go_num, ⟨HS.out.1, HS.out.2.1, KEEP.out hn, HS.out.2.2.2.1, HS.out.2.2.2.2.1, HS.out.2.2.2.2.2⟩⟩
          case measure => simp [intOf]
      · have hX := idx8_1 x
        by_cases hn : at' < x 1
        · go_wp2
          go_roundw
          case rel => exact ⟨2, by omega, by go_num, ⟨HS.out.1.setCell (by simp) _, by simpa using HS.out.2.1, PUT.out hn, fun j hj => by rw [World.cell?_setCell_other _ _ _ _ (by simp)]; exact HS.out.2.2.2.1 j hj, fun o => by rw [World.frozen?_setCell]; exact HS.out.2.2.2.2.1 o, fun o => by rw [World.frozen?_setCell]; exact HS.out.2.2.2.2.2 o⟩⟩
          case measure => simp [intOf]
        · go_wp2
          go_roundw
          case rel => exact ⟨2, by omega, by go_num, ⟨HS.out.1, HS.out.2.1, KEEP.out hn, HS.out.2.2.2.1, HS.out.2.2.2.2.1, HS.out.2.2.2.2.2⟩⟩
          case measure => simp [intOf]
      · have hX := idx8_2 x
        by_cases hn : at' < x 2
        · go_wp2
          go_roundw
          case rel => exact ⟨3, by omega, by go_num, ⟨HS.out.1.setCell (by simp) _, by simpa using HS.out.2.1, PUT.out hn, fun j hj => by rw [World.cell?_setCell_other _ _ _ _ (by simp)]; exact HS.out.2.2.2.1 j hj, fun o => by rw [World.frozen?_setCell]; exact HS.out.2.2.2.2.1 o, fun o => by rw [World.frozen?_setCell]; exact HS.out.2.2.2.2.2 o⟩⟩
          case measure => simp [intOf]
        · go_wp2
          go_roundw
          case rel => exact ⟨3, by omega, by go_num, ⟨HS.out.1, HS.out.2.1, KEEP.out hn, HS.out.2.2.2.1, HS.out.2.2.2.2.1, HS.out.2.2.2.2.2⟩⟩
          case measure => simp [intOf]
      · have hX := idx8_3 x
        by_cases hn : at' < x 3
        · go_wp2
          go_roundw
          case rel => exact ⟨4, by omega, by go_num, ⟨HS.out.1.setCell (by simp) _, by simpa using HS.out.2.1, PUT.out hn, fun j hj => by rw [World.cell?_setCell_other _ _ _ _ (by simp)]; exact HS.out.2.2.2.1 j hj, fun o => by rw [World.frozen?_setCell]; exact HS.out.2.2.2.2.1 o, fun o => by rw [World.frozen?_setCell]; exact HS.out.2.2.2.2.2 o⟩⟩
          case measure => simp [intOf]
        · go_wp2
          go_roundw
          case rel => exact ⟨4, by omega, by go_num, ⟨HS.out.1, HS.out.2.1, KEEP.out hn, HS.out.2.2.2.1, HS.out.2.2.2.2.1, HS.out.2.2.2.2.2⟩⟩
          case measure => simp [intOf]
      · have hX := idx8_4 x
        by_cases hn : at' < x 4
        · go_wp2
          go_roundw
          case rel => exact ⟨5, by omega, by go_num, ⟨HS.out.1.setCell (by simp) _, by simpa using HS.out.2.1, PUT.out hn, fun j hj => by rw [World.cell?_setCell_other _ _ _ _ (by simp)]; exact HS.out.2.2.2.1 j hj, fun o => by rw [World.frozen?_setCell]; exact HS.out.2.2.2.2.1 o, fun o => by rw [World.frozen?_setCell]; exact HS.out.2.2.2.2.2 o⟩⟩
          case measure => simp [intOf]
        · go_wp2
          go_roundw
          case rel => exact ⟨5, by omega, by go_num, ⟨HS.out.1, HS.out.2.1, KEEP.out hn, HS.out.2.2.2.1, HS.out.2.2.2.2.1, HS.out.2.2.2.2.2⟩⟩
          case measure => simp [intOf]
      · have hX := idx8_5 x
        by_cases hn : at' < x 5
        · go_wp2
          go_roundw
          case rel => exact ⟨6, by omega, by go_num, ⟨HS.out.1.setCell (by simp) _, by simpa using HS.out.2.1, PUT.out hn, fun j hj => by rw [World.cell?_setCell_other _ _ _ _ (by simp)]; exact HS.out.2.2.2.1 j hj, fun o => by rw [World.frozen?_setCell]; exact HS.out.2.2.2.2.1 o, fun o => by rw [World.frozen?_setCell]; exact HS.out.2.2.2.2.2 o⟩⟩
          case measure => simp [intOf]
        · go_wp2
          go_roundw
          case rel => exact ⟨6, by omega, by go_num, ⟨HS.out.1, HS.out.2.1, KEEP.out hn, HS.out.2.2.2.1, HS.out.2.2.2.2.1, HS.out.2.2.2.2.2⟩⟩
          case measure => simp [intOf]
      · have hX := idx8_6 x
        by_cases hn : at' < x 6
        · go_wp2
          go_roundw
          case rel => exact ⟨7, by omega, by go_num, ⟨HS.out.1.setCell (by simp) _, by simpa using HS.out.2.1, PUT.out hn, fun j hj => by rw [World.cell?_setCell_other _ _ _ _ (by simp)]; exact HS.out.2.2.2.1 j hj, fun o => by rw [World.frozen?_setCell]; exact HS.out.2.2.2.2.1 o, fun o => by rw [World.frozen?_setCell]; exact HS.out.2.2.2.2.2 o⟩⟩
          case measure => simp [intOf]
        · go_wp2
          go_roundw
          case rel => exact ⟨7, by omega, by go_num, ⟨HS.out.1, HS.out.2.1, KEEP.out hn, HS.out.2.2.2.1, HS.out.2.2.2.2.1, HS.out.2.2.2.2.2⟩⟩
          case measure => simp [intOf]
      · have hX := idx8_7 x
        by_cases hn : at' < x 7
        · go_wp2
          go_roundw
          case rel => exact ⟨8, by omega, by go_num, ⟨HS.out.1.setCell (by simp) _, by simpa using HS.out.2.1, PUT.out hn, fun j hj => by rw [World.cell?_setCell_other _ _ _ _ (by simp)]; exact HS.out.2.2.2.1 j hj, fun o => by rw [World.frozen?_setCell]; exact HS.out.2.2.2.2.1 o, fun o => by rw [World.frozen?_setCell]; exact HS.out.2.2.2.2.2 o⟩⟩
          case measure => simp [intOf]
        · go_wp2
          go_roundw
          case rel => exact ⟨8, by omega, by go_num, ⟨HS.out.1, HS.out.2.1, KEEP.out hn, HS.out.2.2.2.1, HS.out.2.2.2.2.1, HS.out.2.2.2.2.2⟩⟩
          case measure => simp [intOf]
    · obtain rfl : k = 8 := by omega
      have q0 : wr.cell? ⟨w.heap.size, 0, none⟩ = some (.int .i64 (cutAt at' (x 0))) := by rw [HS.out.2.2.1 0 (by omega)]; simp [cutTo8]
      have r0 := HS.out.2.2.2.1 0 (by omega)
      have q1 : wr.cell? ⟨w.heap.size, 1, none⟩ = some (.int .i64 (cutAt at' (x 1))) := by rw [HS.out.2.2.1 1 (by omega)]; simp [cutTo8]
      have r1 := HS.out.2.2.2.1 1 (by omega)
      have q2 : wr.cell? ⟨w.heap.size, 2, none⟩ = some (.int .i64 (cutAt at' (x 2))) := by rw [HS.out.2.2.1 2 (by omega)]; simp [cutTo8]
      have r2 := HS.out.2.2.2.1 2 (by omega)
      have q3 : wr.cell? ⟨w.heap.size, 3, none⟩ = some (.int .i64 (cutAt at' (x 3))) := by rw [HS.out.2.2.1 3 (by omega)]; simp [cutTo8]
      have r3 := HS.out.2.2.2.1 3 (by omega)
      have q4 : wr.cell? ⟨w.heap.size, 4, none⟩ = some (.int .i64 (cutAt at' (x 4))) := by rw [HS.out.2.2.1 4 (by omega)]; simp [cutTo8]
      have r4 := HS.out.2.2.2.1 4 (by omega)
      have q5 : wr.cell? ⟨w.heap.size, 5, none⟩ = some (.int .i64 (cutAt at' (x 5))) := by rw [HS.out.2.2.1 5 (by omega)]; simp [cutTo8]
      have r5 := HS.out.2.2.2.1 5 (by omega)
      have q6 : wr.cell? ⟨w.heap.size, 6, none⟩ = some (.int .i64 (cutAt at' (x 6))) := by rw [HS.out.2.2.1 6 (by omega)]; simp [cutTo8]
      have r6 := HS.out.2.2.2.1 6 (by omega)
      have q7 : wr.cell? ⟨w.heap.size, 7, none⟩ = some (.int .i64 (cutAt at' (x 7))) := by rw [HS.out.2.2.1 7 (by omega)]; simp [cutTo8]
      have r7 := HS.out.2.2.2.1 7 (by omega)
      have fr := HS.out.2.2.2.2.2
      have HB := hidIt HS.out.1
      go_wp2
      refine bodyPost_ret (v := .agg #[.int .i64 (cutAt at' (x 0)), .int .i64 (cutAt at' (x 1)), .int .i64 (cutAt at' (x 2)), .int .i64 (cutAt at' (x 3)), .int .i64 (cutAt at' (x 4)), .int .i64 (cutAt at' (x 5)), .int .i64 (cutAt at' (x 6)), .int .i64 (cutAt at' (x 7))]) (by simp [results, Try.results37, go_sem, r0, r1, r2, r3, r4, r5, r6, r7]) rfl ⟨rfl, ?_⟩
      have HC : Below w.heap.size w wr := HB.out
      repeat (first | (with_reducible exact HC) | (with_reducible refine Below.setCell ?_ (by simp) _))

end Go.Proofs.Ytomehhheiodagab
