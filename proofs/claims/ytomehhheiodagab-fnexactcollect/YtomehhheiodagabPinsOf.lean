/- The array of the pins of epochs. -/
import Derived.Test.YtomehhheiodagabRows
import Derived.WalkKit
import Derived.ProofKit
import Derived.OpenShut
import Derived.ShutString
import Derived.Test.YtomehhheiodagabArrFns
import Derived.Deep.RegionLaw
namespace Go.Proofs.Ytomehhheiodagab
open Go.ChangeShapes Go.WideShapes Go.ChangeAt Go.RowKit
set_option linter.unusedVariables false

def pinAt (ps : List Int) (j : Nat) : Int := ps.getD j (-1)
theorem row8 (ps : List Int) (hn : ps.length ≤ 8) (j : Nat) (hj : j < 8) : (ints ps ++ (#[.int .i64 (-1), .int .i64 (-1), .int .i64 (-1), .int .i64 (-1), .int .i64 (-1), .int .i64 (-1), .int .i64 (-1), .int .i64 (-1)] : Array Value).toList.drop (ints ps).length)[j]? = some (.int .i64 (pinAt ps j)) := by
  have e : (#[.int .i64 (-1), .int .i64 (-1), .int .i64 (-1), .int .i64 (-1), .int .i64 (-1), .int .i64 (-1), .int .i64 (-1), .int .i64 (-1)] : Array Value).toList = List.replicate 8 (Value.int .i64 (-1)) := rfl
  rw [e, ints_len]
  by_cases h : j < ps.length
  · rw [List.getElem?_append_left (by simpa using h)]
    simp [pinAt, h]
  · rw [List.getElem?_append_right (by simp; omega), ints_len, List.drop_replicate, List.getElem?_replicate, if_pos (by omega)]
    have e2 : ps[j]? = none := List.getElem?_eq_none (by omega)
    simp [pinAt, e2]

set_option maxHeartbeats 1600000 in
set_option maxRecDepth 100000 in
theorem impl_pinsof (w : World) (a : Int) (p l : Value) (ps : List Int) (L : List (Int × Int)) (h8 : ps.length ≤ 8) (hA : AIn w p l ps L) :
    Calls Try.prog 36 #[.agg #[.int .i64 a, p, l]] w fun e w' => e = .returned (.agg #[.int .i64 (pinAt ps 0), .int .i64 (pinAt ps 1), .int .i64 (pinAt ps 2), .int .i64 (pinAt ps 3), .int .i64 (pinAt ps 4), .int .i64 (pinAt ps 5), .int .i64 (pinAt ps 6), .int .i64 (pinAt ps 7)]) ∧ Below w.heap.size w w' := by
  obtain ⟨i1, hi1, hy0, hy1, hy2⟩ := info_parts info3
  have H := hidIt hA
  obtain ⟨pa, pc, la, lc, rfl, rfl, -⟩ := hA.form
  clear hA
  go_enter Try.func36, Try.ntmps36
  go_wp2_with fail
  generalize hW : World.alloc (World.alloc w _) _ = W2
  have bW : Below w.heap.size w W2 := by rw [← hW]; exact ((Below.refl w.heap.size w).alloc (Nat.le_refl _) _).alloc (by simp) _
  have zW : W2.heap.size = w.heap.size + 2 := by rw [← hW]; simp
  have c1 : W2.cell? ⟨w.heap.size, 1, none⟩ = some (.slice pa ps.length pc) := by rw [← hW]; simp [go_sem]
  have d0 : ∀ j, j < 8 → W2.cell? ⟨w.heap.size + 1, j, none⟩ = some (.int .i64 0) := by
    rw [← hW]
    intro j hj
    rcases (by omega : j = 0 ∨ j = 1 ∨ j = 2 ∨ j = 3 ∨ j = 4 ∨ j = 5 ∨ j = 6 ∨ j = 7) with rfl | rfl | rfl | rfl | rfl | rfl | rfl | rfl <;> simp [go_sem]
  have f0 : ∀ o, W2.frozen? ⟨w.heap.size + 1, o, none⟩ = false := by rw [← hW]; simp [go_sem]
  clear hW
  refine (impl_nobody W2).mono ?_
  rintro e w3 ⟨rfl, b3⟩
  have z3 := b3.size
  have B3 := hidIt (bW.trans (b3.mono (by omega)))
  replace c1 := below_cell b3 (by omega) c1
  have d1 : ∀ j, j < 8 → w3.cell? ⟨w.heap.size + 1, j, none⟩ = some (.int .i64 0) := fun j hj => below_cell b3 (by omega) (d0 j hj)
  replace f0 : ∀ o, w3.frozen? ⟨w.heap.size + 1, o, none⟩ = false := fun o => below_frozen b3 (by omega) (f0 o)
  have D1 := hidIt d1
  clear b3 bW d0 d1
  have hlt0 : w.heap.size < w3.heap.size := by omega
  have BX : Hid (Below w.heap.size w (w3.alloc (.cells #[.int .i64 (-1), .int .i64 (-1), .int .i64 (-1), .int .i64 (-1), .int .i64 (-1), .int .i64 (-1), .int .i64 (-1), .int .i64 (-1)] 58)).drew) := ((B3.out.alloc (by omega) _).drew : Below w.heap.size w _)
  obtain ⟨w4, hr4, h4⟩ := copy_over_ex (P := Try.prog) (w3.alloc (.cells #[.int .i64 (-1), .int .i64 (-1), .int .i64 (-1), .int .i64 (-1), .int .i64 (-1), .int .i64 (-1), .int .i64 (-1), .int .i64 (-1)] 58)).drew 22 22 3 3 w3.heap.size 8 8 pa ps.length pc #[.int .i64 (-1), .int .i64 (-1), .int .i64 (-1), .int .i64 (-1), .int .i64 (-1), .int .i64 (-1), .int .i64 (-1), .int .i64 (-1)] 58 (ints ps) 1 Try.underlying22 (by rw [hi1]; simp [hy1]) (heap_alloc_new w3 _) h8 (by simp) (inrow_src (H.out.pins.below BX.out)) (by simpa using h8) (ints_one ps) (by omega)
  have G4 := hidIt h4.out.2
  have z4 := G4.out.size
  simp at z4
  have R4 := hidIt h4.out.1
  clear h4
  have K4 : Hid (∀ j, j < 8 → w4.cell? ⟨w3.heap.size, j, none⟩ = some (.int .i64 (pinAt ps j))) := fun j hj => by
    have := row8 ps h8 j hj
    simp only [World.cell?, R4.out]
    simpa using this
  have k0 := K4.out 0 (by omega)
  have k1 := K4.out 1 (by omega)
  have k2 := K4.out 2 (by omega)
  have k3 := K4.out 3 (by omega)
  have k4 := K4.out 4 (by omega)
  have k5 := K4.out 5 (by omega)
  have k6 := K4.out 6 (by omega)
  have k7 := K4.out 7 (by omega)
  have e0 : w4.cell? ⟨w.heap.size + 1, 0, none⟩ = some (.int .i64 0) := far G4.out (by simp; omega) (by omega) (below_cell ((Below.refl _ w3).alloc (Nat.le_refl _) _).drew (by omega) (D1.out 0 (by omega)))
  have e1 : w4.cell? ⟨w.heap.size + 1, 1, none⟩ = some (.int .i64 0) := far G4.out (by simp; omega) (by omega) (below_cell ((Below.refl _ w3).alloc (Nat.le_refl _) _).drew (by omega) (D1.out 1 (by omega)))
  have e2 : w4.cell? ⟨w.heap.size + 1, 2, none⟩ = some (.int .i64 0) := far G4.out (by simp; omega) (by omega) (below_cell ((Below.refl _ w3).alloc (Nat.le_refl _) _).drew (by omega) (D1.out 2 (by omega)))
  have e3 : w4.cell? ⟨w.heap.size + 1, 3, none⟩ = some (.int .i64 0) := far G4.out (by simp; omega) (by omega) (below_cell ((Below.refl _ w3).alloc (Nat.le_refl _) _).drew (by omega) (D1.out 3 (by omega)))
  have e4 : w4.cell? ⟨w.heap.size + 1, 4, none⟩ = some (.int .i64 0) := far G4.out (by simp; omega) (by omega) (below_cell ((Below.refl _ w3).alloc (Nat.le_refl _) _).drew (by omega) (D1.out 4 (by omega)))
  have e5 : w4.cell? ⟨w.heap.size + 1, 5, none⟩ = some (.int .i64 0) := far G4.out (by simp; omega) (by omega) (below_cell ((Below.refl _ w3).alloc (Nat.le_refl _) _).drew (by omega) (D1.out 5 (by omega)))
  have e6 : w4.cell? ⟨w.heap.size + 1, 6, none⟩ = some (.int .i64 0) := far G4.out (by simp; omega) (by omega) (below_cell ((Below.refl _ w3).alloc (Nat.le_refl _) _).drew (by omega) (D1.out 6 (by omega)))
  have e7 : w4.cell? ⟨w.heap.size + 1, 7, none⟩ = some (.int .i64 0) := far G4.out (by simp; omega) (by omega) (below_cell ((Below.refl _ w3).alloc (Nat.le_refl _) _).drew (by omega) (D1.out 7 (by omega)))
  have g0 : ∀ o, w4.frozen? ⟨w.heap.size + 1, o, none⟩ = false := fun o => far_frozen G4.out (by simp; omega) (by omega) (below_frozen ((Below.refl _ w3).alloc (Nat.le_refl _) _).drew (by omega) (f0 o))
  have B4 : Below w.heap.size w w4 := far_below BX.out G4.out (by omega)
  have HB4 := hidIt B4
  clear f0 B4
  go_wp2_with fail
  go_region
  all_goals
    go_wp2
    refine bodyPost_ret (v := .agg #[.int .i64 (pinAt ps 0), .int .i64 (pinAt ps 1), .int .i64 (pinAt ps 2), .int .i64 (pinAt ps 3), .int .i64 (pinAt ps 4), .int .i64 (pinAt ps 5), .int .i64 (pinAt ps 6), .int .i64 (pinAt ps 7)]) (by simp [results, Try.results36, go_sem, e0, e1, e2, e3, e4, e5, e6, e7]) rfl ⟨rfl, ?_⟩
    have HC : Below w.heap.size w w4 := HB4.out
    repeat (first | (with_reducible exact HC) | (with_reducible refine Below.setCell ?_ (by simp) _))

end Go.Proofs.Ytomehhheiodagab
