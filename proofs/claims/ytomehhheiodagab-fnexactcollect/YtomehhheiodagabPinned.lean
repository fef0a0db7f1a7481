/- Whether somebody is pinned up to an epoch. -/
import Derived.Test.YtomehhheiodagabRows
import Derived.WalkKit
import Derived.ProofKit
import Derived.OpenShut
import Derived.ShutString
import Derived.Test.YtomehhheiodagabEq8
namespace Go.Proofs.Ytomehhheiodagab
open Go.ChangeShapes Go.WideShapes Go.ChangeAt Go.RowKit
set_option linter.unusedVariables false

def pinnedB (ps : List Int) (m : Int) : Bool := ps.any (fun p => decide (p ≠ -1) && decide (p ≤ m))
theorem cut_one (m x : Int) : (cutAt m x = -1) ↔ ¬ (x ≠ -1 ∧ x ≤ m) := by unfold cutAt; split <;> omega
theorem pinned_none (ps : List Int) (m : Int) (h8 : ps.length ≤ 8) (h : ∀ j, j < 8 → cutAt m (pinAt ps j) = -1) : pinnedB ps m = false := by
  rw [pinnedB, List.any_eq_false]
  intro p hp
  obtain ⟨j, hj, rfl⟩ := List.mem_iff_getElem.1 hp
  have := (cut_one m (pinAt ps j)).1 (h j (by omega))
  have e : pinAt ps j = ps[j] := by simp [pinAt, hj]
  rw [e] at this
  simp only [Bool.and_eq_true, decide_eq_true_eq]
  exact this
theorem pinned_some (ps : List Int) (m : Int) (j : Nat) (h : cutAt m (pinAt ps j) ≠ -1) : pinnedB ps m = true := by
  have h1 : pinAt ps j ≠ -1 ∧ pinAt ps j ≤ m := by
    by_cases hc : pinAt ps j ≠ -1 ∧ pinAt ps j ≤ m
    · exact hc
    · exact absurd ((cut_one m _).2 hc) h
  by_cases hj : j < ps.length
  · have e : pinAt ps j = ps[j] := by simp [pinAt, hj]
    rw [e] at h1
    rw [pinnedB, List.any_eq_true]
    exact ⟨ps[j], List.getElem_mem hj, by simp [h1.1, h1.2]⟩
  · exfalso
    apply h1.1
    simp [pinAt, List.getElem?_eq_none (show ps.length ≤ j by omega)]

theorem all8_iff (y : Nat → Int) : all8 y = true ↔ ∀ j, j < 8 → y j = -1 := by
  constructor
  · intro h j hj
    simp only [all8, Bool.and_eq_true, beq_iff_eq] at h
    obtain ⟨h0, h1, h2, h3, h4, h5, h6, h7, -⟩ := h
    rcases (by omega : j = 0 ∨ j = 1 ∨ j = 2 ∨ j = 3 ∨ j = 4 ∨ j = 5 ∨ j = 6 ∨ j = 7) with rfl | rfl | rfl | rfl | rfl | rfl | rfl | rfl <;> assumption
  · intro h
    simp [all8, h 0, h 1, h 2, h 3, h 4, h 5, h 6, h 7]
theorem all8_pinned (ps : List Int) (m : Int) (h8 : ps.length ≤ 8) : all8 (fun j => cutAt m (pinAt ps j)) = !pinnedB ps m := by
  by_cases hc : ∀ j, j < 8 → cutAt m (pinAt ps j) = -1
  · rw [(all8_iff _).2 hc, pinned_none ps m h8 hc]; rfl
  · have h1 : all8 (fun j => cutAt m (pinAt ps j)) = false := by
      cases h : all8 (fun j => cutAt m (pinAt ps j)) with
      | false => rfl
      | true => exact absurd ((all8_iff _).1 h) hc
    simp only [Classical.not_forall] at hc
    obtain ⟨j, hj, hn⟩ := hc
    rw [h1, pinned_some ps m j hn]; rfl

set_option maxHeartbeats 800000 in
set_option maxRecDepth 100000 in
theorem impl_pinned (w : World) (a : Int) (p l : Value) (ps : List Int) (L : List (Int × Int)) (m : Int) (h8 : ps.length ≤ 8) (hA : AIn w p l ps L) :
    Calls Try.prog 28 #[.agg #[.int .i64 a, p, l], .int .i64 m] w fun e w' => e = .returned (.bool (pinnedB ps m)) ∧ Below w.heap.size w w' := by
  have H := hidIt (hA.below ((Below.refl w.heap.size w).alloc (Nat.le_refl _) (.cells #[.int .i64 a, p, l] 29)))
  obtain ⟨pa, pc, la, lc, rfl, rfl, -⟩ := hA.form
  clear hA
  have hE : ∀ W, (Op.equalIn 10000 58 (.agg #[.int .i64 (cutAt m (pinAt ps 0)), .int .i64 (cutAt m (pinAt ps 1)), .int .i64 (cutAt m (pinAt ps 2)), .int .i64 (cutAt m (pinAt ps 3)), .int .i64 (cutAt m (pinAt ps 4)), .int .i64 (cutAt m (pinAt ps 5)), .int .i64 (cutAt m (pinAt ps 6)), .int .i64 (cutAt m (pinAt ps 7))]) (.agg #[.int .i64 (-1), .int .i64 (-1), .int .i64 (-1), .int .i64 (-1), .int .i64 (-1), .int .i64 (-1), .int .i64 (-1), .int .i64 (-1)])).run Try.prog W = .ok (!pinnedB ps m) W := fun W => by
    rw [← all8_pinned ps m h8]
    exact equal8 (fun j => cutAt m (pinAt ps j)) W
  go_enter Try.func28, Try.ntmps28
  go_wp2_with (first | (go_at_call 36; refine (impl_pinsof _ a _ _ ps L h8 H.out).mono ?_; rintro e w3 ⟨rfl, b3⟩) | (go_at_call 37; refine (impl_upto _ (pinAt ps) m).mono ?_; rintro e w4 ⟨rfl, b4⟩) | (go_at_call 38; refine (impl_nobody _).mono ?_; rintro e w5 ⟨rfl, b5⟩))
  go_ret
  exact ⟨rfl, below_step (below_step (below_step ((Below.refl w.heap.size w).alloc (Nat.le_refl _) _) b3) b4) b5⟩

end Go.Proofs.Ytomehhheiodagab
