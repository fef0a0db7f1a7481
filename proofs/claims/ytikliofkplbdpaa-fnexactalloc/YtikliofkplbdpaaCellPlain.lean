/- What acts on a row of cells do: plain functions. -/
import Derived.Test.YtikliofkplbdpaaRows
import Derived.WalkKit
import Derived.ProofKit
import Derived.OpenShut
import Derived.ShutString
namespace Go.Proofs.Ytikliofkplbdpaa
open Go.ChangeShapes Go.WideShapes Go.ChangeAt Go.RowKit
set_option linter.unusedVariables false

def actB (n : Nat) (k t a b : Int) : Bool := decide (1 ≤ k ∧ k ≤ 4 ∧ 0 ≤ t ∧ t < (n : Int) ∧ n ≤ 300 ∧ (k = 1 → a = 0) ∧ (k ≠ 3 → b = 0))
theorem actB_no {n : Nat} {k t a b : Int} (h : ¬ (1 ≤ k ∧ k ≤ 4 ∧ 0 ≤ t ∧ t < (n : Int) ∧ n ≤ 300 ∧ (k = 1 → a = 0) ∧ (k ≠ 3 → b = 0))) : actB n k t a b = false := decide_eq_false h
theorem actB_yes {n : Nat} {k t a b : Int} (h : 1 ≤ k ∧ k ≤ 4 ∧ 0 ≤ t ∧ t < (n : Int) ∧ n ≤ 300 ∧ (k = 1 → a = 0) ∧ (k ≠ 3 → b = 0)) : actB n k t a b = true := decide_eq_true h
theorem actB_of {n : Nat} {k t a b : Int} (h : actB n k t a b = true) : 1 ≤ k ∧ k ≤ 4 ∧ 0 ≤ t ∧ t < (n : Int) ∧ n ≤ 300 ∧ (k = 1 → a = 0) ∧ (k ≠ 3 → b = 0) := of_decide_eq_true h
def kindB (k a b : Int) : Bool := decide (1 ≤ k ∧ k ≤ 4 ∧ (k = 1 → a = 0) ∧ (k ≠ 3 → b = 0))
def hasB (n : Nat) (t : Int) : Bool := decide (0 ≤ t ∧ t < (n : Int))
theorem kindB_eq {k a b : Int} {x : Bool} (h : x = true ↔ (1 ≤ k ∧ k ≤ 4 ∧ (k = 1 → a = 0) ∧ (k ≠ 3 → b = 0))) : x = kindB k a b := by
  rw [Bool.eq_iff_iff, h]; unfold kindB; rw [decide_eq_true_iff]
theorem actB_eq {n : Nat} {k t a b : Int} {x : Bool} (h : x = true ↔ (1 ≤ k ∧ k ≤ 4 ∧ 0 ≤ t ∧ t < (n : Int) ∧ n ≤ 300 ∧ (k = 1 → a = 0) ∧ (k ≠ 3 → b = 0))) : x = actB n k t a b := by
  rw [Bool.eq_iff_iff, h]; unfold actB; rw [decide_eq_true_iff]
theorem hasB_eq {n : Nat} {t : Int} {x : Bool} (h : x = true ↔ (0 ≤ t ∧ t < (n : Int))) : x = hasB n t := by
  rw [Bool.eq_iff_iff, h]; unfold hasB; rw [decide_eq_true_iff]
theorem actB_parts (n : Nat) (k t a b : Int) : actB n k t a b = (kindB k a b && (hasB n t && decide (n ≤ 300))) := by
  rw [Bool.eq_iff_iff]; unfold actB kindB hasB; simp only [Bool.and_eq_true, decide_eq_true_iff]; omega
/- what an act leaves in the row, and what it tells -/
def actNew (x k a b : Int) : Int := if k = 2 then a else if k = 3 then (if x = a then b else x) else if k = 4 then wrap64 (x + a) else x
def actTold (x k a : Int) : Int := if k = 2 then 0 else if k = 3 then (if x = a then 1 else 0) else if k = 4 then wrap64 (x + a) else x
def memDo (xs : List Int) (k t a b : Int) : List Int := xs.set t.toNat (actNew (xs.getD t.toNat 0) k a b)

end Go.Proofs.Ytikliofkplbdpaa
