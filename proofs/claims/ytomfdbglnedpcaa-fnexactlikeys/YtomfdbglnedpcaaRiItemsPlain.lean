/- The values of a ring from head to tail, plainly. -/
import Derived.Test.YtomfdbglnedpcaaRows
import Derived.WalkKit
import Derived.ProofKit
import Derived.OpenShut
import Derived.ShutString
import Derived.Test.YtomfdbglnedpcaaRiPlain
namespace Go.Proofs.Ytomfdbglnedpcaa
open Go.ChangeShapes Go.WideShapes Go.ChangeAt Go.RowKit
set_option linter.unusedVariables false

def numB (x : Int) : Bool := decide (0 ≤ x ∧ x ≤ 4294967295)
theorem numB_of {x : Int} (h : numB x = true) : 0 ≤ x ∧ x ≤ 4294967295 := of_decide_eq_true h
def riGo (xs : List Int) (n h : Int) (m : Nat) : List Int := (List.range m).map fun (j : Nat) => xs.getD (rsq n (h + (j : Int)) + 1).toNat 0
theorem riGo_succ (xs : List Int) (n h : Int) (m : Nat) : riGo xs n h (m + 1) = riGo xs n h m ++ [xs.getD (rsq n (h + (m : Int)) + 1).toNat 0] := by
  unfold riGo; rw [List.range_succ, List.map_append]; rfl
theorem riGo_len (xs : List Int) (n h : Int) (m : Nat) : (riGo xs n h m).length = m := by simp [riGo]
def endsB (n t h : Int) : Bool := numB t && (numB h && decide (0 ≤ t - h ∧ t - h ≤ n))
def riItems (n : Int) (xs : List Int) : List Int :=
  if rzB n = true ∧ (xs.length : Int) = 2 + 2 * n then (if endsB n (xs.getD 0 0) (xs.getD 1 0) = true then riGo xs n (xs.getD 1 0) (xs.getD 0 0 - xs.getD 1 0).toNat else []) else []
theorem riItems_len (n : Int) (xs : List Int) : (riItems n xs).length ≤ 16 := by
  unfold riItems
  by_cases h : rzB n = true ∧ (xs.length : Int) = 2 + 2 * n
  · rw [if_pos h]
    have hb := rzB_iff.1 h.1
    by_cases e : endsB n (xs.getD 0 0) (xs.getD 1 0) = true
    · rw [if_pos e, riGo_len]
      unfold endsB at e
      rw [Bool.and_eq_true, Bool.and_eq_true, decide_eq_true_iff] at e
      omega
    · rw [if_neg e]; simp
  · rw [if_neg h]; simp
theorem below_al2 {B : Nat} {W X : World} (h : Below B W X) (hB : B ≤ W.heap.size) (o : Obj) : Below B W (X.alloc o) := h.alloc (Nat.le_trans hB h.size) o
theorem below_gr2 {B : Nat} {W X Y : World} {r : Option Nat} (h : Below B W X) (hg : X.grownBy Y r) (hB : B ≤ W.heap.size) (hr : ∀ k, r = some k → B ≤ k) : Below B W Y := h.grown hg (Nat.le_trans hB h.size) hr
theorem below_tr2 {B : Nat} {W X Y : World} (h : Below B W X) (b : Below X.heap.size X Y) (hB : B ≤ W.heap.size) : Below B W Y := h.trans (b.mono (Nat.le_trans hB h.size))

end Go.Proofs.Ytomfdbglnedpcaa
