/- The list's cells, plainly. -/
import Derived.Test.YtpfofjcfaelocaaRows
import Derived.WalkKit
import Derived.ProofKit
import Derived.OpenShut
import Derived.ShutString
import Derived.Test.YtpfofjcfaelocaaStackPlain
namespace Go.Proofs.Ytpfofjcfaelocaa
open Go.ChangeShapes Go.WideShapes Go.ChangeAt Go.RowKit
set_option linter.unusedVariables false

def liNewL (n : Int) : List Int := if szB n = true then List.replicate (1 + 2 * n.toNat) 0 else []
theorem liNewL_len (n : Int) : (liNewL n).length ≤ 33 := by
  unfold liNewL
  by_cases h : szB n = true
  · rw [if_pos h]
    have : 1 ≤ n ∧ n ≤ 16 := of_decide_eq_true h
    simp
    omega
  · rw [if_neg h]; simp
def lnkB (n x : Int) : Bool := decide (0 ≤ x ∧ x / 2 ≤ n)
theorem lnkB_of {n x : Int} (h : lnkB n x = true) : 0 ≤ x ∧ x / 2 ≤ n := of_decide_eq_true h
theorem lnkB_no {n x : Int} (h : lnkB n x = false) : x < 0 ∨ n < x / 2 := by have := of_decide_eq_false h; omega
def thrB (n x : Int) : Bool := lnkB n x && decide (1 ≤ x / 2)
/- the keys of a list: fuel, the link that is looked at, the nodes that were seen, the keys so far -/
def liGo (xs : List Int) (n : Int) : Nat → Int → List Int → List Int → List Int
  | 0, _, _, _ => []
  | f + 1, l, seen, out => if lnkB n l = false then [] else if l / 2 = 0 then out else if (l / 2 - 1) ∈ seen then [] else liGo xs n f (xs.getD (2 * (l / 2)).toNat 0) (seen ++ [l / 2 - 1]) (if xs.getD (2 * (l / 2)).toNat 0 % 2 = 0 then out ++ [xs.getD (2 * (l / 2) - 1).toNat 0] else out)
def liKeys (n : Int) (xs : List Int) : List Int := if szB n = true ∧ (xs.length : Int) = 1 + 2 * n then liGo xs n (n.toNat + 1) (xs.getD 0 0) [] [] else []
theorem liGo_bad (xs : List Int) (n : Int) (f : Nat) (l : Int) (seen out : List Int) (h : lnkB n l = false) : liGo xs n f l seen out = [] := by
  cases f with
  | zero => rfl
  | succ f => rw [liGo, if_pos h]
theorem liGo_end (xs : List Int) (n : Int) (f : Nat) (l : Int) (seen out : List Int) (h : lnkB n l = true) (h0 : l / 2 = 0) : liGo xs n (f + 1) l seen out = out := by rw [liGo, if_neg (by simp [h]), if_pos h0]
theorem liGo_twice (xs : List Int) (n : Int) (f : Nat) (l : Int) (seen out : List Int) (h0 : ¬ l / 2 = 0) (hm : (l / 2 - 1) ∈ seen) : liGo xs n (f + 1) l seen out = [] := by
  by_cases h : lnkB n l = false
  · rw [liGo, if_pos h]
  · rw [liGo, if_neg h, if_neg h0, if_pos hm]
theorem liGo_step (xs : List Int) (n : Int) (f : Nat) (l : Int) (seen out : List Int) (h : lnkB n l = true) (h0 : ¬ l / 2 = 0) (hm : ¬ (l / 2 - 1) ∈ seen) : liGo xs n (f + 1) l seen out = liGo xs n f (xs.getD (2 * (l / 2)).toNat 0) (seen ++ [l / 2 - 1]) (if xs.getD (2 * (l / 2)).toNat 0 % 2 = 0 then out ++ [xs.getD (2 * (l / 2) - 1).toNat 0] else out) := by
  rw [liGo, if_neg (by simp [h]), if_neg h0, if_neg hm]
theorem liGo_len (xs : List Int) (n : Int) (f : Nat) : ∀ (l : Int) (seen out : List Int), (liGo xs n f l seen out).length ≤ out.length + f := by
  induction f with
  | zero => intro l seen out; simp [liGo]
  | succ f ih =>
    intro l seen out
    rw [liGo]
    split
    · simp
    · split
      · omega
      · split
        · simp
        · refine Nat.le_trans (ih _ _ _) ?_
          split <;> simp <;> omega
theorem liKeys_len (n : Int) (xs : List Int) : (liKeys n xs).length ≤ 17 := by
  unfold liKeys
  by_cases h : szB n = true ∧ (xs.length : Int) = 1 + 2 * n
  · rw [if_pos h]
    have hb : 1 ≤ n ∧ n ≤ 16 := of_decide_eq_true h.1
    have := liGo_len xs n (n.toNat + 1) (xs.getD 0 0) [] []
    simp at this ⊢
    omega
  · rw [if_neg h]; simp

end Go.Proofs.Ytpfofjcfaelocaa
