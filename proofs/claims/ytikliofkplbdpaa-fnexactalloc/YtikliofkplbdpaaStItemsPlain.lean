/- The places of a stack from the top on, plainly. -/
import Derived.Test.YtikliofkplbdpaaRows
import Derived.WalkKit
import Derived.ProofKit
import Derived.OpenShut
import Derived.ShutString
import Derived.Test.YtikliofkplbdpaaStackPlain
namespace Go.Proofs.Ytikliofkplbdpaa
open Go.ChangeShapes Go.WideShapes Go.ChangeAt Go.RowKit
set_option linter.unusedVariables false

def stGo (xs : List Int) (n : Int) : Nat → Int → List Int → List Int
  | 0, _, _ => []
  | f + 1, i, out => if i = 0 then out else if (1 ≤ i ∧ i ≤ n) ∧ ¬ (i - 1) ∈ out then stGo xs n f (xs.getD i.toNat 0) (out ++ [i - 1]) else []
def stItems (n : Int) (xs : List Int) : List Int :=
  if szB n = true ∧ (xs.length : Int) = 1 + n then (if unB (xs.getD 0 0) = true then stGo xs n (n.toNat + 1) (unI (xs.getD 0 0)) [] else []) else []
theorem stGo_end (xs : List Int) (n : Int) (f : Nat) (out : List Int) : stGo xs n (f + 1) 0 out = out := by rw [stGo, if_pos rfl]
theorem stGo_step (xs : List Int) (n : Int) (f : Nat) (i : Int) (out : List Int) (h0 : i ≠ 0) (h : (1 ≤ i ∧ i ≤ n) ∧ ¬ (i - 1) ∈ out) : stGo xs n (f + 1) i out = stGo xs n f (xs.getD i.toNat 0) (out ++ [i - 1]) := by rw [stGo, if_neg h0, if_pos h]
theorem stGo_bad (xs : List Int) (n : Int) (f : Nat) (i : Int) (out : List Int) (h0 : i ≠ 0) (h : ¬ ((1 ≤ i ∧ i ≤ n) ∧ ¬ (i - 1) ∈ out)) : stGo xs n (f + 1) i out = [] := by rw [stGo, if_neg h0, if_neg h]
theorem stGo_len (xs : List Int) (n : Int) (f : Nat) : ∀ (i : Int) (out : List Int), (stGo xs n f i out).length ≤ out.length + f := by
  induction f with
  | zero => intro i out; simp [stGo]
  | succ f ih =>
    intro i out
    by_cases h0 : i = 0
    · subst h0; rw [stGo_end]; omega
    · by_cases h : (1 ≤ i ∧ i ≤ n) ∧ ¬ (i - 1) ∈ out
      · rw [stGo_step xs n f i out h0 h]
        have := ih (xs.getD i.toNat 0) (out ++ [i - 1])
        simp at this ⊢
        omega
      · rw [stGo_bad xs n f i out h0 h]; simp
theorem stItems_len (n : Int) (xs : List Int) : (stItems n xs).length ≤ 17 := by
  unfold stItems
  by_cases h : szB n = true ∧ (xs.length : Int) = 1 + n
  · rw [if_pos h]
    have hb : 1 ≤ n ∧ n ≤ 16 := of_decide_eq_true h.1
    split
    · have := stGo_len xs n (n.toNat + 1) (unI (xs.getD 0 0)) []
      simp at this ⊢
      omega
    · simp
  · rw [if_neg h]; simp
theorem few (n : Nat) : ∀ l : List Int, l.Nodup → (∀ x ∈ l, 0 ≤ x ∧ x < (n : Int)) → l.length ≤ n := by
  induction n with
  | zero =>
    intro l _ h
    cases l with
    | nil => simp
    | cons a t => have := h a (by simp); omega
  | succ n ih =>
    intro l hd h
    by_cases hm : (n : Int) ∈ l
    · have h1 := ih (l.erase (n : Int)) (hd.erase _) (fun x hx => by
        have hx' := (List.Nodup.mem_erase_iff hd).1 hx
        have := h x hx'.2
        omega)
      have h2 := List.length_erase_of_mem hm
      omega
    · have := ih l hd (fun x hx => by
        have h1 := h x hx
        have : x ≠ (n : Int) := fun e => hm (e ▸ hx)
        omega)
      omega
def hasN (xs : List Int) (y : Int) : Bool := decide (y ∈ xs)
def sliceLen (v : Value) : Nat := match v with | .slice _ n _ => n | _ => 0

end Go.Proofs.Ytikliofkplbdpaa
