/- The stack's calls: what they do at a step, plainly. -/
import Derived.Test.YtikliofkplbdpaaRows
import Derived.WalkKit
import Derived.ProofKit
import Derived.OpenShut
import Derived.ShutString
import Derived.Test.YtikliofkplbdpaaWordFns
import Derived.Test.YtikliofkplbdpaaCellPlain
namespace Go.Proofs.Ytikliofkplbdpaa
open Go.ChangeShapes Go.WideShapes Go.ChangeAt Go.RowKit
set_option linter.unusedVariables false

structure Cl where
  k : Int
  a : Int
  x : Int
  pc : Int
  p : Int
  c : Int
  w : Int
  r : Int
  v : Int
  d : Bool
structure Ac where
  k : Int
  t : Int
  a : Int
  b : Int
def clZero : Cl := ⟨0, 0, 0, 0, 0, 0, 0, 0, 0, false⟩
def acZero : Ac := ⟨0, 0, 0, 0⟩
def szB (n : Int) : Bool := decide (1 ≤ n ∧ n ≤ 16)
def stCall (k a : Int) : Cl := if k = 1 then { clZero with k := 1, a := a } else if k = 2 then { clZero with k := 2 } else clZero
def placeOf (k a w : Int) : Int := if k = 1 then a else unI w - 1
def stPlace (c : Cl) : Int := placeOf c.k c.a c.w
def stBad (n : Int) (c : Cl) : Bool := c.d || !szB n || decide (c.k < 1 ∨ 2 < c.k ∨ c.pc < 0 ∨ 2 < c.pc)
def stNext (c : Cl) : Int := if c.k = 1 then stPlace c + 1 else c.c
def stAct (n : Int) (c : Cl) : Option Ac :=
  if stBad n c = true then none
  else if c.k = 2 ∧ c.pc = 0 then some ⟨1, 0, 0, 0⟩
  else if ¬ (0 ≤ stPlace c ∧ stPlace c ≤ n - 1) then none
  else if c.pc = 0 then some ⟨1, 0, 0, 0⟩
  else if c.pc = 1 then (if c.k = 1 then some ⟨2, 1 + stPlace c, unI c.w, 0⟩ else some ⟨1, 1 + stPlace c, 0, 0⟩)
  else if pkB (ntT (unT c.w)) (stNext c) = true then some ⟨3, 0, c.w, pkW (ntT (unT c.w)) (stNext c)⟩ else none
def stRow (n k : Nat) : List Int := (List.range (n + 1)).map fun j => if j < k then (j : Int) + 1 else 0
theorem stRow_len (n k : Nat) : (stRow n k).length = n + 1 := by simp [stRow]
theorem stRow_zero (n : Nat) : stRow n 0 = List.replicate (n + 1) 0 := by
  apply List.ext_getElem <;> simp [stRow]
theorem stRow_set (n k : Nat) (h : k < n) : (stRow n k).set k ((k : Int) + 1) = stRow n (k + 1) := by
  apply List.ext_getElem
  · simp [stRow]
  · intro i h1 h2
    simp [stRow, List.getElem_set]
    by_cases e : k = i
    · subst e; simp
    · rw [if_neg e]
      by_cases c : i < k
      · rw [if_pos c, if_pos (by omega)]
      · rw [if_neg c, if_neg (by omega)]
def stNewL (n : Int) (full : Bool) : List Int := if szB n = true then stRow n.toNat (if full then n.toNat else 0) else []
theorem stNewL_len (n : Int) (full : Bool) : (stNewL n full).length ≤ 17 := by
  unfold stNewL
  by_cases h : szB n = true
  · rw [if_pos h, stRow_len]
    have : 1 ≤ n ∧ n ≤ 16 := of_decide_eq_true h
    omega
  · rw [if_neg h]; simp

end Go.Proofs.Ytikliofkplbdpaa
