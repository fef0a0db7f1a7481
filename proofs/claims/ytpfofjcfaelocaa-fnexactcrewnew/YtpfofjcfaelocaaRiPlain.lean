/- The ring's calls: what they do at a step, plainly. -/
import Derived.Test.YtpfofjcfaelocaaRows
import Derived.WalkKit
import Derived.ProofKit
import Derived.OpenShut
import Derived.ShutString
import Derived.Test.YtpfofjcfaelocaaStackPlain
import Derived.Test.YtpfofjcfaelocaaCellPlain
namespace Go.Proofs.Ytpfofjcfaelocaa
open Go.ChangeShapes Go.WideShapes Go.ChangeAt Go.RowKit
set_option linter.unusedVariables false

theorem wrapEq (x : Int) : IntKind.i64.wrap x = wrap64 x := by rw [IntKind.wrap_i64]; unfold wrap64; first | rfl | omega
def rzB (n : Int) : Bool := decide (2 ≤ n ∧ n ≤ 16)
def rsq (n p : Int) : Int := 2 + 2 * (p % n)
theorem rsq_bd {n : Int} (p : Int) (h : rzB n = true) : 2 ≤ rsq n p ∧ rsq n p ≤ 2 * n := by
  have h : 2 ≤ n ∧ n ≤ 16 := of_decide_eq_true h
  have h1 := Int.emod_nonneg p (show n ≠ 0 by omega)
  have h2 := Int.emod_lt_of_pos p (show 0 < n by omega)
  unfold rsq
  omega
def riBad (n : Int) (c : Cl) : Bool := c.d || !rzB n || decide (c.k < 1 ∨ 2 < c.k ∨ c.pc < 0 ∨ 4 < c.pc)
def riAcG (n k a pc p : Int) : Ac :=
  if pc = 0 then ⟨1, k - 1, 0, 0⟩
  else if pc = 1 then ⟨1, rsq n p, 0, 0⟩
  else if pc = 2 then ⟨3, k - 1, p, wrap64 (p + 1)⟩
  else if pc = 3 then (if k = 1 then ⟨2, rsq n p + 1, a, 0⟩ else ⟨1, rsq n p + 1, 0, 0⟩)
  else ⟨2, rsq n p, if k = 1 then wrap64 (p + 1) else wrap64 (p + n), 0⟩
def riOk (n : Int) (c : Cl) : Bool := !riBad n c
def riAc (n : Int) (c : Cl) : Ac := if riOk n c = true then riAcG n c.k c.a c.pc c.p else acZero
theorem riOk_bd {n : Int} {c : Cl} (h : riOk n c = true) : c.d = false ∧ 2 ≤ n ∧ n ≤ 16 ∧ 1 ≤ c.k ∧ c.k ≤ 2 ∧ 0 ≤ c.pc ∧ c.pc ≤ 4 := by
  unfold riOk riBad rzB at h
  simp at h
  obtain ⟨⟨h1, h2⟩, h3⟩ := h
  refine ⟨h1, ?_⟩
  omega
theorem riOk_no {n : Int} {c : Cl} (h : riOk n c = false) : c.d = true ∨ rzB n = false ∨ c.k < 1 ∨ 2 < c.k ∨ c.pc < 0 ∨ 4 < c.pc := by
  cases hd : c.d
  · cases hz : rzB n
    · exact .inr (.inl rfl)
    · unfold riOk riBad at h
      rw [hd, hz] at h
      simp at h
      exact .inr (.inr (by omega))
  · exact .inl rfl
theorem rzB_iff {n : Int} : rzB n = true ↔ 2 ≤ n ∧ n ≤ 16 := by unfold rzB; exact decide_eq_true_iff
theorem rzB_no {n : Int} (h : rzB n = false) : n < 2 ∨ 16 < n := by have := of_decide_eq_false h; omega
/- what a ring of size n starts with: k of its seqs set -/
def riRow (n k : Nat) : List Int := (List.range (2 + 2 * n)).map fun j => if 2 ≤ j ∧ j % 2 = 0 ∧ (j - 2) / 2 < k then (((j - 2) / 2 : Nat) : Int) else 0
theorem riRow_len (n k : Nat) : (riRow n k).length = 2 + 2 * n := by simp [riRow]
theorem riRow_zero (n : Nat) : riRow n 0 = List.replicate (2 + 2 * n) 0 := by
  apply List.ext_getElem <;> simp [riRow]
theorem riRow_set (n k : Nat) (h : k < n) : (riRow n k).set (2 + 2 * k) (k : Int) = riRow n (k + 1) := by
  apply List.ext_getElem
  · simp [riRow]
  · intro i h1 h2
    simp only [riRow, List.getElem_set, List.getElem_map, List.getElem_range]
    by_cases e : 2 + 2 * k = i
    · subst e
      rw [if_pos rfl, if_pos (by omega)]
      congr 1
      omega
    · rw [if_neg e]
      by_cases c : 2 ≤ i ∧ i % 2 = 0 ∧ (i - 2) / 2 < k
      · rw [if_pos c, if_pos (by omega)]
      · rw [if_neg c, if_neg (by omega)]
def riNewL (n : Int) : List Int := if rzB n = true then riRow n.toNat n.toNat else []
theorem riNewL_len (n : Int) : (riNewL n).length ≤ 34 := by
  unfold riNewL
  by_cases h : rzB n = true
  · rw [if_pos h, riRow_len]
    have : 2 ≤ n ∧ n ≤ 16 := of_decide_eq_true h
    omega
  · rw [if_neg h]; simp
/- a step -/
def riAfter (n : Int) (c : Cl) (told : Int) : Cl :=
  if c.pc = 0 then { c with pc := 1, p := told }
  else if c.pc = 1 then
    (if wrap64 (told - (if c.k = 1 then c.p else wrap64 (c.p + 1))) < 0 then { c with pc := 2, c := told, r := if c.k = 1 then 3 else 2, d := true }
     else if 0 < wrap64 (told - (if c.k = 1 then c.p else wrap64 (c.p + 1))) then { c with pc := 0, c := told }
     else { c with pc := 2, c := told })
  else if c.pc = 2 then (if told = 0 then { c with pc := 0 } else { c with pc := 3 })
  else if c.pc = 3 then (if c.k = 1 then { c with pc := 4 } else { c with pc := 4, v := told })
  else { c with pc := 5, r := 1, d := true }
def riStepOk (n : Int) (xs : List Int) (c : Cl) : Bool := riOk n c && decide ((xs.length : Int) = 2 + 2 * n)
def riStepL (n : Int) (xs : List Int) (c : Cl) : List Int := if riStepOk n xs c = true then memDo xs (riAc n c).k (riAc n c).t (riAc n c).a (riAc n c).b else []
def riTold (n : Int) (xs : List Int) (c : Cl) : Int := actTold (xs.getD (riAc n c).t.toNat 0) (riAc n c).k (riAc n c).a
def riStepC (n : Int) (xs : List Int) (c : Cl) : Cl := if riStepOk n xs c = true then riAfter n c (riTold n xs c) else clZero
theorem riAct_fits {n : Int} {xs : List Int} {c : Cl} (h : riStepOk n xs c = true) : actB xs.length (riAc n c).k (riAc n c).t (riAc n c).a (riAc n c).b = true := by
  unfold riStepOk at h
  rw [Bool.and_eq_true, decide_eq_true_iff] at h
  obtain ⟨h1, h2⟩ := h
  obtain ⟨b0, b1, b2, b3, b4, b5, b6⟩ := riOk_bd h1
  have hq := rsq_bd (n := n) c.p (rzB_iff.2 ⟨b1, b2⟩)
  apply actB_yes
  unfold riAc
  rw [if_pos h1]
  unfold riAcG
  repeat' split
  all_goals (simp only; refine ⟨by omega, by omega, by omega, by omega, by omega, ?_, ?_⟩ <;> simp)
theorem riTold_cas {n : Int} {xs : List Int} {c : Cl} (h : riStepOk n xs c = true) (hp : c.pc = 2) : riTold n xs c = 0 ∨ riTold n xs c = 1 := by
  unfold riStepOk at h
  rw [Bool.and_eq_true] at h
  have e : (riAc n c).k = 3 := by unfold riAc riAcG; rw [if_pos h.1, if_neg (by omega), if_neg (by omega), if_pos hp]
  unfold riTold actTold
  rw [if_neg (by omega), if_pos e]
  by_cases hh : xs.getD (riAc n c).t.toNat 0 = (riAc n c).a
  · rw [if_pos hh]; exact .inr rfl
  · rw [if_neg hh]; exact .inl rfl

end Go.Proofs.Ytpfofjcfaelocaa
