/- What makes epochs well: plain definitions and lemmas. -/
import Derived.Test.YtikliofkplbdpaaRows
import Derived.WalkKit
import Derived.ProofKit
import Derived.OpenShut
import Derived.ShutString
namespace Go.Proofs.Ytikliofkplbdpaa
open Go.ChangeShapes Go.WideShapes Go.ChangeAt Go.RowKit
set_option linter.unusedVariables false

def nodeB (L : List (Int × Int)) (x : Int) : Bool := L.any (fun p => decide (p.1 = x))
def placeN (x : Int) : List (Int × Int) → Nat
  | [] => 0
  | p :: L => if p.1 = x then 0 else placeN x L + 1
def goneAt (L : List (Int × Int)) (k : Nat) : Int × Int := L.getD k (0, 0)
theorem goneAt_eq (L : List (Int × Int)) (k : Nat) (h : k < L.length) : L[k] = goneAt L k := by simp [goneAt, h]
theorem nodeB_take_succ (L : List (Int × Int)) (k : Nat) (x : Int) (h : k < L.length) : nodeB (L.take (k + 1)) x = (nodeB (L.take k) x || decide ((goneAt L k).1 = x)) := by
  rw [← goneAt_eq L k h, List.take_succ_eq_append_getElem h]
  simp only [nodeB, List.any_append, List.any_cons, List.any_nil, Bool.or_false]
theorem nodeB_hit (L : List (Int × Int)) (k : Nat) (x : Int) (h : k < L.length) (e : (goneAt L k).1 = x) : nodeB L x = true := by
  rw [nodeB, List.any_eq_true]
  exact ⟨L[k], List.getElem_mem h, by simp [goneAt_eq L k h, e]⟩
theorem nodeB_false (L : List (Int × Int)) (x : Int) (h : ∀ j, j < L.length → (goneAt L j).1 ≠ x) : nodeB L x = false := by
  rw [nodeB, List.any_eq_false]
  intro p hp
  obtain ⟨j, hj, rfl⟩ := List.mem_iff_getElem.1 hp
  have := h j hj
  rw [← goneAt_eq L j hj] at this
  simpa using this
theorem placeN_eq (L : List (Int × Int)) (k : Nat) (x : Int) (h : k < L.length) (e : (goneAt L k).1 = x) (hf : ∀ j, j < k → (goneAt L j).1 ≠ x) : placeN x L = k := by
  induction L generalizing k with
  | nil => simp at h
  | cons p L ih =>
    cases k with
    | zero =>
      have : p.1 = x := by simpa [goneAt] using e
      simp [placeN, this]
    | succ k =>
      have h0 : p.1 ≠ x := by simpa [goneAt] using hf 0 (by omega)
      rw [placeN, if_neg h0, ih k (by simpa using h) (by simpa [goneAt] using e) (fun j hj => by simpa [goneAt] using hf (j + 1) (by omega))]
def placeI (L : List (Int × Int)) (x : Int) : Int := if nodeB L x = true then (placeN x L : Int) else 0
theorem placeI_hit (L : List (Int × Int)) (k : Nat) (x : Int) (h : k < L.length) (e : (goneAt L k).1 = x) (hf : ∀ j, j < k → (goneAt L j).1 ≠ x) : placeI L x = k := by
  rw [placeI, if_pos (nodeB_hit L k x h e), placeN_eq L k x h e hf]
theorem placeI_miss (L : List (Int × Int)) (x : Int) (h : ∀ j, j < L.length → (goneAt L j).1 ≠ x) : placeI L x = 0 := by
  rw [placeI, if_neg (by simp [nodeB_false L x h])]
theorem nodeB_place (L : List (Int × Int)) (x : Int) (h : nodeB L x = true) : placeN x L < L.length ∧ (goneAt L (placeN x L)).1 = x := by
  induction L with
  | nil => simp [nodeB] at h
  | cons p L ih =>
    by_cases e : p.1 = x
    · simp [placeN, e, goneAt]
    · have h' : nodeB L x = true := by simpa [nodeB, e] using h
      have := ih h'
      rw [placeN, if_neg e]
      refine ⟨by simp; omega, by simpa [goneAt] using this.2⟩
def lastAt (L : List (Int × Int)) : Nat → Int
  | 0 => 0
  | k + 1 => (goneAt L k).2
def stepB (a : Int) (L : List (Int × Int)) (k : Nat) : Bool := decide (lastAt L k ≤ (goneAt L k).2) && decide ((goneAt L k).2 ≤ a) && !nodeB (L.take k) (goneAt L k).1
def limB (a : Int) (L : List (Int × Int)) : Nat → Bool
  | 0 => true
  | k + 1 => limB a L k && stepB a L k
theorem limB_last (a : Int) (L : List (Int × Int)) (k : Nat) (h : limB a L k = true) : 0 ≤ lastAt L k := by
  induction k with
  | zero => simp [lastAt]
  | succ k ih =>
    simp only [limB, Bool.and_eq_true] at h
    have h1 := ih h.1
    simp only [stepB, Bool.and_eq_true, decide_eq_true_eq] at h
    simp only [lastAt]
    omega
theorem limB_stop (a : Int) (L : List (Int × Int)) (k m : Nat) (h : stepB a L k = false) (hm : k < m) : limB a L m = false := by
  induction m with
  | zero => omega
  | succ m ih =>
    by_cases e : k = m
    · subst e; simp [limB, h]
    · simp [limB, ih (by omega)]
def pinB (a p : Int) : Bool := decide (p = -1) || decide (p = a) || decide (p = a - 1)
def okB (a : Int) (ps : List Int) (L : List (Int × Int)) : Bool :=
  decide (0 ≤ a ∧ a ≤ 4294967295) && decide (1 ≤ ps.length ∧ ps.length ≤ 8) && ps.all (pinB a) && (decide (L.length ≤ 100) && limB a L L.length)
theorem okB_len {a : Int} {ps : List Int} {L : List (Int × Int)} (h : okB a ps L = true) : 0 ≤ a ∧ a ≤ 4294967295 ∧ 1 ≤ ps.length ∧ ps.length ≤ 8 ∧ L.length ≤ 100 ∧ (∀ p ∈ ps, p = -1 ∨ p = a ∨ p = a - 1) ∧ limB a L L.length = true := by
  simp only [okB, Bool.and_eq_true, decide_eq_true_eq, List.all_eq_true] at h
  obtain ⟨⟨⟨h1, h2⟩, h3⟩, h4, h5⟩ := h
  refine ⟨h1.1, h1.2, h2.1, h2.2, h4, fun p hp => ?_, h5⟩
  have := h3 p hp
  simp [pinB] at this
  omega

end Go.Proofs.Ytikliofkplbdpaa
