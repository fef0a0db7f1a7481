/- The number that a text of digits tells: plain lemmas on lists of bytes. -/
import Derived.Test.YtijmjpjclhgaoaaRows
import Derived.WalkKit
import Derived.ProofKit
import Derived.OpenShut
import Derived.ShutString
import Derived.Test.YtijmjpjclhgaoaaNumPlain
namespace Go.Proofs.Ytijmjpjclhgaoaa
open Go.ChangeShapes Go.WideShapes Go.ChangeAt Go.RowKit
set_option linter.unusedVariables false

def isDig (b : UInt8) : Bool := decide (48 ≤ b.toNat ∧ b.toNat ≤ 57)
def val (l : List UInt8) : Nat := l.foldl (fun n b => n * 10 + (b.toNat - 48)) 0
def tnB (l : List UInt8) : Bool := decide (l ≠ []) && l.all isDig && (decide (l = [48]) || decide (l.head? ≠ some 48)) && decide (val l ≤ 4294967295)
def tnV (l : List UInt8) : Int := if tnB l then ((val l : Nat) : Int) else 0
theorem val_snoc (l : List UInt8) (b : UInt8) : val (l ++ [b]) = val l * 10 + (b.toNat - 48) := by
  unfold val; rw [List.foldl_append]; rfl
theorem take_snoc (s : ByteArray) (k : Nat) (h : k < s.size) : s.data.toList.take (k + 1) = s.data.toList.take k ++ [s[k]] := by
  rw [List.take_succ_eq_append_getElem (by simpa using h)]; rfl
theorem all_snoc (l : List UInt8) (b : UInt8) : (l ++ [b]).all isDig = (l.all isDig && isDig b) := by simp
theorem isDig_bd (b : UInt8) (h : isDig b = true) : 48 ≤ b.toNat ∧ b.toNat ≤ 57 := by simpa [isDig] using h
theorem snocRec {P : List UInt8 → Prop} (h0 : P []) (h1 : ∀ l b, P l → P (l ++ [b])) (l : List UInt8) : P l := by
  have : ∀ n, ∀ l : List UInt8, l.length = n → P l := by
    intro n
    induction n with
    | zero => intro l h; rw [List.length_eq_zero_iff.1 h]; exact h0
    | succ n ih =>
      intro l h
      have hne : l ≠ [] := by intro e; subst e; simp at h
      rw [← List.dropLast_concat_getLast hne]
      exact h1 _ _ (ih _ (by simp [h]))
  exact this _ l rfl
theorem val_lt (l : List UInt8) (h : l.all isDig = true) : val l < 10 ^ l.length := by
  revert h
  refine snocRec (P := fun l => l.all isDig = true → val l < 10 ^ l.length) ?_ ?_ l
  · intro _; simp [val]
  · intro l b ih h
    rw [all_snoc, Bool.and_eq_true] at h
    have h1 := ih h.1
    have h2 := isDig_bd b h.2
    rw [val_snoc, List.length_append, List.length_singleton, Nat.pow_succ]
    omega
theorem val_pos (l : List UInt8) (h : l.all isDig = true) (hne : l ≠ []) (hh : l.head? ≠ some 48) : 1 ≤ val l := by
  revert h hne hh
  refine snocRec (P := fun l => l.all isDig = true → l ≠ [] → l.head? ≠ some 48 → 1 ≤ val l) ?_ ?_ l
  · intro _ h; exact absurd rfl h
  · intro l b ih h _ hh
    rw [all_snoc, Bool.and_eq_true] at h
    rw [val_snoc]
    have h2 := isDig_bd b h.2
    cases l with
    | nil =>
      have : b ≠ 48 := by intro e; subst e; exact hh rfl
      have : b.toNat ≠ 48 := fun e => this (UInt8.toNat_inj.1 (by rw [e]; rfl))
      omega
    | cons a l =>
      have := ih h.1 (by simp) (by simpa using hh)
      omega
theorem digB_of (b : UInt8) (h : isDig b = true) : digB (b.toNat - 48) = b := by
  have h2 := isDig_bd b h
  unfold digB
  rw [show 48 + (b.toNat - 48) = b.toNat by omega]
  simp
theorem dec_val (l : List UInt8) (h : l.all isDig = true) (hne : l ≠ []) (hh : l = [48] ∨ l.head? ≠ some 48) : Lib.decDigits (val l) = l := by
  revert h hne hh
  refine snocRec (P := fun l => l.all isDig = true → l ≠ [] → (l = [48] ∨ l.head? ≠ some 48) → Lib.decDigits (val l) = l) ?_ ?_ l
  · intro _ h; exact absurd rfl h
  · intro l b ih h _ hh
    rw [all_snoc, Bool.and_eq_true] at h
    rw [val_snoc]
    have h2 := isDig_bd b h.2
    cases l with
    | nil =>
      have e : val [] * 10 + (b.toNat - 48) = b.toNat - 48 := by simp [val]
      rw [e, dec_small _ (by omega), digB_of b h.2]; rfl
    | cons a l =>
      have hh' : (a :: l).head? ≠ some 48 := by
        rcases hh with hh | hh
        · simp at hh
        · simpa using hh
      have hp := val_pos (a :: l) h.1 (by simp) hh'
      rw [dec_step _ (by omega)]
      have e1 : (val (a :: l) * 10 + (b.toNat - 48)) / 10 = val (a :: l) := by omega
      have e2 : (val (a :: l) * 10 + (b.toNat - 48)) % 10 = b.toNat - 48 := by omega
      rw [e1, e2, ih h.1 (by simp) (Or.inr hh'), digB_of b h.2]
theorem dec_ne (n : Nat) : Lib.decDigits n ≠ [] := by
  by_cases h : n < 10
  · rw [dec_small n h]; simp
  · rw [dec_step n h]; simp
theorem dec_head (n : Nat) (h1 : 1 ≤ n) : (Lib.decDigits n).head? ≠ some 48 := by
  induction n using Nat.strongRecOn with
  | ind n ih =>
    by_cases h : n < 10
    · rw [dec_small n h]
      intro e
      have e2 : digB n = 48 := by simpa using e
      have e3 : (digB n).toNat = 48 := by rw [e2]; rfl
      unfold digB at e3
      simp at e3
      omega
    · rw [dec_step n h]
      have := ih (n / 10) (by omega) (by omega)
      have hne := dec_ne (n / 10)
      cases hx : Lib.decDigits (n / 10) with
      | nil => exact absurd hx hne
      | cons a l => rw [hx] at this; simpa using this
theorem dec_len_le (k n : Nat) (hk : 1 ≤ k) (h : n < 10 ^ k) : (Lib.decDigits n).length ≤ k := by
  induction k generalizing n with
  | zero => omega
  | succ k ih =>
    by_cases h10 : n < 10
    · rw [dec_small n h10]; simp
    · rw [dec_step n h10, List.length_append, List.length_singleton]
      have hk1 : 1 ≤ k := by
        cases k with
        | zero => simp at h; omega
        | succ k => omega
      have := ih (n / 10) hk1 (by rw [Nat.pow_succ] at h; omega)
      omega
theorem val_mono (l r : List UInt8) : val l ≤ val (l ++ r) := by
  refine snocRec (P := fun r => val l ≤ val (l ++ r)) ?_ ?_ r
  · simp
  · intro r b ih
    rw [← List.append_assoc, val_snoc]; omega
theorem tn_true (l : List UInt8) (h : tnB l = true) : l ≠ [] ∧ l.all isDig = true ∧ (l = [48] ∨ l.head? ≠ some 48) ∧ val l ≤ 4294967295 := by
  unfold tnB at h
  simp only [Bool.and_eq_true, Bool.or_eq_true, decide_eq_true_eq] at h
  exact ⟨h.1.1.1, h.1.1.2, h.1.2, h.2⟩
theorem tn_mk (l : List UInt8) (h1 : l ≠ []) (h2 : l.all isDig = true) (h3 : l = [48] ∨ l.head? ≠ some 48) (h4 : val l ≤ 4294967295) : tnB l = true ∧ tnV l = ((val l : Nat) : Int) := by
  have e : tnB l = true := by
    unfold tnB
    simp only [Bool.and_eq_true, Bool.or_eq_true, decide_eq_true_eq]
    exact ⟨⟨⟨h1, h2⟩, h3⟩, h4⟩
  exact ⟨e, by unfold tnV; rw [if_pos e]⟩
theorem tn_no (l : List UInt8) (h : ¬ (l ≠ [] ∧ l.all isDig = true ∧ (l = [48] ∨ l.head? ≠ some 48) ∧ val l ≤ 4294967295)) : tnB l = false ∧ tnV l = 0 := by
  have e : tnB l = false := by
    cases hb : tnB l with
    | false => rfl
    | true => exact absurd (tn_true l hb) h
  exact ⟨e, by unfold tnV; rw [e]; rfl⟩
theorem tn_yes (l : List UInt8) (h1 : l ≠ []) (h2 : l.all isDig = true) (h4 : val l ≤ 4294967295) (h5 : Lib.decDigits (val l) = l) : tnB l = true ∧ tnV l = ((val l : Nat) : Int) := by
  refine tn_mk l h1 h2 ?_ h4
  by_cases h0 : val l = 0
  · left; rw [← h5, h0, dec_small 0 (by omega)]; rfl
  · right; rw [← h5]; exact dec_head _ (by omega)
theorem tn_no_dec (l : List UInt8) (h5 : ¬ Lib.decDigits (val l) = l) : tnB l = false ∧ tnV l = 0 :=
  tn_no l (fun h => h5 (dec_val l h.2.1 h.1 h.2.2.1))
theorem tn_no_big (l : List UInt8) (h : 4294967295 < val l) : tnB l = false ∧ tnV l = 0 := tn_no l (fun k => by have := k.2.2.2; omega)
theorem tn_no_long (l : List UInt8) (h : 10 < l.length) : tnB l = false ∧ tnV l = 0 :=
  tn_no l (fun k => by
    have e := dec_val l k.2.1 k.1 k.2.2.1
    have := dec_len_le 10 (val l) (by omega) (by have := k.2.2.2; omega)
    rw [e] at this; omega)
theorem tn_no_dig (l : List UInt8) (j : Nat) (h : j < l.length) (hj : isDig l[j] = false) : tnB l = false ∧ tnV l = 0 :=
  tn_no l (fun k => by
    have := List.all_eq_true.1 k.2.1 l[j] (List.getElem_mem h)
    rw [hj] at this; exact absurd this (by decide))
theorem tn_no_zero (l : List UInt8) (h1 : l.head? = some 48) (h2 : l ≠ [48]) : tnB l = false ∧ tnV l = 0 :=
  tn_no l (fun k => by rcases k.2.2.1 with h | h; exact h2 h; exact h h1)
theorem len_eq (s : ByteArray) : s.data.toList.length = s.size := by rw [Array.length_toList]; rfl

end Go.Proofs.Ytijmjpjclhgaoaa
