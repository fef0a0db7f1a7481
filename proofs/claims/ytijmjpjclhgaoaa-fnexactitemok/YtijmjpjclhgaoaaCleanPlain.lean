/- Texts without a blank and without a break: plain lemmas on bytes, and what is decoded of them. -/
import Derived.Test.YtijmjpjclhgaoaaRows
import Derived.WalkKit
import Derived.ProofKit
import Derived.OpenShut
import Derived.ShutString
import Derived.Test.YtijmjpjclhgaoaaTextPlain
import Derived.Laws.RangeString
import Derived.Laws.RangeAny
import Derived.Lib.IndexAny
namespace Go.Proofs.Ytijmjpjclhgaoaa
open Go.ChangeShapes Go.WideShapes Go.ChangeAt Go.RowKit
set_option linter.unusedVariables false

def clean1 (b : UInt8) : Bool := b != 32 && b != 10
def clB (s : ByteArray) : Bool := s.data.toList.all clean1
theorem clean1_of (b : UInt8) (h1 : b.toNat ≠ 32) (h2 : b.toNat ≠ 10) : clean1 b = true := by
  unfold clean1
  have e1 : b ≠ 32 := fun e => h1 (by rw [e]; rfl)
  have e2 : b ≠ 10 := fun e => h2 (by rw [e]; rfl)
  simp [e1, e2]
theorem clean1_32 (b : UInt8) (h : b.toNat = 32) : clean1 b = false := by
  obtain rfl : b = 32 := UInt8.toNat_inj.1 (by rw [h]; rfl)
  rfl
theorem clean1_10 (b : UInt8) (h : b.toNat = 10) : clean1 b = false := by
  obtain rfl : b = 10 := UInt8.toNat_inj.1 (by rw [h]; rfl)
  rfl
theorem clB_no (s : ByteArray) (k : Nat) (hk : k < s.size) (h : clean1 s[k] = false) : clB s = false := by
  unfold clB
  rw [List.all_eq_false]
  refine ⟨s[k], ?_, by simp [h]⟩
  have : s.data.toList[k]'(by rw [len_eq]; exact hk) = s[k] := rfl
  rw [← this]
  exact List.getElem_mem _
theorem clB_step (s : ByteArray) (k : Nat) (hk : k < s.size) (h : (s.data.toList.take k).all clean1 = true) (hc : clean1 s[k] = true) : (s.data.toList.take (k + 1)).all clean1 = true := by
  rw [take_snoc s k hk, List.all_append, h]
  simp [hc]
theorem clB_end (s : ByteArray) (k : Nat) (hk : s.size ≤ k) (h : (s.data.toList.take k).all clean1 = true) : clB s = true := by
  rw [List.take_of_length_le (by rw [len_eq]; exact hk)] at h
  exact h
theorem decode_span (s : ByteArray) (pos : Nat) (h : pos < s.size) (ha : 128 ≤ (s[pos]'h).toNat) (j : Nat) (h1 : pos ≤ j) (h2 : j < pos + (Utf8.decode s pos).2) : ∃ hj : j < s.size, 128 ≤ (s[j]'hj).toNat := by
  have key : ∀ k, k < (Utf8.decode s pos).2 → k = 0 ∨ (pos + k < s.size ∧ (s.get! (pos + k)).toNat / 64 = 2) := by
    intro k
    simp only [Utf8.decode]
    repeat' split
    all_goals (simp only [Bool.and_eq_true, decide_eq_true_eq, beq_iff_eq] at *)
    all_goals intro hk
    all_goals (match k, hk with
      | 0, _ => exact .inl rfl
      | 1, _ => first | (exfalso; omega) | exact .inr ⟨by omega, by omega⟩
      | 2, _ => first | (exfalso; omega) | exact .inr ⟨by omega, by omega⟩
      | 3, _ => first | (exfalso; omega) | exact .inr ⟨by omega, by omega⟩
      | k + 4, _ => exfalso; omega)
  rcases key (j - pos) (by omega) with e | ⟨e1, e2⟩
  · obtain rfl : j = pos := by omega
    exact ⟨h, ha⟩
  · have ej : pos + (j - pos) = j := by omega
    rw [ej] at e1 e2
    refine ⟨e1, ?_⟩
    have eg : s.get! j = s[j]'e1 := by simp [ByteArray.get!, getElem!_pos, e1]; rfl
    rw [eg] at e2
    omega
theorem clB_span (s : ByteArray) (pos : Nat) (h : pos < s.size) (ha : 128 ≤ (s[pos]'h).toNat) (hc : (s.data.toList.take pos).all clean1 = true) : ∀ n, n ≤ (Utf8.decode s pos).2 → (s.data.toList.take (pos + n)).all clean1 = true ∧ pos + n ≤ s.size := by
  intro n
  induction n with
  | zero => intro _; exact ⟨hc, by omega⟩
  | succ n ih =>
    intro hn
    obtain ⟨i1, i2⟩ := ih (by omega)
    obtain ⟨hj, hb⟩ := decode_span s pos h ha (pos + n) (by omega) (by omega)
    exact ⟨clB_step s (pos + n) hj i1 (clean1_of _ (by omega) (by omega)), by omega⟩
theorem enc_forms (r : Int) (h1 : 128 ≤ r) : (∃ a b : UInt8, Utf8.encode r = ⟨#[a, b]⟩ ∧ 128 ≤ b.toNat) ∨ (∃ a b c : UInt8, Utf8.encode r = ⟨#[a, b, c]⟩) ∨ ∃ a b c d : UInt8, Utf8.encode r = ⟨#[a, b, c, d]⟩ := by
  have hv : ∃ c, c = (if Utf8.valid r then r.toNat else Utf8.runeError) ∧ 128 ≤ c := by
    refine ⟨_, rfl, ?_⟩
    split
    · omega
    · decide
  obtain ⟨c, hc, hv⟩ := hv
  unfold Utf8.encode
  dsimp only
  rw [← hc]
  have n1 : ¬ c < 128 := by omega
  rw [if_neg n1]
  by_cases c2 : c < 2048
  · rw [if_pos c2]
    refine .inl ⟨_, _, rfl, ?_⟩
    show 128 ≤ (UInt8.ofNat (128 + c % 64)).toNat
    rw [UInt8.toNat_ofNat_of_lt' (by show _ < 256; omega)]
    omega
  · rw [if_neg c2]
    by_cases c3 : c < 65536
    · rw [if_pos c3]
      exact .inr (.inl ⟨_, _, _, rfl⟩)
    · rw [if_neg c3]
      exact .inr (.inr ⟨_, _, _, _, rfl⟩)
theorem cont_white (s : ByteArray) : Lib.containsAny s.data.toList [32, 10] = !clB s := by
  unfold Lib.containsAny clB
  generalize s.data.toList = l
  induction l with
  | nil => rfl
  | cons b l ih =>
    rw [Lib.indexAny, List.all_cons]
    have hc : ([32, 10] : List UInt8).contains b = !clean1 b := by
      unfold clean1
      by_cases e1 : b = 32
      · subst e1; rfl
      · by_cases e2 : b = 10
        · subst e2; rfl
        · simp [e1, e2]
    rw [hc]
    have hg := Lib.indexAny_ge [32, 10] l
    cases clean1 b
    · simp
    · simp only [Bool.not_true, Bool.false_eq_true, if_false, Bool.true_and]
      rw [← ih]
      by_cases e : Lib.indexAny l [32, 10] = -1
      · simp [e]
      · have : (Lib.indexAny l [32, 10] == -1) = false := by simpa using e
        rw [this]
        simp only [Bool.false_eq_true, if_false]
        have a1 : (0 : Int) ≤ Lib.indexAny l [32, 10] := by omega
        simp [a1]
        omega

end Go.Proofs.Ytijmjpjclhgaoaa
