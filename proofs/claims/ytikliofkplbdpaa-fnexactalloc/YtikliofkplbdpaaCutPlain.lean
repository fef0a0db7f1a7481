/- Cutting a text at a byte: plain lemmas; what a row of the call's own keeps. -/
import Derived.Test.YtikliofkplbdpaaRows
import Derived.WalkKit
import Derived.ProofKit
import Derived.OpenShut
import Derived.ShutString
import Derived.Laws.RangeString
import Derived.Laws.RangeAny
import Derived.WalkSpells
import Derived.WalkSmall
import Derived.Lib.OthersKept
namespace Go.Proofs.Ytikliofkplbdpaa
open Go.ChangeShapes Go.WideShapes Go.ChangeAt Go.RowKit
set_option linter.unusedVariables false

theorem own_below {w w' : World} {base : Nat} {e : TypeId} {size : Nat} {v : Value} {n : Nat} {xs : List Value} (h : w.ownsRow base e size v n xs) (hb : Below w.heap.size w w') : w'.ownsRow base e size v n xs := by
  refine ⟨h.1, ?_⟩
  rcases h.2 with hn | ⟨g, cap, cur, rfl, hbg, hgg, rest⟩
  · exact .inl hn
  · exact .inr ⟨g, cap, cur, rfl, hbg, by rw [hb.block g (Array.getElem?_eq_some_iff.1 hgg).1]; exact hgg, rest⟩
theorem own_mono {w : World} {base base' : Nat} {e : TypeId} {size : Nat} {v : Value} {n : Nat} {xs : List Value} (h : w.ownsRow base e size v n xs) (hb : base' ≤ base) : w.ownsRow base' e size v n xs := by
  refine ⟨h.1, ?_⟩
  rcases h.2 with hn | ⟨g, cap, cur, rfl, hbg, rest⟩
  · exact .inl hn
  · exact .inr ⟨g, cap, cur, rfl, by omega, rest⟩
theorem own_cells {w : World} {base : Nat} {e : TypeId} {v : Value} {n : Nat} {xs : List Value} (h : w.ownsRow base e 1 v n xs) :
    (v = .slice none 0 0 ∧ n = 0 ∧ xs = []) ∨ ∃ g cap, v = .slice (some ⟨g, 0, none⟩) n cap ∧ base ≤ g ∧ g < w.heap.size ∧ n ≤ cap ∧ cap ≤ maxLen ∧ xs.length = n ∧ (∀ j (hj : j < xs.length), w.cell? ⟨g, j, none⟩ = some xs[j]) ∧ (∀ j, w.frozen? ⟨g, j, none⟩ = false) := by
  rcases h.2 with ⟨rfl, hn⟩ | ⟨g, cap, cur, rfl, hbg, hgg, hnc, hcm, hcs, htk⟩
  · exact .inl ⟨rfl, hn, List.length_eq_zero_iff.1 (by rw [h.1, hn])⟩
  · refine .inr ⟨g, cap, rfl, hbg, (Array.getElem?_eq_some_iff.1 hgg).1, hnc, hcm, by rw [h.1]; omega, fun j hj => ?_, fun j => ?_⟩
    · have := h.cells (g := g) rfl j xs[j] (List.getElem?_eq_getElem hj)
      have hadd : (⟨g, 0, none⟩ : Addr).add j = ⟨g, j, none⟩ := by unfold Addr.add; split <;> simp_all
      rwa [hadd] at this
    · simp [World.frozen?, hgg]
def cutTo (s : ByteArray) (m : UInt8) : Nat → List ByteArray × Nat
  | 0 => ([], 0)
  | k + 1 => if s.get! k = m then ((cutTo s m k).1 ++ [s.extract (cutTo s m k).2 k], k + 1) else cutTo s m k
theorem cutTo_hit (s : ByteArray) (m : UInt8) (k : Nat) (h : s.get! k = m) : cutTo s m (k + 1) = ((cutTo s m k).1 ++ [s.extract (cutTo s m k).2 k], k + 1) := by
  rw [cutTo, if_pos h]
theorem cutTo_miss (s : ByteArray) (m : UInt8) (k : Nat) (h : ¬ s.get! k = m) : cutTo s m (k + 1) = cutTo s m k := by
  rw [cutTo, if_neg h]
theorem cutTo_bd (s : ByteArray) (m : UInt8) (k : Nat) : (cutTo s m k).2 ≤ k ∧ (cutTo s m k).1.length ≤ k := by
  induction k with
  | zero => simp [cutTo]
  | succ k ih =>
    by_cases h : s.get! k = m
    · rw [cutTo_hit s m k h]; simp; omega
    · rw [cutTo_miss s m k h]; omega
theorem cutTo_skip (s : ByteArray) (m : UInt8) (a n : Nat) (h : ∀ j, a ≤ j → j < a + n → ¬ s.get! j = m) : cutTo s m (a + n) = cutTo s m a := by
  induction n with
  | zero => rfl
  | succ n ih =>
    rw [← Nat.add_assoc, cutTo_miss s m (a + n) (h (a + n) (by omega) (by omega))]
    exact ih (fun j h1 h2 => h j h1 (by omega))
def cutAll (s : ByteArray) (m : UInt8) : List ByteArray := (cutTo s m s.size).1 ++ [s.extract (cutTo s m s.size).2 s.size]
theorem cutAll_len (s : ByteArray) (m : UInt8) : 1 ≤ (cutAll s m).length ∧ (cutAll s m).length ≤ s.size + 1 := by
  have := cutTo_bd s m s.size
  unfold cutAll; simp; omega
theorem get_bang (s : ByteArray) (k : Nat) (h : k < s.size) : s.get! k = s[k] := by
  have := get_at s k h
  simpa using this
theorem decode_cont (s : ByteArray) (pos : Nat) (h : pos < s.size) (ha : 128 ≤ (s[pos]'h).toNat) :
    pos + (Utf8.decode s pos).2 ≤ s.size ∧ ∀ j, pos ≤ j → j < pos + (Utf8.decode s pos).2 → 128 ≤ (s.get! j).toNat := by
  have h0 : 128 ≤ (s.get! pos).toNat := by rw [get_bang s pos h]; exact ha
  have hn : ¬ (s.get! (pos + 0)).toNat < 128 := by simpa using h0
  have one : ∀ j, pos ≤ j → j < pos + 1 → 128 ≤ (s.get! j).toNat := fun j h1 h2 => by
    obtain rfl : j = pos := by omega
    exact h0
  unfold Utf8.decode
  simp only [hn, if_false]
  repeat' split
  all_goals first
    | exact ⟨by omega, one⟩
    | (rename_i hc _
       simp only [Bool.and_eq_true, decide_eq_true_eq, beq_iff_eq] at hc
       refine ⟨by omega, fun j h1 h2 => ?_⟩
       have hj : j = pos ∨ j = pos + 1 ∨ j = pos + 2 ∨ j = pos + 3 := by simp only at h2; omega
       rcases hj with rfl | rfl | rfl | rfl
       · exact h0
       all_goals (simp only at h2; omega))

end Go.Proofs.Ytikliofkplbdpaa
