/- slices.Grow of a nil slice of integers, slices.Concat of slices of integers, slices.Clone of one at whatever offset. -/
import Derived.Test.YtikliofkplbdpaaRows
import Derived.WalkKit
import Derived.ProofKit
import Derived.OpenShut
import Derived.ShutString
import Derived.Test.YtikliofkplbdpaaSrcPlain
import Derived.Test.YtikliofkplbdpaaOwnInts
import Derived.Test.YtikliofkplbdpaaIntCopy
import Derived.Deep.LoopGhost
import Derived.Test.YtikliofkplbdpaaShelf
namespace Go.Proofs.Ytikliofkplbdpaa
open Go.ChangeShapes Go.WideShapes Go.ChangeAt Go.RowKit
set_option linter.unusedVariables false

theorem intsIn_len {w : World} {a : Option Addr} {n c : Nat} {xs : List Int} (h : IntsIn w (.slice a n c) xs) : n = xs.length := by
  obtain ⟨-, a', c', h, -⟩ := h
  simp at h
  exact h.2.1
def sumLen (LL : List (List Int)) : Nat → Nat
  | 0 => 0
  | k + 1 => sumLen LL k + (LL.getD k []).length
def catTo (LL : List (List Int)) : Nat → List Int
  | 0 => []
  | k + 1 => catTo LL k ++ LL.getD k []
theorem sumLen_mono (LL : List (List Int)) {a b : Nat} (h : a ≤ b) : sumLen LL a ≤ sumLen LL b := by
  induction b with
  | zero => obtain rfl : a = 0 := by omega
            exact Nat.le_refl _
  | succ b ih =>
    by_cases e : a = b + 1
    · subst e; exact Nat.le_refl _
    · exact Nat.le_trans (ih (by omega)) (Nat.le_add_right _ _)
theorem catTo_len (LL : List (List Int)) (k : Nat) : (catTo LL k).length = sumLen LL k := by
  induction k with
  | zero => rfl
  | succ k ih => show (catTo LL k ++ _).length = sumLen LL k + _; rw [List.length_append, ih]
theorem getD_ll (LL : List (List Int)) (j : Nat) (h : j < LL.length) : LL.getD j [] = LL[j] := by simp [List.getD, h]
theorem clone_in (w : World) (v : Value) (xs : List Int) (hn : xs.length ≤ 4194304) (h : IntsIn w v xs) :
    Calls Try.prog 22 #[v] w fun e w' => ∃ v', e = .returned v' ∧ IntsNew w w' v' xs := by
  obtain ⟨⟨a, c, rfl, h⟩, -⟩ := h
  by_cases h0 : 0 < xs.length
  · rcases h with rfl | ⟨b, off, rfl, hb, hc⟩
    · exact absurd h0 (by simp)
    · refine (Try.slices_Clone_int b off xs.length c xs w (Nat.le_refl _) (by omega) (fun j hj => by rw [hc j hj]; simp [hj])).mono ?_
      rintro e w' ⟨v', rfl, o1, -, b1⟩
      exact ⟨v', rfl, ints_of_owns (n := xs.length) (by simpa using o1) (Nat.le_refl _) b1⟩
  · obtain rfl : xs = [] := List.length_eq_zero_iff.1 (by omega)
    cases a with
    | none =>
      refine (Try.slices_Clone_int_nil _ c w).mono ?_
      rintro e w' ⟨rfl, rfl⟩
      exact ⟨_, rfl, [], ⟨none, 0, rfl, trivial, .inl ⟨rfl, rfl⟩⟩, List.nodup_nil, by simp, Below.refl _ _⟩
    | some ad =>
      refine (Try.slices_Clone_int_zero ad c w).mono ?_
      rintro e w' ⟨v', rfl, o1, -, b1⟩
      exact ⟨v', rfl, ints_of_owns (n := 0) (xs := []) o1 (Nat.le_refl _) b1⟩

end Go.Proofs.Ytikliofkplbdpaa
