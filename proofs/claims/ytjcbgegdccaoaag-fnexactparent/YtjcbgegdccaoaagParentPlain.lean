/- The highest bit: plain lemmas. -/
import Derived.Test.YtjcbgegdccaoaagRows
import Derived.WalkKit
import Derived.ProofKit
import Derived.OpenShut
import Derived.ShutString
import Derived.Lib.ItoaNum
namespace Go.Proofs.Ytjcbgegdccaoaag
open Go.ChangeShapes Go.WideShapes Go.ChangeAt Go.RowKit
set_option linter.unusedVariables false

theorem top_bit (m k : Nat) (h1 : 2 ^ k ≤ m) (h2 : m < 2 ^ (k + 1)) (h3 : m < 4294967296) : Lib.bitLen m - 1 = k := by
  have hp : 0 < 2 ^ k := Nat.two_pow_pos k
  obtain ⟨a, b, c⟩ := Lib.bitLenAux_bounds 64 m (by omega) (by omega)
  show Lib.bitLenAux 64 m - 1 = k
  generalize Lib.bitLenAux 64 m = L at a b c
  have e : L = L - 1 + 1 := by omega
  rw [e] at c
  have h4 : L - 1 < k + 1 := (Nat.pow_lt_pow_iff_right (by decide)).1 (Nat.lt_of_le_of_lt b h2)
  have h5 : k < L - 1 + 1 := (Nat.pow_lt_pow_iff_right (by decide)).1 (Nat.lt_of_le_of_lt h1 c)
  omega
def parentI (n : Int) : Int := if 1 ≤ n ∧ n ≤ 4294967295 then n - ((2 ^ (Lib.bitLen n.toNat - 1) : Nat) : Int) else 0
theorem parentI_no (n : Int) (h : n < 1 ∨ 4294967295 < n) : parentI n = 0 := by
  unfold parentI; rw [if_neg (by omega)]
theorem parentI_yes (n : Int) (h1 : 1 ≤ n) (h2 : n ≤ 4294967295) : parentI n = n - ((2 ^ (Lib.bitLen n.toNat - 1) : Nat) : Int) := by
  unfold parentI; rw [if_pos ⟨h1, h2⟩]
theorem bitLen_bd (m : Nat) (h0 : 1 ≤ m) (h : m < 4294967296) : 1 ≤ Lib.bitLen m ∧ Lib.bitLen m ≤ 32 ∧ 2 ^ (Lib.bitLen m - 1) ≤ m := by
  obtain ⟨a, b, c⟩ := Lib.bitLenAux_bounds 64 m (by omega) (by omega)
  exact ⟨a, Lib.bitLen_le m 32 (by omega) h, b⟩
theorem ret_intp {k : IntKind} {a b : Int} (h : a = b) : Ending.returned (.int k a) = .returned (.int k b) := by rw [h]
theorem wrap_parent (n : Int) (h1 : 1 ≤ n) (h2 : n ≤ 4294967295) : wrap64 (n - wrap64 (2 ^ (Lib.bitLen n.toNat - 1))) = parentI n := by
  rw [parentI_yes n h1 h2]
  obtain ⟨_, _, b⟩ := bitLen_bd n.toNat (by omega) (by omega)
  have e : (2 : Int) ^ (Lib.bitLen n.toNat - 1) = ((2 ^ (Lib.bitLen n.toNat - 1) : Nat) : Int) := by simp
  rw [e]
  generalize 2 ^ (Lib.bitLen n.toNat - 1) = q at *
  unfold wrap64
  omega

theorem parentI_lt (n : Int) (h1 : 1 ≤ n) (h2 : n ≤ 4294967295) : parentI n < n ∧ 0 ≤ parentI n := by
  rw [parentI_yes n h1 h2]
  obtain ⟨_, _, b⟩ := bitLen_bd n.toNat (by omega) (by omega)
  have := Nat.two_pow_pos (Lib.bitLen n.toNat - 1)
  generalize 2 ^ (Lib.bitLen n.toNat - 1) = q at *
  omega

end Go.Proofs.Ytjcbgegdccaoaag
