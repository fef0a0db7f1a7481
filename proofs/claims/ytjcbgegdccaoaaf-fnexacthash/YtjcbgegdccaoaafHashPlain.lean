/- Hashes: plain lemmas. -/
import Derived.Test.YtjcbgegdccaoaafRows
import Derived.WalkKit
import Derived.ProofKit
import Derived.OpenShut
import Derived.ShutString
import Derived.Laws.BitsAllLaws
import Derived.Laws.IdiomStrings
namespace Go.Proofs.Ytjcbgegdccaoaaf
open Go.ChangeShapes Go.WideShapes Go.ChangeAt Go.RowKit
set_option linter.unusedVariables false

theorem i64_xor_nat (a b : Nat) (ha : a < 4294967296) (hb : b < 4294967296) : bits .xor .i64 (a : Int) (b : Int) = ((a ^^^ b : Nat) : Int) := by
  have hx : a ^^^ b < 2 ^ 32 := Nat.xor_lt_two_pow (by omega) (by omega)
  show IntKind.i64.wrap ((BitVec.ofInt 64 (a : Int) ^^^ BitVec.ofInt 64 (b : Int)).toNat : Int) = _
  rw [BitVec.toNat_xor, ofInt_u64 a (by omega), ofInt_u64 b (by omega), IntKind.wrap_i64]
  omega
theorem xor_bd (a : Int) (b : Nat) (h1 : 0 ≤ a) (h2 : a ≤ 4294967295) (hb : b < 256) : 0 ≤ bits .xor .i64 a (b : Int) ∧ bits .xor .i64 a (b : Int) ≤ 4294967295 := by
  obtain ⟨m, rfl⟩ := Int.eq_ofNat_of_zero_le h1
  rw [i64_xor_nat m b (by omega) (by omega)]
  have hx : m ^^^ b < 2 ^ 32 := Nat.xor_lt_two_pow (by omega) (by omega)
  omega
def hstep (h : Int) (b : UInt8) : Int := bits .xor .i64 h (b.toNat : Int) * 16777619 % 4294967296
def hashL (l : List UInt8) : Int := l.foldl hstep 2166136261
theorem hashL_snoc (l : List UInt8) (b : UInt8) : hashL (l ++ [b]) = hstep (hashL l) b := by
  unfold hashL; rw [List.foldl_append]; rfl
theorem hashL_bd (l : List UInt8) : 0 ≤ hashL l ∧ hashL l ≤ 4294967295 := by
  suffices h : ∀ (l : List UInt8) (x : Int), 0 ≤ x ∧ x ≤ 4294967295 → 0 ≤ l.foldl hstep x ∧ l.foldl hstep x ≤ 4294967295 from h l _ (by decide)
  intro l
  induction l with
  | nil => intro x h; exact h
  | cons b l ih => intro x h; rw [List.foldl_cons]; exact ih _ (by unfold hstep; omega)
theorem take_snoch (s : ByteArray) (k : Nat) (h : k < s.size) : s.data.toList.take (k + 1) = s.data.toList.take k ++ [s[k]] := by
  rw [List.take_succ_eq_append_getElem (by simpa using h)]; rfl
theorem ret_inth {k : IntKind} {a b : Int} (h : a = b) : Ending.returned (.int k a) = .returned (.int k b) := by rw [h]

end Go.Proofs.Ytjcbgegdccaoaaf
