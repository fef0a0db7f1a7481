/- Turned numbers: plain lemmas. -/
import Derived.Test.YtjcbgegdccaoaafRows
import Derived.WalkKit
import Derived.ProofKit
import Derived.OpenShut
import Derived.ShutString
import Derived.Laws.BitsAllLaws
namespace Go.Proofs.Ytjcbgegdccaoaaf
open Go.ChangeShapes Go.WideShapes Go.ChangeAt Go.RowKit
set_option linter.unusedVariables false

def swI (x s m : Int) : Int := bits .or .u32 (bits .and .u32 (x / s) m) (bits .and .u32 x m * s % 4294967296)
def revI (x : Int) : Int := bits .or .u32 (swI (swI (swI (swI x 2 1431655765) 4 858993459) 16 252645135) 256 16711935 / 65536) (swI (swI (swI (swI x 2 1431655765) 4 858993459) 16 252645135) 256 16711935 * 65536 % 4294967296)
def swN (n s m : Nat) : Nat := ((n / s) &&& m) ||| ((n &&& m) * s % 4294967296)
theorem swN_lt (n s m : Nat) (hm : m < 4294967296) : swN n s m < 4294967296 := by
  unfold swN
  exact Nat.or_lt_two_pow (n := 32) (Nat.lt_of_le_of_lt Nat.and_le_right hm) (Nat.mod_lt _ (by decide))
theorem swI_nat (n s m : Nat) (S M : Int) (hS : S = (s : Int)) (hM : M = (m : Int)) (hn : n < 4294967296) (hm : m < 4294967296) : swI (n : Int) S M = (swN n s m : Nat) := by
  subst hS hM
  unfold swI swN
  have h1 : n / s < 4294967296 := Nat.lt_of_le_of_lt (Nat.div_le_self _ _) hn
  rw [← Int.natCast_ediv, u32_and_nat _ _ h1 hm, u32_and_nat _ _ hn hm]
  have h2 : ((n &&& m : Nat) : Int) * (s : Int) % 4294967296 = (((n &&& m) * s % 4294967296 : Nat) : Int) := by
    rw [Int.natCast_emod, Int.natCast_mul]; rfl
  rw [h2, u32_or_nat _ _ (Nat.lt_of_le_of_lt Nat.and_le_right hm) (Nat.mod_lt _ (by decide))]
theorem tb_sw (n k m i : Nat) : (swN n (2 ^ k) m).testBit i = ((n.testBit (i + k) && m.testBit i) || (decide (i < 32) && (decide (k ≤ i) && (n.testBit (i - k) && m.testBit (i - k))))) := by
  unfold swN
  have e : (4294967296 : Nat) = 2 ^ 32 := by decide
  rw [e, Nat.testBit_or, Nat.testBit_and, Nat.testBit_div_two_pow, Nat.testBit_mod_two_pow, Nat.testBit_mul_two_pow, Nat.testBit_and]
def revTo (n : Nat) : Nat → Nat
  | 0 => 0
  | k + 1 => revTo n k * 2 + n / 2 ^ k % 2
theorem tb_revTo (n k i : Nat) : (revTo n k).testBit i = (decide (i < k) && n.testBit (k - 1 - i)) := by
  induction k generalizing i with
  | zero => simp [revTo]
  | succ k ih =>
    unfold revTo
    cases i with
    | zero =>
      rw [Nat.testBit_zero]
      simp [Nat.testBit_eq_decide_div_mod_eq]
    | succ i =>
      rw [Nat.testBit_succ]
      have : (revTo n k * 2 + n / 2 ^ k % 2) / 2 = revTo n k := by omega
      rw [this, ih]
      have e1 : k + 1 - 1 - (i + 1) = k - 1 - i := by omega
      rw [e1]; simp
def revN (n : Nat) : Nat := (swN (swN (swN (swN n (2 ^ 1) 1431655765) (2 ^ 2) 858993459) (2 ^ 4) 252645135) (2 ^ 8) 16711935 / 2 ^ 16) ||| (swN (swN (swN (swN n (2 ^ 1) 1431655765) (2 ^ 2) 858993459) (2 ^ 4) 252645135) (2 ^ 8) 16711935 * 2 ^ 16 % 2 ^ 32)
theorem tb_revN (n i : Nat) : (revN n).testBit i = ((swN (swN (swN (swN n (2 ^ 1) 1431655765) (2 ^ 2) 858993459) (2 ^ 4) 252645135) (2 ^ 8) 16711935).testBit (i + 16) || (decide (i < 32) && (decide (16 ≤ i) && (swN (swN (swN (swN n (2 ^ 1) 1431655765) (2 ^ 2) 858993459) (2 ^ 4) 252645135) (2 ^ 8) 16711935).testBit (i - 16)))) := by
  unfold revN
  rw [Nat.testBit_or, Nat.testBit_div_two_pow, Nat.testBit_mod_two_pow, Nat.testBit_mul_two_pow]
theorem revI_nat (n : Nat) (hn : n < 4294967296) : revI (n : Int) = (revN n : Nat) := by
  have b1 := swN_lt n (2 ^ 1) 1431655765 (by decide)
  have b2 := swN_lt (swN n (2 ^ 1) 1431655765) (2 ^ 2) 858993459 (by decide)
  have b3 := swN_lt (swN (swN n (2 ^ 1) 1431655765) (2 ^ 2) 858993459) (2 ^ 4) 252645135 (by decide)
  have b4 := swN_lt (swN (swN (swN n (2 ^ 1) 1431655765) (2 ^ 2) 858993459) (2 ^ 4) 252645135) (2 ^ 8) 16711935 (by decide)
  have e1 : swI (n : Int) 2 1431655765 = (swN n (2 ^ 1) 1431655765 : Nat) := swI_nat n (2 ^ 1) 1431655765 _ _ (by simp) (by simp) hn (by decide)
  have e2 : swI ((swN n (2 ^ 1) 1431655765 : Nat) : Int) 4 858993459 = (swN (swN n (2 ^ 1) 1431655765) (2 ^ 2) 858993459 : Nat) := swI_nat _ (2 ^ 2) 858993459 _ _ (by simp) (by simp) b1 (by decide)
  have e3 : swI ((swN (swN n (2 ^ 1) 1431655765) (2 ^ 2) 858993459 : Nat) : Int) 16 252645135 = (swN (swN (swN n (2 ^ 1) 1431655765) (2 ^ 2) 858993459) (2 ^ 4) 252645135 : Nat) := swI_nat _ (2 ^ 4) 252645135 _ _ (by simp) (by simp) b2 (by decide)
  have e4 : swI ((swN (swN (swN n (2 ^ 1) 1431655765) (2 ^ 2) 858993459) (2 ^ 4) 252645135 : Nat) : Int) 256 16711935 = (swN (swN (swN (swN n (2 ^ 1) 1431655765) (2 ^ 2) 858993459) (2 ^ 4) 252645135) (2 ^ 8) 16711935 : Nat) := swI_nat _ (2 ^ 8) 16711935 _ _ (by simp) (by simp) b3 (by decide)
  unfold revI revN
  rw [e1, e2, e3, e4]
  generalize swN (swN (swN (swN n (2 ^ 1) 1431655765) (2 ^ 2) 858993459) (2 ^ 4) 252645135) (2 ^ 8) 16711935 = y at *
  have h1 : (y : Int) / 65536 = ((y / 2 ^ 16 : Nat) : Int) := by omega
  have h2 : (y : Int) * 65536 % 4294967296 = ((y * 2 ^ 16 % 2 ^ 32 : Nat) : Int) := by omega
  rw [h1, h2, u32_or_nat _ _ (Nat.lt_of_le_of_lt (Nat.div_le_self _ _) b4) (Nat.mod_lt _ (by decide))]
theorem bit_high {n i : Nat} (hn : n < 4294967296) (h : 32 ≤ i) : n.testBit i = false :=
  Nat.testBit_lt_two_pow (Nat.lt_of_lt_of_le hn (by have := Nat.pow_le_pow_right (n := 2) (by decide) h; simpa using this))
theorem tb_m (m j : Nat) (f : Nat → Bool) (hm : m < 4294967296) (h : ∀ j : Fin 32, m.testBit j = f j) : m.testBit j = (decide (j < 32) && f j) := by
  by_cases hj : j < 32
  · rw [h ⟨j, hj⟩]; simp [hj]
  · rw [bit_high hm (by omega)]; simp [hj]
theorem tb_m0 (j : Nat) : Nat.testBit 1431655765 j = (decide (j < 32) && decide (j % 2 = 0)) := tb_m _ j (fun j => decide (j % 2 = 0)) (by decide) (by decide)
theorem tb_m1 (j : Nat) : Nat.testBit 858993459 j = (decide (j < 32) && decide (j / 2 % 2 = 0)) := tb_m _ j (fun j => decide (j / 2 % 2 = 0)) (by decide) (by decide)
theorem tb_m2 (j : Nat) : Nat.testBit 252645135 j = (decide (j < 32) && decide (j / 4 % 2 = 0)) := tb_m _ j (fun j => decide (j / 4 % 2 = 0)) (by decide) (by decide)
theorem tb_m3 (j : Nat) : Nat.testBit 16711935 j = (decide (j < 32) && decide (j / 8 % 2 = 0)) := tb_m _ j (fun j => decide (j / 8 % 2 = 0)) (by decide) (by decide)
theorem revN_lt (n : Nat) : revN n < 4294967296 := by
  unfold revN
  have b4 := swN_lt (swN (swN (swN n (2 ^ 1) 1431655765) (2 ^ 2) 858993459) (2 ^ 4) 252645135) (2 ^ 8) 16711935 (by decide)
  exact Nat.or_lt_two_pow (n := 32) (Nat.lt_of_le_of_lt (Nat.div_le_self _ _) b4) (Nat.mod_lt _ (by decide))
set_option maxHeartbeats 4000000 in
theorem revN_eq (n : Nat) (hn : n < 4294967296) : revN n = revTo n 32 := by
  apply Nat.eq_of_testBit_eq
  intro i
  by_cases hi : i < 32
  · rw [tb_revN, tb_revTo]
    have c : i = 0 ∨ i = 1 ∨ i = 2 ∨ i = 3 ∨ i = 4 ∨ i = 5 ∨ i = 6 ∨ i = 7 ∨ i = 8 ∨ i = 9 ∨ i = 10 ∨ i = 11 ∨ i = 12 ∨ i = 13 ∨ i = 14 ∨ i = 15 ∨ i = 16 ∨ i = 17 ∨ i = 18 ∨ i = 19 ∨ i = 20 ∨ i = 21 ∨ i = 22 ∨ i = 23 ∨ i = 24 ∨ i = 25 ∨ i = 26 ∨ i = 27 ∨ i = 28 ∨ i = 29 ∨ i = 30 ∨ i = 31 := by omega
    rcases c with rfl | rfl | rfl | rfl | rfl | rfl | rfl | rfl | rfl | rfl | rfl | rfl | rfl | rfl | rfl | rfl | rfl | rfl | rfl | rfl | rfl | rfl | rfl | rfl | rfl | rfl | rfl | rfl | rfl | rfl | rfl | rfl <;> simp only [tb_sw, tb_m0, tb_m1, tb_m2, tb_m3] <;> simp [bit_high hn]
  · rw [bit_high (revN_lt n) (by omega), tb_revTo]; simp [hi]
theorem revTo_lt (n k : Nat) : revTo n k < 2 ^ k := by
  induction k with
  | zero => simp [revTo]
  | succ k ih => unfold revTo; rw [Nat.pow_succ]; omega
def flipI (n : Int) : Int := if 0 ≤ n ∧ n ≤ 4294967295 then ((revTo n.toNat 32 : Nat) : Int) else 0
theorem flipI_bd (n : Int) : 0 ≤ flipI n ∧ flipI n ≤ 4294967295 := by
  unfold flipI
  have := revTo_lt n.toNat 32
  split <;> omega
theorem flipI_nat (m : Nat) (h : m < 4294967296) : flipI (m : Int) = ((revTo m 32 : Nat) : Int) := by
  unfold flipI; rw [if_pos (by omega), Int.toNat_natCast]
theorem flipI_no (n : Int) (h : n < 0 ∨ 4294967295 < n) : flipI n = 0 := by
  unfold flipI; rw [if_neg (by omega)]
theorem revI_flip (m : Nat) (h : m < 4294967296) : revI (m : Int) = flipI (m : Int) := by
  rw [revI_nat m h, revN_eq m h, flipI_nat m h]
theorem ret_int {k : IntKind} {a b : Int} (h : a = b) : Ending.returned (.int k a) = .returned (.int k b) := by rw [h]

theorem nat_or_one (a : Nat) : a ||| 1 = a / 2 * 2 + 1 := by
  apply Nat.eq_of_testBit_eq
  intro i
  cases i with
  | zero => simp [Nat.testBit_zero]
  | succ i =>
    rw [Nat.testBit_or, Nat.testBit_succ, Nat.testBit_succ, Nat.testBit_succ]
    have : (a / 2 * 2 + 1) / 2 = a / 2 := by omega
    rw [this]; simp
theorem i64_or1 (x : Int) (h1 : 0 ≤ x) (h2 : x ≤ 4294967295) : bits .or .i64 x 1 = x / 2 * 2 + 1 := by
  obtain ⟨m, rfl⟩ := Int.eq_ofNat_of_zero_le h1
  show IntKind.i64.wrap ((BitVec.ofInt 64 (m : Int) ||| BitVec.ofInt 64 1).toNat : Int) = _
  have e : (BitVec.ofInt 64 1).toNat = 1 := by decide
  rw [BitVec.toNat_or, ofInt_u64 m (by omega), e, nat_or_one, IntKind.wrap_i64]
  try unfold wrap64
  omega
theorem i64_andNot1 (x : Int) (h1 : 0 ≤ x) (h2 : x ≤ 4294967295) : bits .andNot .i64 x 1 = x / 2 * 2 := by
  obtain ⟨m, rfl⟩ := Int.eq_ofNat_of_zero_le h1
  show IntKind.i64.wrap ((BitVec.ofInt 64 (m : Int) &&& ~~~ BitVec.ofInt 64 1).toNat : Int) = _
  have e : (~~~ BitVec.ofInt 64 1).toNat = 18446744073709551614 := by decide
  rw [BitVec.toNat_and, ofInt_u64 m (by omega), e, nat_hi64_1, IntKind.wrap_i64]
  try unfold wrap64
  omega
def orderI (n : Int) : Int := if 0 ≤ n ∧ n ≤ 4294967295 then flipI n / 2 * 2 + 1 else 0
def dummyI (n : Int) : Int := flipI n / 2 * 2
theorem orderI_no (n : Int) (h : n < 0 ∨ 4294967295 < n) : orderI n = 0 := by
  unfold orderI; rw [if_neg (by omega)]
theorem orderI_yes (n : Int) (h1 : 0 ≤ n) (h2 : n ≤ 4294967295) : orderI n = flipI n / 2 * 2 + 1 := by
  unfold orderI; rw [if_pos ⟨h1, h2⟩]

theorem flip_flip (n : Nat) (h : n < 4294967296) : revTo (revTo n 32) 32 = n := by
  apply Nat.eq_of_testBit_eq
  intro i
  rw [tb_revTo, tb_revTo]
  by_cases hi : i < 32
  · have e : 32 - 1 - (32 - 1 - i) = i := by omega
    rw [e]
    simp [hi]
    intro _
    omega
  · rw [bit_high (i := i) h (by omega)]; simp [hi]
theorem flip_low (h : Nat) : revTo (h % 16) 32 ≤ revTo h 32 := by
  have e : revTo (h % 16) 32 &&& revTo h 32 = revTo (h % 16) 32 := by
    apply Nat.eq_of_testBit_eq
    intro i
    rw [Nat.testBit_and, tb_revTo, tb_revTo, show (16 : Nat) = 2 ^ 4 from rfl, Nat.testBit_mod_two_pow]
    cases decide (i < 32) <;> cases decide (32 - 1 - i < 4) <;> cases h.testBit (32 - 1 - i) <;> rfl
  rw [← e]
  exact Nat.and_le_right

end Go.Proofs.Ytjcbgegdccaoaaf
