/- For every int the law FnExactDummyKey answers true: DummyKey of the program answers as its model. No condition. -/
import Derived.Test.YtjcbgegdccaoaafRows
import Derived.WalkKit
import Derived.ProofKit
import Derived.OpenShut
import Derived.ShutString
import Derived.Laws.BitsAllLaws
namespace Go.Proofs.Ytjcbgegdccaoaaf.fnExactDummyKey
open Go.ChangeShapes Go.WideShapes Go.ChangeAt Go.RowKit
open Go.ChangeMaps (open_string shut_string)
set_option linter.unusedVariables false

theorem own : ownKnob Try.prog.godebug = none := by kernel_rfl

def swI (x s m : Int) : Int := bits .or .u32 (bits .and .u32 (x / s) m) (bits .and .u32 x m * s % 4294967296)
def revI (x : Int) : Int := bits .or .u32 (swI (swI (swI (swI x 2 1431655765) 4 858993459) 16 252645135) 256 16711935 / 65536) (swI (swI (swI (swI x 2 1431655765) 4 858993459) 16 252645135) 256 16711935 * 65536 % 4294967296)
def swN (n s m : Nat) : Nat := ((n / s) &&& m) ||| ((n &&& m) * s % 4294967296)
theorem swN_lt (n s m : Nat) (hm : m < 4294967296) : swN n s m < 4294967296 := by
  unfold swN
  exact Nat.or_lt_two_pow (n := 32) (Nat.lt_of_le_of_lt Nat.and_le_right hm) (Nat.mod_lt _ (by decide))
theorem swI_nat (n s m : Nat) (S M : Int) (hS : S = (s : Int)) (hM : M = (m : Int)) (hn : n < 4294967296) (hm : m < 4294967296) : swI (n : Int) S M = (swN n s m : Nat) := by
  subst hS hM
  unfold swI swN
  have h1 : n / s < 4294967296 := Nat.lt_of_le_of_lt (Nat.div_le_self _ _) hn
  rw [← Int.natCast_ediv, u32_and_nat _ _ h1 hm, u32_and_nat _ _ hn hm]
  have h2 : ((n &&& m : Nat) : Int) * (s : Int) % 4294967296 = (((n &&& m) * s % 4294967296 : Nat) : Int) := by
    rw [Int.natCast_emod, Int.natCast_mul]; rfl
  rw [h2, u32_or_nat _ _ (Nat.lt_of_le_of_lt Nat.and_le_right hm) (Nat.mod_lt _ (by decide))]
theorem tb_sw (n k m i : Nat) : (swN n (2 ^ k) m).testBit i = ((n.testBit (i + k) && m.testBit i) || (decide (i < 32) && (decide (k ≤ i) && (n.testBit (i - k) && m.testBit (i - k))))) := by
  unfold swN
  have e : (4294967296 : Nat) = 2 ^ 32 := by decide
  rw [e, Nat.testBit_or, Nat.testBit_and, Nat.testBit_div_two_pow, Nat.testBit_mod_two_pow, Nat.testBit_mul_two_pow, Nat.testBit_and]
def revTo (n : Nat) : Nat → Nat
  | 0 => 0
  | k + 1 => revTo n k * 2 + n / 2 ^ k % 2
theorem tb_revTo (n k i : Nat) : (revTo n k).testBit i = (decide (i < k) && n.testBit (k - 1 - i)) := by
  induction k generalizing i with
  | zero => simp [revTo]
  | succ k ih =>
    unfold revTo
    cases i with
    | zero =>
      rw [Nat.testBit_zero]
      simp [Nat.testBit_eq_decide_div_mod_eq]
    | succ i =>
      rw [Nat.testBit_succ]
      have : (revTo n k * 2 + n / 2 ^ k % 2) / 2 = revTo n k := by omega
      rw [this, ih]
      have e1 : k + 1 - 1 - (i + 1) = k - 1 - i := by omega
      rw [e1]; simp
def revN (n : Nat) : Nat := (swN (swN (swN (swN n (2 ^ 1) 1431655765) (2 ^ 2) 858993459) (2 ^ 4) 252645135) (2 ^ 8) 16711935 / 2 ^ 16) ||| (swN (swN (swN (swN n (2 ^ 1) 1431655765) (2 ^ 2) 858993459) (2 ^ 4) 252645135) (2 ^ 8) 16711935 * 2 ^ 16 % 2 ^ 32)
theorem tb_revN (n i : Nat) : (revN n).testBit i = ((swN (swN (swN (swN n (2 ^ 1) 1431655765) (2 ^ 2) 858993459) (2 ^ 4) 252645135) (2 ^ 8) 16711935).testBit (i + 16) || (decide (i < 32) && (decide (16 ≤ i) && (swN (swN (swN (swN n (2 ^ 1) 1431655765) (2 ^ 2) 858993459) (2 ^ 4) 252645135) (2 ^ 8) 16711935).testBit (i - 16)))) := by
  unfold revN
  rw [Nat.testBit_or, Nat.testBit_div_two_pow, Nat.testBit_mod_two_pow, Nat.testBit_mul_two_pow]
theorem revI_nat (n : Nat) (hn : n < 4294967296) : revI (n : Int) = (revN n : Nat) := by
  have b1 := swN_lt n (2 ^ 1) 1431655765 (by decide)
  have b2 := swN_lt (swN n (2 ^ 1) 1431655765) (2 ^ 2) 858993459 (by decide)
  have b3 := swN_lt (swN (swN n (2 ^ 1) 1431655765) (2 ^ 2) 858993459) (2 ^ 4) 252645135 (by decide)
  have b4 := swN_lt (swN (swN (swN n (2 ^ 1) 1431655765) (2 ^ 2) 858993459) (2 ^ 4) 252645135) (2 ^ 8) 16711935 (by decide)
  have e1 : swI (n : Int) 2 1431655765 = (swN n (2 ^ 1) 1431655765 : Nat) := swI_nat n (2 ^ 1) 1431655765 _ _ (by simp) (by simp) hn (by decide)
  have e2 : swI ((swN n (2 ^ 1) 1431655765 : Nat) : Int) 4 858993459 = (swN (swN n (2 ^ 1) 1431655765) (2 ^ 2) 858993459 : Nat) := swI_nat _ (2 ^ 2) 858993459 _ _ (by simp) (by simp) b1 (by decide)
  have e3 : swI ((swN (swN n (2 ^ 1) 1431655765) (2 ^ 2) 858993459 : Nat) : Int) 16 252645135 = (swN (swN (swN n (2 ^ 1) 1431655765) (2 ^ 2) 858993459) (2 ^ 4) 252645135 : Nat) := swI_nat _ (2 ^ 4) 252645135 _ _ (by simp) (by simp) b2 (by decide)
  have e4 : swI ((swN (swN (swN n (2 ^ 1) 1431655765) (2 ^ 2) 858993459) (2 ^ 4) 252645135 : Nat) : Int) 256 16711935 = (swN (swN (swN (swN n (2 ^ 1) 1431655765) (2 ^ 2) 858993459) (2 ^ 4) 252645135) (2 ^ 8) 16711935 : Nat) := swI_nat _ (2 ^ 8) 16711935 _ _ (by simp) (by simp) b3 (by decide)
  unfold revI revN
  rw [e1, e2, e3, e4]
  generalize swN (swN (swN (swN n (2 ^ 1) 1431655765) (2 ^ 2) 858993459) (2 ^ 4) 252645135) (2 ^ 8) 16711935 = y at *
  have h1 : (y : Int) / 65536 = ((y / 2 ^ 16 : Nat) : Int) := by omega
  have h2 : (y : Int) * 65536 % 4294967296 = ((y * 2 ^ 16 % 2 ^ 32 : Nat) : Int) := by omega
  rw [h1, h2, u32_or_nat _ _ (Nat.lt_of_le_of_lt (Nat.div_le_self _ _) b4) (Nat.mod_lt _ (by decide))]
theorem bit_high {n i : Nat} (hn : n < 4294967296) (h : 32 ≤ i) : n.testBit i = false :=
  Nat.testBit_lt_two_pow (Nat.lt_of_lt_of_le hn (by have := Nat.pow_le_pow_right (n := 2) (by decide) h; simpa using this))
theorem tb_m (m j : Nat) (f : Nat → Bool) (hm : m < 4294967296) (h : ∀ j : Fin 32, m.testBit j = f j) : m.testBit j = (decide (j < 32) && f j) := by
  by_cases hj : j < 32
  · rw [h ⟨j, hj⟩]; simp [hj]
  · rw [bit_high hm (by omega)]; simp [hj]
theorem tb_m0 (j : Nat) : Nat.testBit 1431655765 j = (decide (j < 32) && decide (j % 2 = 0)) := tb_m _ j (fun j => decide (j % 2 = 0)) (by decide) (by decide)
theorem tb_m1 (j : Nat) : Nat.testBit 858993459 j = (decide (j < 32) && decide (j / 2 % 2 = 0)) := tb_m _ j (fun j => decide (j / 2 % 2 = 0)) (by decide) (by decide)
theorem tb_m2 (j : Nat) : Nat.testBit 252645135 j = (decide (j < 32) && decide (j / 4 % 2 = 0)) := tb_m _ j (fun j => decide (j / 4 % 2 = 0)) (by decide) (by decide)
theorem tb_m3 (j : Nat) : Nat.testBit 16711935 j = (decide (j < 32) && decide (j / 8 % 2 = 0)) := tb_m _ j (fun j => decide (j / 8 % 2 = 0)) (by decide) (by decide)
theorem revN_lt (n : Nat) : revN n < 4294967296 := by
  unfold revN
  have b4 := swN_lt (swN (swN (swN n (2 ^ 1) 1431655765) (2 ^ 2) 858993459) (2 ^ 4) 252645135) (2 ^ 8) 16711935 (by decide)
  exact Nat.or_lt_two_pow (n := 32) (Nat.lt_of_le_of_lt (Nat.div_le_self _ _) b4) (Nat.mod_lt _ (by decide))
set_option maxHeartbeats 4000000 in
theorem revN_eq (n : Nat) (hn : n < 4294967296) : revN n = revTo n 32 := by
  apply Nat.eq_of_testBit_eq
  intro i
  by_cases hi : i < 32
  · rw [tb_revN, tb_revTo]
    have c : i = 0 ∨ i = 1 ∨ i = 2 ∨ i = 3 ∨ i = 4 ∨ i = 5 ∨ i = 6 ∨ i = 7 ∨ i = 8 ∨ i = 9 ∨ i = 10 ∨ i = 11 ∨ i = 12 ∨ i = 13 ∨ i = 14 ∨ i = 15 ∨ i = 16 ∨ i = 17 ∨ i = 18 ∨ i = 19 ∨ i = 20 ∨ i = 21 ∨ i = 22 ∨ i = 23 ∨ i = 24 ∨ i = 25 ∨ i = 26 ∨ i = 27 ∨ i = 28 ∨ i = 29 ∨ i = 30 ∨ i = 31 := by omega
    rcases c with rfl | rfl | rfl | rfl | rfl | rfl | rfl | rfl | rfl | rfl | rfl | rfl | rfl | rfl | rfl | rfl | rfl | rfl | rfl | rfl | rfl | rfl | rfl | rfl | rfl | rfl | rfl | rfl | rfl | rfl | rfl | rfl <;> simp only [tb_sw, tb_m0, tb_m1, tb_m2, tb_m3] <;> simp [bit_high hn]
  · rw [bit_high (revN_lt n) (by omega), tb_revTo]; simp [hi]
theorem revTo_lt (n k : Nat) : revTo n k < 2 ^ k := by
  induction k with
  | zero => simp [revTo]
  | succ k ih => unfold revTo; rw [Nat.pow_succ]; omega
def flipI (n : Int) : Int := if 0 ≤ n ∧ n ≤ 4294967295 then ((revTo n.toNat 32 : Nat) : Int) else 0
theorem flipI_bd (n : Int) : 0 ≤ flipI n ∧ flipI n ≤ 4294967295 := by
  unfold flipI
  have := revTo_lt n.toNat 32
  split <;> omega
theorem flipI_nat (m : Nat) (h : m < 4294967296) : flipI (m : Int) = ((revTo m 32 : Nat) : Int) := by
  unfold flipI; rw [if_pos (by omega), Int.toNat_natCast]
theorem flipI_no (n : Int) (h : n < 0 ∨ 4294967295 < n) : flipI n = 0 := by
  unfold flipI; rw [if_neg (by omega)]
theorem revI_flip (m : Nat) (h : m < 4294967296) : revI (m : Int) = flipI (m : Int) := by
  rw [revI_nat m h, revN_eq m h, flipI_nat m h]
theorem ret_int {k : IntKind} {a b : Int} (h : a = b) : Ending.returned (.int k a) = .returned (.int k b) := by rw [h]

theorem rev32_any (x : Int) (w : World) (h1 : 0 ≤ x) (h2 : x ≤ 4294967295) :
    Calls Try.prog 26 #[.int .u32 x] w fun e w' => e = .returned (.int .u32 (revI x)) ∧ w' = w := by
  go_enter Try.func26, Try.ntmps26
  go_wp2
  go_ret
  exact ⟨rfl, rfl⟩

theorem spec_flip_no (n : Int) (w : World) (h : n < 0 ∨ 4294967295 < n) :
    Calls Try.prog 15 #[.int .i64 n] w fun e w' => e = .returned (.int .i64 (flipI n)) ∧ w' = w := by
  rw [flipI_no n h]
  rcases h with h | h
  · go_enter Try.func15, Try.ntmps15
    go_wp2
    go_ret
    exact ⟨rfl, rfl⟩
  · have h0 : 0 ≤ n := by omega
    have h' : ¬ n ≤ 4294967295 := by omega
    go_enter Try.func15, Try.ntmps15
    go_wp2
    go_ret
    exact ⟨rfl, rfl⟩

theorem impl_flip_no (n : Int) (w : World) (h : n < 0 ∨ 4294967295 < n) :
    Calls Try.prog 16 #[.int .i64 n] w fun e w' => e = .returned (.int .i64 (flipI n)) ∧ w' = w := by
  rw [flipI_no n h]
  rcases h with h | h
  · go_enter Try.func16, Try.ntmps16
    go_wp2
    go_ret
    exact ⟨rfl, rfl⟩
  · have h0 : 0 ≤ n := by omega
    have h' : ¬ n ≤ 4294967295 := by omega
    go_enter Try.func16, Try.ntmps16
    go_wp2
    go_ret
    exact ⟨rfl, rfl⟩

theorem impl_flip_yes (n : Int) (w : World) (h1 : 0 ≤ n) (h2 : n ≤ 4294967295) :
    Calls Try.prog 16 #[.int .i64 n] w fun e w' => e = .returned (.int .i64 (flipI n)) ∧ w' = w := by
  have hr : Hid (revI n = flipI n) := by
    have := revI_flip n.toNat (by omega)
    rwa [Int.toNat_of_nonneg h1] at this
  have hb : 0 ≤ revI n ∧ revI n ≤ 4294967295 := by rw [hr.out]; exact flipI_bd n
  obtain ⟨b1, b2⟩ := hb
  go_enter Try.func16, Try.ntmps16
  go_wp2_with (first | (go_at_call 26; refine (rev32_any _ _ (by omega) (by omega)).mono ?_; rintro e w' ⟨rfl, rfl⟩) | go_in)
  go_ret
  exact ⟨ret_int hr.out, rfl⟩

theorem spec_flip_yes (n : Int) (w : World) (h1 : 0 ≤ n) (h2 : n ≤ 4294967295) :
    Calls Try.prog 15 #[.int .i64 n] w fun e w' => e = .returned (.int .i64 (flipI n)) ∧ w' = w := by
  obtain ⟨m, rfl⟩ := Int.eq_ofNat_of_zero_le h1
  rw [flipI_nat m (by omega)]
  go_enter Try.func15, Try.ntmps15
  go_wp2
  go_loop [0, 3, 4] (fun n out i => ∃ k o q : Nat, k ≤ 32 ∧ i = .int .i64 k ∧ out = .int .i64 o ∧ n = .int .i64 q ∧ Hid (o = revTo m k ∧ q = m / 2 ^ k)) (fun _ _ i => 32 - (intOf i).toNat)
  case atStart => exact ⟨0, 0, m, Nat.zero_le _, rfl, rfl, rfl, ⟨rfl, by simp⟩⟩
  case round =>
    obtain ⟨k, o, q, hk, rfl, rfl, rfl, HS⟩ := hrel
    have ho : o < 4294967296 := by rw [HS.out.1]; exact Nat.lt_of_lt_of_le (revTo_lt m k) (Nat.pow_le_pow_right (by decide) hk)
    have hq : q < 4294967296 := by rw [HS.out.2]; exact Nat.lt_of_le_of_lt (Nat.div_le_self _ _) (by omega)
    by_cases hlt : k < 32
    · go_wp2
      go_round
      case rel => exact ⟨k + 1, o * 2 + q % 2, q / 2, by omega, by go_num, by go_num, by go_num, ⟨by rw [HS.out.1, HS.out.2]; rfl, by rw [HS.out.2, Nat.pow_succ, Nat.div_div_eq_div_mul]⟩⟩
      case measure => simp [intOf]; omega
    · have hk2 : Hid (k = 32) := (by omega : k = 32)
      go_wp2
      go_ret
      exact ⟨ret_int (by rw [HS.out.1, hk2.out]), rfl⟩

theorem spec_flip (n : Int) (w : World) : Calls Try.prog 15 #[.int .i64 n] w fun e w' => e = .returned (.int .i64 (flipI n)) ∧ w' = w := by
  by_cases h : 0 ≤ n ∧ n ≤ 4294967295
  · exact spec_flip_yes n w h.1 h.2
  · exact spec_flip_no n w (by omega)
theorem impl_flip (n : Int) (w : World) : Calls Try.prog 16 #[.int .i64 n] w fun e w' => e = .returned (.int .i64 (flipI n)) ∧ w' = w := by
  by_cases h : 0 ≤ n ∧ n ≤ 4294967295
  · exact impl_flip_yes n w h.1 h.2
  · exact impl_flip_no n w (by omega)


theorem nat_or_one (a : Nat) : a ||| 1 = a / 2 * 2 + 1 := by
  apply Nat.eq_of_testBit_eq
  intro i
  cases i with
  | zero => simp [Nat.testBit_zero]
  | succ i =>
    rw [Nat.testBit_or, Nat.testBit_succ, Nat.testBit_succ, Nat.testBit_succ]
    have : (a / 2 * 2 + 1) / 2 = a / 2 := by omega
    rw [this]; simp
theorem i64_or1 (x : Int) (h1 : 0 ≤ x) (h2 : x ≤ 4294967295) : bits .or .i64 x 1 = x / 2 * 2 + 1 := by
  obtain ⟨m, rfl⟩ := Int.eq_ofNat_of_zero_le h1
  show IntKind.i64.wrap ((BitVec.ofInt 64 (m : Int) ||| BitVec.ofInt 64 1).toNat : Int) = _
  have e : (BitVec.ofInt 64 1).toNat = 1 := by decide
  rw [BitVec.toNat_or, ofInt_u64 m (by omega), e, nat_or_one, IntKind.wrap_i64]
  try unfold wrap64
  omega
theorem i64_andNot1 (x : Int) (h1 : 0 ≤ x) (h2 : x ≤ 4294967295) : bits .andNot .i64 x 1 = x / 2 * 2 := by
  obtain ⟨m, rfl⟩ := Int.eq_ofNat_of_zero_le h1
  show IntKind.i64.wrap ((BitVec.ofInt 64 (m : Int) &&& ~~~ BitVec.ofInt 64 1).toNat : Int) = _
  have e : (~~~ BitVec.ofInt 64 1).toNat = 18446744073709551614 := by decide
  rw [BitVec.toNat_and, ofInt_u64 m (by omega), e, nat_hi64_1, IntKind.wrap_i64]
  try unfold wrap64
  omega
def orderI (n : Int) : Int := if 0 ≤ n ∧ n ≤ 4294967295 then flipI n / 2 * 2 + 1 else 0
def dummyI (n : Int) : Int := flipI n / 2 * 2
theorem orderI_no (n : Int) (h : n < 0 ∨ 4294967295 < n) : orderI n = 0 := by
  unfold orderI; rw [if_neg (by omega)]
theorem orderI_yes (n : Int) (h1 : 0 ≤ n) (h2 : n ≤ 4294967295) : orderI n = flipI n / 2 * 2 + 1 := by
  unfold orderI; rw [if_pos ⟨h1, h2⟩]

theorem spec_order (n : Int) (w : World) : Calls Try.prog 17 #[.int .i64 n] w fun e w' => e = .returned (.int .i64 (orderI n)) ∧ w' = w := by
  by_cases h1 : 0 ≤ n
  · by_cases h2 : n ≤ 4294967295
    · rw [orderI_yes n h1 h2]
      obtain ⟨b1, b2⟩ := flipI_bd n
      go_enter Try.func17, Try.ntmps17
      go_wp2_with (first | (go_at_call 15; refine (spec_flip _ _).mono ?_; rintro e w' ⟨rfl, rfl⟩) | go_in)
      go_ret
      exact ⟨rfl, rfl⟩
    · rw [orderI_no n (by omega)]
      go_enter Try.func17, Try.ntmps17
      go_wp2
      go_ret
      exact ⟨rfl, rfl⟩
  · rw [orderI_no n (by omega)]
    go_enter Try.func17, Try.ntmps17
    go_wp2
    go_ret
    exact ⟨rfl, rfl⟩

theorem impl_order (n : Int) (w : World) : Calls Try.prog 18 #[.int .i64 n] w fun e w' => e = .returned (.int .i64 (orderI n)) ∧ w' = w := by
  by_cases h1 : 0 ≤ n
  · by_cases h2 : n ≤ 4294967295
    · rw [orderI_yes n h1 h2]
      obtain ⟨b1, b2⟩ := flipI_bd n
      go_enter Try.func18, Try.ntmps18
      go_wp2_with (first | (go_at_call 16; refine (impl_flip _ _).mono ?_; rintro e w' ⟨rfl, rfl⟩) | go_in)
      go_ret
      exact ⟨ret_int (i64_or1 _ b1 b2), rfl⟩
    · rw [orderI_no n (by omega)]
      go_enter Try.func18, Try.ntmps18
      go_wp2
      go_ret
      exact ⟨rfl, rfl⟩
  · rw [orderI_no n (by omega)]
    go_enter Try.func18, Try.ntmps18
    go_wp2
    go_ret
    exact ⟨rfl, rfl⟩


theorem spec_dummy (n : Int) (w : World) : Calls Try.prog 19 #[.int .i64 n] w fun e w' => e = .returned (.int .i64 (dummyI n)) ∧ w' = w := by
  obtain ⟨b1, b2⟩ := flipI_bd n
  unfold dummyI
  go_enter Try.func19, Try.ntmps19
  go_wp2_with (first | (go_at_call 15; refine (spec_flip _ _).mono ?_; rintro e w' ⟨rfl, rfl⟩))
  go_ret
  exact ⟨rfl, rfl⟩
theorem impl_dummy (n : Int) (w : World) : Calls Try.prog 20 #[.int .i64 n] w fun e w' => e = .returned (.int .i64 (dummyI n)) ∧ w' = w := by
  obtain ⟨b1, b2⟩ := flipI_bd n
  unfold dummyI
  go_enter Try.func20, Try.ntmps20
  go_wp2_with (first | (go_at_call 16; refine (impl_flip _ _).mono ?_; rintro e w' ⟨rfl, rfl⟩))
  go_ret
  exact ⟨ret_int (i64_andNot1 _ b1 b2), rfl⟩



theorem walk (a0 : Int) (w0 : (Lit.int .i64 a0).wf = true) (w : World) :
    Calls Try.prog 8 #[.int .i64 a0] w fun e w' => e = .returned (.bool true) ∧ Grown w w' := by
  go_enter Try.func8, Try.ntmps8
  go_wp2_with (first | (go_at_call 19; refine (spec_dummy _ _).mono ?_; rintro e w' ⟨rfl, rfl⟩) | (go_at_call 20; refine (impl_dummy _ _).mono ?_; rintro e w' ⟨rfl, rfl⟩))
  go_ret
  exact ⟨rfl, by repeat (first | exact Grown.refl _ | apply Grown.drew | apply Grown.alloc)⟩

set_option maxRecDepth 100000 in
theorem lifted (os : Os) (started : os.Started) (H : Type) (enc : TypeId × Value → H) :
    ReturnsInHanded {} Try.checked os 8 .any (Rows.fnExactDummyKeySpec.pre6 enc Try.prog Try.f8 Rows.fnExactDummyKeyRow.domain false) (Rows.fnExactDummyKeySpec.post enc Try.prog Try.f8 false true false false) := by
  refine returnsInHanded_of_change (C := Try.checked) own started (by kernel_rfl) Try.func8
    (ChangeSpec.witness6 (enc := enc) (C := Try.checked) false ⟨#[], #[.int .i64 0], []⟩ 8 (by kernel_rfl) (by kernel_rfl) (by kernel_rfl) (by kernel_rfl)) ?_
  intro W base args ds gs before hval0 hW hcnd _
  have hval : ∀ (j : Nat) t v, Try.f8.params[j]? = some t → args[j]? = some v → Value.okWide Try.prog W .any base t v := hval0
  have hW' := hW
  obtain ⟨p, q, hA0, hV, rfl, hfz, hnd⟩ := hW
  have hA : DataW.TrodAll enc Try.prog W 0 (fun _ => true) true Try.f8.params.toList args.toList ds p := hA0
  rw [Try.params8] at hA hval
  obtain ⟨v0, vs0, d0, ds0, p0, q0, hargs, rfl, rfl, h0, r0⟩ := trodAll_cons hA
  obtain ⟨rfl, rfl, rfl⟩ := trodAll_nil r0
  obtain rfl : args = #[v0] := by cases args; simp_all
  obtain ⟨rfl, rfl⟩ := trodVars_none hV
  obtain ⟨a0, rfl, rfl, rfl, w0⟩ := open_int Try.underlying3 (hval 0 3 v0 rfl rfl) h0
  clear hA0 hval0
  simp only [List.append_nil] at hW'
  refine (walk a0 w0 W).mono fun e W' ⟨he, hg⟩ => ?_
  subst he
  exact ⟨_, rfl, post_of_same (pa := []) (pv := []) hW' (fun _ _ _ => (trodAll_cons_mk (shut_bool Try.underlying4 _) trodAll_mk0)) (fun sp _ => (trodAll_cons_mk (shut_int Try.underlying3 w0) trodAll_mk0)) (fun _ _ => rfl) rfl
    (hg.frame _) hg.2.1 (ok_one (by kernel_rfl) rfl (okWide_bool_mk Try.underlying4 _))⟩

theorem over : Rows.fnExactDummyKeyRow.holds Try.pinned (OpenSpec.ofChange Rows.fnExactDummyKeySpec) :=
  OpenClaim.holds_of_wide 8 Try.f8 rfl rfl rfl rfl rfl rfl rfl ⟨rfl, rfl, rfl, rfl, rfl⟩ rfl rfl rfl rfl rfl (by kernel_rfl) Try.func8 (by kernel_rfl)
    (of_decide_eq_true (by kernel_rfl)) (by unfold Func.isWrapper; first | (rw [if_pos (by decide +kernel)]; kernel_rfl) | (rw [if_neg (by decide +kernel)]; exact ⟨rfl, rfl⟩))
    (fun os started H enc _ => lifted os started H enc)

theorem proved : Rows.FnExactDummyKeySaid :=
  over
end Go.Proofs.Ytjcbgegdccaoaaf.fnExactDummyKey
namespace Go.Proofs.Ytjcbgegdccaoaaf
theorem fnExactDummyKey_holds : Rows.FnExactDummyKeySaid := fnExactDummyKey.proved
#print axioms fnExactDummyKey_holds
end Go.Proofs.Ytjcbgegdccaoaaf
