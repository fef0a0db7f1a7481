/- Flip, OrderKey and DummyKey of the model. -/
import Derived.Test.YtjcbgegdccaoaafRows
import Derived.WalkKit
import Derived.ProofKit
import Derived.OpenShut
import Derived.ShutString
import Derived.Test.YtjcbgegdccaoaafFlipPlain
namespace Go.Proofs.Ytjcbgegdccaoaaf
open Go.ChangeShapes Go.WideShapes Go.ChangeAt Go.RowKit
set_option linter.unusedVariables false

theorem spec_flip_no (n : Int) (w : World) (h : n < 0 ∨ 4294967295 < n) :
    Calls Try.prog 15 #[.int .i64 n] w fun e w' => e = .returned (.int .i64 (flipI n)) ∧ w' = w := by
  rw [flipI_no n h]
  rcases h with h | h
  · go_enter Try.func15, Try.ntmps15
    go_wp2
    go_ret
    exact ⟨rfl, rfl⟩
  · have h0 : 0 ≤ n := by omega
    have h' : ¬ n ≤ 4294967295 := by omega
    go_enter Try.func15, Try.ntmps15
    go_wp2
    go_ret
    exact ⟨rfl, rfl⟩

theorem spec_flip_yes (n : Int) (w : World) (h1 : 0 ≤ n) (h2 : n ≤ 4294967295) :
    Calls Try.prog 15 #[.int .i64 n] w fun e w' => e = .returned (.int .i64 (flipI n)) ∧ w' = w := by
  obtain ⟨m, rfl⟩ := Int.eq_ofNat_of_zero_le h1
  rw [flipI_nat m (by omega)]
  go_enter Try.func15, Try.ntmps15
  go_wp2
  go_loop [0, 3, 4] (fun n out i => ∃ k o q : Nat, k ≤ 32 ∧ i = .int .i64 k ∧ out = .int .i64 o ∧ n = .int .i64 q ∧ Hid (o = revTo m k ∧ q = m / 2 ^ k)) (fun _ _ i => 32 - (intOf i).toNat)
  case atStart => exact ⟨0, 0, m, Nat.zero_le _, rfl, rfl, rfl, ⟨rfl, by simp⟩⟩
  case round =>
    obtain ⟨k, o, q, hk, rfl, rfl, rfl, HS⟩ := hrel
    have ho : o < 4294967296 := by rw [HS.out.1]; exact Nat.lt_of_lt_of_le (revTo_lt m k) (Nat.pow_le_pow_right (by decide) hk)
    have hq : q < 4294967296 := by rw [HS.out.2]; exact Nat.lt_of_le_of_lt (Nat.div_le_self _ _) (by omega)
    by_cases hlt : k < 32
    · go_wp2
      go_round
      case rel => exact ⟨k + 1, o * 2 + q % 2, q / 2, by omega, by go_num, by go_num, by go_num, ⟨by rw [HS.out.1, HS.out.2]; rfl, by rw [HS.out.2, Nat.pow_succ, Nat.div_div_eq_div_mul]⟩⟩
      case measure => simp [intOf]; omega
    · have hk2 : Hid (k = 32) := (by omega : k = 32)
      go_wp2
      go_ret
      exact ⟨ret_int (by rw [HS.out.1, hk2.out]), rfl⟩

theorem spec_flip (n : Int) (w : World) : Calls Try.prog 15 #[.int .i64 n] w fun e w' => e = .returned (.int .i64 (flipI n)) ∧ w' = w := by
  by_cases h : 0 ≤ n ∧ n ≤ 4294967295
  · exact spec_flip_yes n w h.1 h.2
  · exact spec_flip_no n w (by omega)
theorem spec_order (n : Int) (w : World) : Calls Try.prog 17 #[.int .i64 n] w fun e w' => e = .returned (.int .i64 (orderI n)) ∧ w' = w := by
  by_cases h1 : 0 ≤ n
  · by_cases h2 : n ≤ 4294967295
    · rw [orderI_yes n h1 h2]
      obtain ⟨b1, b2⟩ := flipI_bd n
      go_enter Try.func17, Try.ntmps17
      go_wp2_with (first | (go_at_call 15; refine (spec_flip _ _).mono ?_; rintro e w' ⟨rfl, rfl⟩) | go_in)
      go_ret
      exact ⟨rfl, rfl⟩
    · rw [orderI_no n (by omega)]
      go_enter Try.func17, Try.ntmps17
      go_wp2
      go_ret
      exact ⟨rfl, rfl⟩
  · rw [orderI_no n (by omega)]
    go_enter Try.func17, Try.ntmps17
    go_wp2
    go_ret
    exact ⟨rfl, rfl⟩

theorem spec_dummy (n : Int) (w : World) : Calls Try.prog 19 #[.int .i64 n] w fun e w' => e = .returned (.int .i64 (dummyI n)) ∧ w' = w := by
  obtain ⟨b1, b2⟩ := flipI_bd n
  unfold dummyI
  go_enter Try.func19, Try.ntmps19
  go_wp2_with (first | (go_at_call 15; refine (spec_flip _ _).mono ?_; rintro e w' ⟨rfl, rfl⟩))
  go_ret
  exact ⟨rfl, rfl⟩

end Go.Proofs.Ytjcbgegdccaoaaf
