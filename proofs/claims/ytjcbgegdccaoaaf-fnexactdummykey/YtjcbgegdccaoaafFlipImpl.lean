/- Flip, OrderKey and DummyKey of the program. -/
import Derived.Test.YtjcbgegdccaoaafRows
import Derived.WalkKit
import Derived.ProofKit
import Derived.OpenShut
import Derived.ShutString
import Derived.Test.YtjcbgegdccaoaafFlipPlain
namespace Go.Proofs.Ytjcbgegdccaoaaf
open Go.ChangeShapes Go.WideShapes Go.ChangeAt Go.RowKit
set_option linter.unusedVariables false

theorem rev32_any (x : Int) (w : World) (h1 : 0 ≤ x) (h2 : x ≤ 4294967295) :
    Calls Try.prog 26 #[.int .u32 x] w fun e w' => e = .returned (.int .u32 (revI x)) ∧ w' = w := by
  go_enter Try.func26, Try.ntmps26
  go_wp2
  go_ret
  exact ⟨rfl, rfl⟩

theorem impl_flip_no (n : Int) (w : World) (h : n < 0 ∨ 4294967295 < n) :
    Calls Try.prog 16 #[.int .i64 n] w fun e w' => e = .returned (.int .i64 (flipI n)) ∧ w' = w := by
  rw [flipI_no n h]
  rcases h with h | h
  · go_enter Try.func16, Try.ntmps16
    go_wp2
    go_ret
    exact ⟨rfl, rfl⟩
  · have h0 : 0 ≤ n := by omega
    have h' : ¬ n ≤ 4294967295 := by omega
    go_enter Try.func16, Try.ntmps16
    go_wp2
    go_ret
    exact ⟨rfl, rfl⟩

theorem impl_flip_yes (n : Int) (w : World) (h1 : 0 ≤ n) (h2 : n ≤ 4294967295) :
    Calls Try.prog 16 #[.int .i64 n] w fun e w' => e = .returned (.int .i64 (flipI n)) ∧ w' = w := by
  have hr : Hid (revI n = flipI n) := by
    have := revI_flip n.toNat (by omega)
    rwa [Int.toNat_of_nonneg h1] at this
  have hb : 0 ≤ revI n ∧ revI n ≤ 4294967295 := by rw [hr.out]; exact flipI_bd n
  obtain ⟨b1, b2⟩ := hb
  go_enter Try.func16, Try.ntmps16
  go_wp2_with (first | (go_at_call 26; refine (rev32_any _ _ (by omega) (by omega)).mono ?_; rintro e w' ⟨rfl, rfl⟩) | go_in)
  go_ret
  exact ⟨ret_int hr.out, rfl⟩

theorem impl_flip (n : Int) (w : World) : Calls Try.prog 16 #[.int .i64 n] w fun e w' => e = .returned (.int .i64 (flipI n)) ∧ w' = w := by
  by_cases h : 0 ≤ n ∧ n ≤ 4294967295
  · exact impl_flip_yes n w h.1 h.2
  · exact impl_flip_no n w (by omega)

theorem impl_order (n : Int) (w : World) : Calls Try.prog 18 #[.int .i64 n] w fun e w' => e = .returned (.int .i64 (orderI n)) ∧ w' = w := by
  by_cases h1 : 0 ≤ n
  · by_cases h2 : n ≤ 4294967295
    · rw [orderI_yes n h1 h2]
      obtain ⟨b1, b2⟩ := flipI_bd n
      go_enter Try.func18, Try.ntmps18
      go_wp2_with (first | (go_at_call 16; refine (impl_flip _ _).mono ?_; rintro e w' ⟨rfl, rfl⟩) | go_in)
      go_ret
      exact ⟨ret_int (i64_or1 _ b1 b2), rfl⟩
    · rw [orderI_no n (by omega)]
      go_enter Try.func18, Try.ntmps18
      go_wp2
      go_ret
      exact ⟨rfl, rfl⟩
  · rw [orderI_no n (by omega)]
    go_enter Try.func18, Try.ntmps18
    go_wp2
    go_ret
    exact ⟨rfl, rfl⟩

theorem impl_dummy (n : Int) (w : World) : Calls Try.prog 20 #[.int .i64 n] w fun e w' => e = .returned (.int .i64 (dummyI n)) ∧ w' = w := by
  obtain ⟨b1, b2⟩ := flipI_bd n
  unfold dummyI
  go_enter Try.func20, Try.ntmps20
  go_wp2_with (first | (go_at_call 16; refine (impl_flip _ _).mono ?_; rintro e w' ⟨rfl, rfl⟩))
  go_ret
  exact ⟨ret_int (i64_andNot1 _ b1 b2), rfl⟩

end Go.Proofs.Ytjcbgegdccaoaaf
