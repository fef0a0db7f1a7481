/- Parent of the model. -/
import Derived.Test.YtjcbgegdccaoaagRows
import Derived.WalkKit
import Derived.ProofKit
import Derived.OpenShut
import Derived.ShutString
import Derived.Test.YtjcbgegdccaoaagParentPlain
namespace Go.Proofs.Ytjcbgegdccaoaag
open Go.ChangeShapes Go.WideShapes Go.ChangeAt Go.RowKit
set_option linter.unusedVariables false

theorem spec_parent_yes (n : Int) (w : World) (h1 : 1 ≤ n) (h2 : n ≤ 4294967295) :
    Calls Try.prog 10 #[.int .i64 n] w fun e w' => e = .returned (.int .i64 (parentI n)) ∧ w' = w := by
  rw [parentI_yes n h1 h2]
  obtain ⟨m, rfl⟩ := Int.eq_ofNat_of_zero_le (by omega : 0 ≤ n)
  rw [Int.toNat_natCast]
  go_enter Try.func10, Try.ntmps10
  go_wp2
  go_loop [3] (fun t => ∃ k b : Nat, t = .int .i64 b ∧ 1 ≤ b ∧ b ≤ m ∧ Hid (b = 2 ^ k)) (fun t => m - (intOf t).toNat)
  case atStart => exact ⟨0, 1, rfl, Nat.le_refl _, by omega, rfl⟩
  case round =>
    obtain ⟨k, b, rfl, hb1, hb2, HB⟩ := hrel
    by_cases hlt : b * 2 ≤ m
    · go_wp2
      go_round
      case rel => exact ⟨k + 1, b * 2, by go_num, by omega, hlt, by rw [HB.out, Nat.pow_succ]; rfl⟩
      case measure => simp [intOf]; omega
    · have HK : Hid (Lib.bitLen m - 1 = k) := by
        have hb := HB.out
        exact top_bit m k (by omega) (by rw [Nat.pow_succ]; omega) (by omega)
      go_wp2
      go_ret
      exact ⟨ret_intp (by rw [HK.out, HB.out]; simp), rfl⟩

theorem spec_parent (n : Int) (w : World) :
    Calls Try.prog 10 #[.int .i64 n] w fun e w' => e = .returned (.int .i64 (parentI n)) ∧ w' = w := by
  by_cases h1 : 1 ≤ n
  · by_cases h2 : n ≤ 4294967295
    · exact spec_parent_yes n w h1 h2
    · rw [parentI_no n (by omega)]
      go_enter Try.func10, Try.ntmps10
      go_wp2
      go_ret
      exact ⟨rfl, rfl⟩
  · rw [parentI_no n (by omega)]
    go_enter Try.func10, Try.ntmps10
    go_wp2
    go_ret
    exact ⟨rfl, rfl⟩

end Go.Proofs.Ytjcbgegdccaoaag
