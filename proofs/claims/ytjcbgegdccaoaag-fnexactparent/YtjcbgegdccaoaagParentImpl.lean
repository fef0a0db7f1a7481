/- Parent of the program. -/
import Derived.Test.YtjcbgegdccaoaagRows
import Derived.WalkKit
import Derived.ProofKit
import Derived.OpenShut
import Derived.ShutString
import Derived.Test.YtjcbgegdccaoaagParentPlain
import Derived.Test.YtjcbgegdccaoaagShelf
namespace Go.Proofs.Ytjcbgegdccaoaag
open Go.ChangeShapes Go.WideShapes Go.ChangeAt Go.RowKit
set_option linter.unusedVariables false

theorem impl_parent_yes (n : Int) (w : World) (h1 : 1 ≤ n) (h2 : n ≤ 4294967295) :
    Calls Try.prog 11 #[.int .i64 n] w fun e w' => e = .returned (.int .i64 (parentI n)) ∧ w' = w := by
  have HW : Hid (wrap64 (n - wrap64 (2 ^ (Lib.bitLen n.toNat - 1))) = parentI n) := wrap_parent n h1 h2
  obtain ⟨c1, c2, _⟩ := bitLen_bd n.toNat (by omega) (by omega)
  have b1 : (1 : Int) ≤ ((Lib.bitLen n.toNat : Nat) : Int) := by omega
  have b2 : ((Lib.bitLen n.toNat : Nat) : Int) ≤ 32 := by omega
  clear c1 c2
  go_enter Try.func11, Try.ntmps11
  go_wp2_with (first | (go_at_call 24; refine (Try.bits_Len32 _ _ (by omega) (by omega)).mono ?_; rintro e w' ⟨rfl, rfl⟩) | go_in)
  go_ret
  exact ⟨ret_intp HW.out, rfl⟩

theorem impl_parent (n : Int) (w : World) :
    Calls Try.prog 11 #[.int .i64 n] w fun e w' => e = .returned (.int .i64 (parentI n)) ∧ w' = w := by
  by_cases h1 : 0 ≤ n
  · by_cases h2 : n ≤ 4294967295
    · by_cases h3 : n = 0
      · subst h3
        rw [parentI_no 0 (by omega)]
        go_enter Try.func11, Try.ntmps11
        go_wp2
        go_ret
        exact ⟨rfl, rfl⟩
      · exact impl_parent_yes n w (by omega) h2
    · rw [parentI_no n (by omega)]
      go_enter Try.func11, Try.ntmps11
      go_wp2
      go_ret
      exact ⟨rfl, rfl⟩
  · rw [parentI_no n (by omega)]
    go_enter Try.func11, Try.ntmps11
    go_wp2
    go_ret
    exact ⟨rfl, rfl⟩

end Go.Proofs.Ytjcbgegdccaoaag
