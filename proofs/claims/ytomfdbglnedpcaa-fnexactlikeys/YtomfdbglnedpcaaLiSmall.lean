/- Small functions of the list, by the model and by the program: links, nodes, marks, cells. -/
import Derived.Test.YtomfdbglnedpcaaRows
import Derived.WalkKit
import Derived.ProofKit
import Derived.OpenShut
import Derived.ShutString
import Derived.Test.YtomfdbglnedpcaaLiPlain
import Derived.Test.YtomfdbglnedpcaaStackSpec1
namespace Go.Proofs.Ytomfdbglnedpcaa
open Go.ChangeShapes Go.WideShapes Go.ChangeAt Go.RowKit
set_option linter.unusedVariables false

theorem and_bit (x : Int) : bits BinOp.and IntKind.i64 x 1 = x % 2 := by
  show IntKind.i64.wrap ((BitVec.ofInt 64 x &&& BitVec.ofInt 64 1).toNat : Int) = _
  have h1 : (BitVec.ofInt 64 x &&& BitVec.ofInt 64 1).toNat = (x % 2).toNat := by
    rw [BitVec.toNat_and, BitVec.toNat_ofInt, show (BitVec.ofInt 64 1).toNat = 1 from by decide, Nat.and_one_is_mod]
    omega
  rw [h1, IntKind.wrap_i64]
  omega
theorem spec_lnode (x : Int) (w : World) (h0 : 0 ≤ x) (hx2 : x ≤ 9223372036854775807) :
    Calls Try.prog 46 #[.int .i64 x] w fun e w' => e = .returned (.int .i64 (x / 2 - 1)) ∧ w' = w := by
  go_enter Try.func46, Try.ntmps46
  go_wp2
  go_ret
  exact ⟨rfl, rfl⟩
theorem impl_lnode (x : Int) (w : World) (h0 : 0 ≤ x) (hx2 : x ≤ 9223372036854775807) :
    Calls Try.prog 66 #[.int .i64 x] w fun e w' => e = .returned (.int .i64 (x / 2 - 1)) ∧ w' = w := by
  go_enter Try.func66, Try.ntmps66
  go_wp2
  go_ret
  exact ⟨rfl, rfl⟩
theorem spec_link (n x : Int) (w : World) (hx1 : -9223372036854775808 ≤ x) (hx2 : x ≤ 9223372036854775807) :
    Calls Try.prog 54 #[.int .i64 n, .int .i64 x] w fun e w' => e = .returned (.bool (lnkB n x)) ∧ w' = w := by
  by_cases h1 : 0 ≤ x
  · have hb : lnkB n x = decide (x / 2 ≤ n) := by unfold lnkB; simp [h1]
    rw [hb]
    clear hb
    go_enter Try.func54, Try.ntmps54
    go_wp2
    go_ret
    exact ⟨rfl, rfl⟩
  · have hb : lnkB n x = false := decide_eq_false (by omega)
    rw [hb]
    clear hb
    go_enter Try.func54, Try.ntmps54
    go_wp2
    go_ret
    exact ⟨rfl, rfl⟩
theorem impl_link (n x : Int) (w : World) (hx1 : -9223372036854775808 ≤ x) (hx2 : x ≤ 9223372036854775807) :
    Calls Try.prog 61 #[.int .i64 n, .int .i64 x] w fun e w' => e = .returned (.bool (lnkB n x)) ∧ w' = w := by
  by_cases h1 : 0 ≤ x
  · have hb : lnkB n x = decide (x / 2 - 1 < n) := by
      unfold lnkB
      rw [decide_eq_decide]
      omega
    rw [hb]
    clear hb
    go_enter Try.func61, Try.ntmps61
    go_wp2_with fail
    refine (impl_lnode x _ h1 hx2).mono ?_
    rintro e w1 ⟨rfl, rfl⟩
    go_wp2
    go_ret
    exact ⟨rfl, rfl⟩
  · have hb : lnkB n x = false := decide_eq_false (by omega)
    rw [hb]
    clear hb
    go_enter Try.func61, Try.ntmps61
    go_wp2
    go_ret
    exact ⟨rfl, rfl⟩
theorem spec_there (n x : Int) (w : World) (hx1 : -9223372036854775808 ≤ x) (hx2 : x ≤ 9223372036854775807) :
    Calls Try.prog 63 #[.int .i64 n, .int .i64 x] w fun e w' => e = .returned (.bool (thrB n x)) ∧ w' = w := by
  cases hl : lnkB n x
  · have hb : thrB n x = false := by unfold thrB; rw [hl]; rfl
    have HL := hidIt hl
    rw [hb]
    clear hb hl
    go_enter Try.func63, Try.ntmps63
    go_wp2_with fail
    refine (spec_link n x _ hx1 hx2).mono ?_
    rintro e w1 ⟨rfl, rfl⟩
    rw [HL.out]
    go_wp2
    go_ret
    exact ⟨rfl, rfl⟩
  · have hb : thrB n x = decide (1 ≤ x / 2) := by unfold thrB; rw [hl]; rfl
    have h0 := lnkB_of hl
    obtain ⟨h0, h1⟩ := h0
    have HL := hidIt hl
    rw [hb]
    clear hb hl
    go_enter Try.func63, Try.ntmps63
    go_wp2_with fail
    refine (spec_link n x _ hx1 hx2).mono ?_
    rintro e w1 ⟨rfl, rfl⟩
    rw [HL.out]
    go_wp2
    go_ret
    exact ⟨rfl, rfl⟩
theorem impl_marked (x : Int) (w : World) :
    Calls Try.prog 69 #[.int .i64 x] w fun e w' => e = .returned (.bool (x % 2 == 1)) ∧ w' = w := by
  go_enter Try.func69, Try.ntmps69
  go_wp2
  go_ret
  exact ⟨by simp [and_bit], rfl⟩
theorem impl_keycell (k : Int) (w : World) (h1 : 0 ≤ k) (h2 : k ≤ 1048576) :
    Calls Try.prog 70 #[.int .i64 k] w fun e w' => e = .returned (.int .i64 (1 + 2 * k)) ∧ w' = w := by
  go_enter Try.func70, Try.ntmps70
  go_wp2
  go_ret
  exact ⟨rfl, rfl⟩
theorem impl_linkcell (k : Int) (w : World) (h1 : 0 ≤ k) (h2 : k ≤ 1048576) :
    Calls Try.prog 68 #[.int .i64 k] w fun e w' => e = .returned (.int .i64 (2 + 2 * k)) ∧ w' = w := by
  go_enter Try.func68, Try.ntmps68
  go_wp2
  go_ret
  exact ⟨rfl, rfl⟩

end Go.Proofs.Ytomfdbglnedpcaa
