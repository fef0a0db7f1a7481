/- Words: packed, taken apart; the next tag: contracts of the model and of the program, each in one form for all ints. -/
import Derived.Test.YtikliofkplbdpaaRows
import Derived.WalkKit
import Derived.ProofKit
import Derived.OpenShut
import Derived.ShutString
namespace Go.Proofs.Ytikliofkplbdpaa
open Go.ChangeShapes Go.WideShapes Go.ChangeAt Go.RowKit
set_option linter.unusedVariables false

theorem low_div (a : Int) (h : a < 0) : a.tdiv 1048576 ≤ 0 ∧ a.tmod 1048576 ≤ 0 ∧ (a.tdiv 1048576 < 0 ∨ a.tmod 1048576 < 0) := by
  obtain ⟨b, rfl⟩ : ∃ b : Int, a = -b := ⟨-a, by omega⟩
  rw [Int.neg_tdiv, Int.neg_tmod, Int.tdiv_eq_ediv_of_nonneg (by omega), Int.tmod_eq_emod_of_nonneg (by omega)]
  omega

def unB (x : Int) : Bool := decide (0 ≤ x ∧ x / 1048576 ≤ 1073741823)
def unT (x : Int) : Int := if unB x = true then x / 1048576 else 0
def unI (x : Int) : Int := if unB x = true then x % 1048576 else 0
theorem un_bd (x : Int) : 0 ≤ unT x ∧ unT x ≤ 1073741823 ∧ 0 ≤ unI x ∧ unI x ≤ 1048575 := by
  unfold unT unI
  by_cases h : unB x = true
  · rw [if_pos h, if_pos h]
    have := of_decide_eq_true h
    omega
  · rw [if_neg h, if_neg h]; omega
def pkB (t i : Int) : Bool := decide (0 ≤ t ∧ t ≤ 1073741823 ∧ 0 ≤ i ∧ i ≤ 1048575)
def pkW (t i : Int) : Int := if pkB t i = true then t * 1048576 + i else 0
theorem pk_bd (t i : Int) : 0 ≤ pkW t i ∧ pkW t i ≤ 1125899906842623 := by
  unfold pkW
  by_cases h : pkB t i = true
  · rw [if_pos h]
    have := of_decide_eq_true h
    omega
  · rw [if_neg h]; omega
def ntT (t : Int) : Int := if 0 ≤ t ∧ t ≤ 1073741822 then t + 1 else 0
theorem nt_bd (t : Int) : 0 ≤ ntT t ∧ ntT t ≤ 1073741823 := by unfold ntT; split <;> omega
theorem ret3 {a b a' b' : Int} {c c' : Bool} (h1 : a = a') (h2 : b = b') (h3 : c = c') : Ending.returned (.tuple #[.int .i64 a, .int .i64 b, .bool c]) = .returned (.tuple #[.int .i64 a', .int .i64 b', .bool c']) := by rw [h1, h2, h3]
theorem ret2 {a a' : Int} {c c' : Bool} (h1 : a = a') (h3 : c = c') : Ending.returned (.tuple #[.int .i64 a, .bool c]) = .returned (.tuple #[.int .i64 a', .bool c']) := by rw [h1, h3]
theorem ret_int {k : IntKind} {a b : Int} (h : a = b) : Ending.returned (.int k a) = .returned (.int k b) := by rw [h]

end Go.Proofs.Ytikliofkplbdpaa
