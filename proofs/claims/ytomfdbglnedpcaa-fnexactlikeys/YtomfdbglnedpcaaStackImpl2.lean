/- Small functions of the program's stack: is it a stack, is it a place, a place's cell; a list that has a number. -/
import Derived.Test.YtomfdbglnedpcaaRows
import Derived.WalkKit
import Derived.ProofKit
import Derived.OpenShut
import Derived.ShutString
import Derived.Test.YtomfdbglnedpcaaStItemsPlain
import Derived.Test.YtomfdbglnedpcaaStackImpl1
import Derived.Test.YtomfdbglnedpcaaCellOfFns
namespace Go.Proofs.Ytomfdbglnedpcaa
open Go.ChangeShapes Go.WideShapes Go.ChangeAt Go.RowKit
set_option linter.unusedVariables false

def stkB (n : Int) (m : Nat) : Bool := szB n && decide ((m : Int) = 1 + n)
def plcB (n k : Int) : Bool := decide (0 ≤ k ∧ k < n)
theorem impl_isplace (n k : Int) (w : World) :
    Calls Try.prog 82 #[.int .i64 n, .int .i64 k] w fun e w' => e = .returned (.bool (plcB n k)) ∧ w' = w := by
  by_cases h1 : 0 ≤ k
  · by_cases h2 : k < n
    · have hb : plcB n k = true := decide_eq_true ⟨h1, h2⟩
      rw [hb]
      clear hb
      go_enter Try.func82, Try.ntmps82
      go_wp2
      go_ret
      simp
    · have hb : plcB n k = false := decide_eq_false (by omega)
      rw [hb]
      clear hb
      go_enter Try.func82, Try.ntmps82
      go_wp2
      go_ret
      simp
  · have hb : plcB n k = false := decide_eq_false (by omega)
    rw [hb]
    clear hb
    go_enter Try.func82, Try.ntmps82
    go_wp2
    go_ret
    exact ⟨rfl, rfl⟩
theorem impl_contains (lo hi : Nat) (v : Value) (xs : List Int) (y : Int) (w : World) (hn : xs.length ≤ 4194304) (r : Row w lo hi v (ints xs)) :
    Calls Try.prog 67 #[v, .int .i64 y] w fun e w' => e = .returned (.bool (hasN xs y)) ∧ w' = w := by
  by_cases h0 : 0 < xs.length
  · obtain ⟨g, c, rfl, g1, g2, g3, g4⟩ := r.ofSome h0
    refine (Try.slices_Contains_int g 0 xs.length c xs y w (Nat.le_refl _) (by omega) (fun j hj => by rw [Nat.zero_add, g3 j hj]; simp [hj])).mono ?_
    rintro e w' ⟨rfl, rfl⟩
    exact ⟨ret_boolx (by unfold hasN; rw [List.take_length]; simp), rfl⟩
  · obtain rfl : xs = [] := List.length_eq_zero_iff.1 (by omega)
    obtain ⟨a, c, rfl⟩ := r.form
    refine (Try.slices_Contains_int_empty a c y w).mono ?_
    rintro e w' ⟨rfl, rfl⟩
    exact ⟨ret_boolx (by simp [hasN]), rfl⟩

end Go.Proofs.Ytomfdbglnedpcaa
