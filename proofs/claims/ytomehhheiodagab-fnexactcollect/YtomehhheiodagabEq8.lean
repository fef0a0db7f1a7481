/- Arrays of eight numbers held against that of nobody pinned. -/
import Derived.Test.YtomehhheiodagabRows
import Derived.WalkKit
import Derived.ProofKit
import Derived.OpenShut
import Derived.ShutString
import Derived.Test.YtomehhheiodagabUpTo
import Derived.Test.YtomehhheiodagabOpenMem
import Derived.ChangeKeysEq
namespace Go.Proofs.Ytomehhheiodagab
open Go.ChangeShapes Go.WideShapes Go.ChangeAt Go.RowKit
set_option linter.unusedVariables false

theorem if_and {α : Type} (b c : Bool) (w : World) : (if (!b) = true then Result.ok false w else Result.ok c w : Result Bool) = .ok (b && c) w := by cases b <;> rfl
def all8 (y : Nat → Int) : Bool := (y 0 == -1) && ((y 1 == -1) && ((y 2 == -1) && ((y 3 == -1) && ((y 4 == -1) && ((y 5 == -1) && ((y 6 == -1) && ((y 7 == -1) && true)))))))
theorem part8_0 (y : Nat → Int) (w : World) : (part 3 #[.int .i64 (y 0), .int .i64 (y 1), .int .i64 (y 2), .int .i64 (y 3), .int .i64 (y 4), .int .i64 (y 5), .int .i64 (y 6), .int .i64 (y 7)] (0 * 1)).run Try.prog w = .ok (.int .i64 (y 0)) w := by kernel_rfl
theorem none8_0 (w : World) : (part 3 #[.int .i64 (-1), .int .i64 (-1), .int .i64 (-1), .int .i64 (-1), .int .i64 (-1), .int .i64 (-1), .int .i64 (-1), .int .i64 (-1)] (0 * 1)).run Try.prog w = .ok (.int .i64 (-1)) w := by kernel_rfl
theorem part8_1 (y : Nat → Int) (w : World) : (part 3 #[.int .i64 (y 0), .int .i64 (y 1), .int .i64 (y 2), .int .i64 (y 3), .int .i64 (y 4), .int .i64 (y 5), .int .i64 (y 6), .int .i64 (y 7)] (1 * 1)).run Try.prog w = .ok (.int .i64 (y 1)) w := by kernel_rfl
theorem none8_1 (w : World) : (part 3 #[.int .i64 (-1), .int .i64 (-1), .int .i64 (-1), .int .i64 (-1), .int .i64 (-1), .int .i64 (-1), .int .i64 (-1), .int .i64 (-1)] (1 * 1)).run Try.prog w = .ok (.int .i64 (-1)) w := by kernel_rfl
theorem part8_2 (y : Nat → Int) (w : World) : (part 3 #[.int .i64 (y 0), .int .i64 (y 1), .int .i64 (y 2), .int .i64 (y 3), .int .i64 (y 4), .int .i64 (y 5), .int .i64 (y 6), .int .i64 (y 7)] (2 * 1)).run Try.prog w = .ok (.int .i64 (y 2)) w := by kernel_rfl
theorem none8_2 (w : World) : (part 3 #[.int .i64 (-1), .int .i64 (-1), .int .i64 (-1), .int .i64 (-1), .int .i64 (-1), .int .i64 (-1), .int .i64 (-1), .int .i64 (-1)] (2 * 1)).run Try.prog w = .ok (.int .i64 (-1)) w := by kernel_rfl
theorem part8_3 (y : Nat → Int) (w : World) : (part 3 #[.int .i64 (y 0), .int .i64 (y 1), .int .i64 (y 2), .int .i64 (y 3), .int .i64 (y 4), .int .i64 (y 5), .int .i64 (y 6), .int .i64 (y 7)] (3 * 1)).run Try.prog w = .ok (.int .i64 (y 3)) w := by kernel_rfl
theorem none8_3 (w : World) : (part 3 #[.int .i64 (-1), .int .i64 (-1), .int .i64 (-1), .int .i64 (-1), .int .i64 (-1), .int .i64 (-1), .int .i64 (-1), .int .i64 (-1)] (3 * 1)).run Try.prog w = .ok (.int .i64 (-1)) w := by kernel_rfl
theorem part8_4 (y : Nat → Int) (w : World) : (part 3 #[.int .i64 (y 0), .int .i64 (y 1), .int .i64 (y 2), .int .i64 (y 3), .int .i64 (y 4), .int .i64 (y 5), .int .i64 (y 6), .int .i64 (y 7)] (4 * 1)).run Try.prog w = .ok (.int .i64 (y 4)) w := by kernel_rfl
theorem none8_4 (w : World) : (part 3 #[.int .i64 (-1), .int .i64 (-1), .int .i64 (-1), .int .i64 (-1), .int .i64 (-1), .int .i64 (-1), .int .i64 (-1), .int .i64 (-1)] (4 * 1)).run Try.prog w = .ok (.int .i64 (-1)) w := by kernel_rfl
theorem part8_5 (y : Nat → Int) (w : World) : (part 3 #[.int .i64 (y 0), .int .i64 (y 1), .int .i64 (y 2), .int .i64 (y 3), .int .i64 (y 4), .int .i64 (y 5), .int .i64 (y 6), .int .i64 (y 7)] (5 * 1)).run Try.prog w = .ok (.int .i64 (y 5)) w := by kernel_rfl
theorem none8_5 (w : World) : (part 3 #[.int .i64 (-1), .int .i64 (-1), .int .i64 (-1), .int .i64 (-1), .int .i64 (-1), .int .i64 (-1), .int .i64 (-1), .int .i64 (-1)] (5 * 1)).run Try.prog w = .ok (.int .i64 (-1)) w := by kernel_rfl
theorem part8_6 (y : Nat → Int) (w : World) : (part 3 #[.int .i64 (y 0), .int .i64 (y 1), .int .i64 (y 2), .int .i64 (y 3), .int .i64 (y 4), .int .i64 (y 5), .int .i64 (y 6), .int .i64 (y 7)] (6 * 1)).run Try.prog w = .ok (.int .i64 (y 6)) w := by kernel_rfl
theorem none8_6 (w : World) : (part 3 #[.int .i64 (-1), .int .i64 (-1), .int .i64 (-1), .int .i64 (-1), .int .i64 (-1), .int .i64 (-1), .int .i64 (-1), .int .i64 (-1)] (6 * 1)).run Try.prog w = .ok (.int .i64 (-1)) w := by kernel_rfl
theorem part8_7 (y : Nat → Int) (w : World) : (part 3 #[.int .i64 (y 0), .int .i64 (y 1), .int .i64 (y 2), .int .i64 (y 3), .int .i64 (y 4), .int .i64 (y 5), .int .i64 (y 6), .int .i64 (y 7)] (7 * 1)).run Try.prog w = .ok (.int .i64 (y 7)) w := by kernel_rfl
theorem none8_7 (w : World) : (part 3 #[.int .i64 (-1), .int .i64 (-1), .int .i64 (-1), .int .i64 (-1), .int .i64 (-1), .int .i64 (-1), .int .i64 (-1), .int .i64 (-1)] (7 * 1)).run Try.prog w = .ok (.int .i64 (-1)) w := by kernel_rfl
theorem eq_int1 (a b : Int) (w : World) : (Op.equalIn 9999 3 (.int .i64 a) (.int .i64 b)).run Try.prog w = .ok (a == b) w := by
  first | exact run_equalIn_int w 9998 _ _ _ _ _ Try.underlying3 | exact run_equalIn_int 9998 _ _ _ _ _ Try.underlying3
theorem equal8 (y : Nat → Int) (w : World) : (Op.equalIn 10000 58 (.agg #[.int .i64 (y 0), .int .i64 (y 1), .int .i64 (y 2), .int .i64 (y 3), .int .i64 (y 4), .int .i64 (y 5), .int .i64 (y 6), .int .i64 (y 7)]) (.agg #[.int .i64 (-1), .int .i64 (-1), .int .i64 (-1), .int .i64 (-1), .int .i64 (-1), .int .i64 (-1), .int .i64 (-1), .int .i64 (-1)])).run Try.prog w = .ok (all8 y) w := by
  obtain ⟨i1, hi1, -, -, -⟩ := info_parts info3
  rw [run_equalIn_array w 9999 _ _ Try.underlying58 hi1, cells3]
  have hr : List.range 8 = [0, 1, 2, 3, 4, 5, 6, 7] := rfl
  rw [hr]
  simp only [Op.eqItems, Sem.run_bind, Result.andThen_ok, part8_0, none8_0, part8_1, none8_1, part8_2, none8_2, part8_3, none8_3, part8_4, none8_4, part8_5, none8_5, part8_6, none8_6, part8_7, none8_7, eq_int1, Sem.run_ite, Sem.run_pure]
  unfold all8
  generalize (y 0 == -1) = b0
  generalize (y 1 == -1) = b1
  generalize (y 2 == -1) = b2
  generalize (y 3 == -1) = b3
  generalize (y 4 == -1) = b4
  generalize (y 5 == -1) = b5
  generalize (y 6 == -1) = b6
  generalize (y 7 == -1) = b7
  cases b0 <;> (try rfl) <;> cases b1 <;> (try rfl) <;> cases b2 <;> (try rfl) <;> cases b3 <;> (try rfl) <;> cases b4 <;> (try rfl) <;> cases b5 <;> (try rfl) <;> cases b6 <;> (try rfl) <;> cases b7 <;> rfl

end Go.Proofs.Ytomehhheiodagab
