/- Whether cells are a ring's, by the program. -/
import Derived.Test.YtehgacidfepomaaRows
import Derived.WalkKit
import Derived.ProofKit
import Derived.OpenShut
import Derived.ShutString
import Derived.Test.YtehgacidfepomaaRiMod
import Derived.Test.YtehgacidfepomaaMemFns
namespace Go.Proofs.Ytehgacidfepomaa
open Go.ChangeShapes Go.WideShapes Go.ChangeAt Go.RowKit
set_option linter.unusedVariables false

def rngB (n : Int) (m : Nat) : Bool := rzB n && decide ((m : Int) = 2 + 2 * n)
theorem impl_isring (n : Int) (a : Option Addr) (m c : Nat) (w : World) :
    Calls Try.prog 65 #[.int .i64 n, .agg #[.slice a m c]] w fun e w' => e = .returned (.bool (rngB n m)) ∧ Below w.heap.size w w' := by
  by_cases hz : rzB n = true
  · have hb : 2 ≤ n ∧ n ≤ 16 := of_decide_eq_true hz
    obtain ⟨n1, n2⟩ := hb
    have HZ := hidIt hz
    by_cases he : (m : Int) = 2 + 2 * n
    · have e1 : rngB n m = true := by unfold rngB; simp [hz, he]
      have e2 : ((m : Int) == 2 + 2 * n) = true := by simpa using he
      rw [e1]
      clear e1 he hz
      go_enter Try.func65, Try.ntmps65
      go_wp2_with fail
      refine (impl_rsize n _).mono ?_
      rintro e w1 ⟨rfl, rfl⟩
      rw [HZ.out]
      go_wp2
      go_ret
      exact ⟨by simp, (Below.refl _ _).alloc (Nat.le_refl _) _⟩
    · have e1 : rngB n m = false := by unfold rngB; simp [he]
      have e2 : ((m : Int) == 2 + 2 * n) = false := by simpa using he
      rw [e1]
      clear e1 he hz
      go_enter Try.func65, Try.ntmps65
      go_wp2_with fail
      refine (impl_rsize n _).mono ?_
      rintro e w1 ⟨rfl, rfl⟩
      rw [HZ.out]
      go_wp2
      go_ret
      exact ⟨by simp, (Below.refl _ _).alloc (Nat.le_refl _) _⟩
  · have e1 : rngB n m = false := by unfold rngB; simp [hz]
    have hz : rzB n = false := by simpa using hz
    rw [e1]
    clear e1
    go_enter Try.func65, Try.ntmps65
    go_wp2_with fail
    refine (impl_rsize n _).mono ?_
    rintro e w1 ⟨rfl, rfl⟩
    rw [hz]
    go_wp2
    go_ret
    exact ⟨rfl, (Below.refl _ _).alloc (Nat.le_refl _) _⟩

end Go.Proofs.Ytehgacidfepomaa
