/- Sizes of rings and numbers modulo them, by the model and by the program. -/
import Derived.Test.YtpfofjcfaelocaaRows
import Derived.WalkKit
import Derived.ProofKit
import Derived.OpenShut
import Derived.ShutString
import Derived.Test.YtpfofjcfaelocaaRiPlain
import Derived.Test.YtpfofjcfaelocaaBasePlain
namespace Go.Proofs.Ytpfofjcfaelocaa
open Go.ChangeShapes Go.WideShapes Go.ChangeAt Go.RowKit
set_option linter.unusedVariables false

theorem mod_at {k n : Int} (hn : 1 ≤ n) (h : 0 ≤ k.tmod n) : k % n = k.tmod n := by
  have lt := Int.tmod_lt_of_pos k (show 0 < n by omega)
  rw [← Int.emod_eq_of_lt h lt]
  rw [Int.tmod_def, Int.sub_mul_emod_self_left]
theorem mod_below {k n : Int} (hn : 1 ≤ n) (h : k.tmod n < 0) : k % n = k.tmod n + n := by
  have l2 : -n < k.tmod n := Int.lt_tmod_of_pos k (show 0 < n by omega)
  rw [← Int.emod_eq_of_lt (a := k.tmod n + n) (b := n) (by omega) (by omega)]
  rw [Int.add_emod_right, Int.tmod_def, Int.sub_mul_emod_self_left]
theorem spec_rsize (n : Int) (w : World) :
    Calls Try.prog 46 #[.int .i64 n] w fun e w' => e = .returned (.bool (rzB n)) ∧ w' = w := by
  by_cases h1 : 2 ≤ n
  · by_cases h2 : n ≤ 16
    · have hb : rzB n = true := decide_eq_true ⟨h1, h2⟩
      rw [hb]
      clear hb
      go_enter Try.func46, Try.ntmps46
      go_wp2
      go_ret
      simp
    · have hb : rzB n = false := decide_eq_false (by omega)
      rw [hb]
      clear hb
      go_enter Try.func46, Try.ntmps46
      go_wp2
      go_ret
      simp
  · have hb : rzB n = false := decide_eq_false (by omega)
    rw [hb]
    clear hb
    go_enter Try.func46, Try.ntmps46
    go_wp2
    go_ret
    exact ⟨rfl, rfl⟩
theorem impl_rsize (n : Int) (w : World) :
    Calls Try.prog 49 #[.int .i64 n] w fun e w' => e = .returned (.bool (rzB n)) ∧ w' = w := by
  by_cases h1 : 2 ≤ n
  · by_cases h2 : n ≤ 16
    · have hb : rzB n = true := decide_eq_true ⟨h1, h2⟩
      rw [hb]
      clear hb
      go_enter Try.func49, Try.ntmps49
      go_wp2
      go_ret
      simp
    · have hb : rzB n = false := decide_eq_false (by omega)
      rw [hb]
      clear hb
      go_enter Try.func49, Try.ntmps49
      go_wp2
      go_ret
      simp
  · have hb : rzB n = false := decide_eq_false (by omega)
    rw [hb]
    clear hb
    go_enter Try.func49, Try.ntmps49
    go_wp2
    go_ret
    exact ⟨rfl, rfl⟩
theorem impl_mod (k n : Int) (w : World) (h : rzB n = true) :
    Calls Try.prog 57 #[.int .i64 k, .int .i64 n] w fun e w' => e = .returned (.int .i64 (k % n)) ∧ w' = w := by
  have h : 2 ≤ n ∧ n ≤ 16 := of_decide_eq_true h
  obtain ⟨h1, h2⟩ := h
  have c1 : 1 ≤ n := by omega
  by_cases c2 : 0 ≤ k
  · have m1 : 0 ≤ k % n := Int.emod_nonneg k (by omega)
    go_enter Try.func57, Try.ntmps57
    go_wp2
    go_ret
    exact ⟨rfl, rfl⟩
  · have lt := Int.emod_lt_of_pos k (show 0 < n by omega)
    have ge := Int.emod_nonneg k (show n ≠ 0 by omega)
    by_cases c3 : k.tmod n < 0
    · have e : k % n = k.tmod n + n := mod_below c1 c3
      rw [e] at lt ge ⊢
      clear e
      go_enter Try.func57, Try.ntmps57
      go_wp2
      go_ret
      exact ⟨rfl, rfl⟩
    · have e : k % n = k.tmod n := mod_at c1 (by omega)
      rw [e]
      clear e lt ge
      go_enter Try.func57, Try.ntmps57
      go_wp2
      go_ret
      exact ⟨rfl, rfl⟩
theorem impl_seq (n k : Int) (w : World) (h : rzB n = true) :
    Calls Try.prog 50 #[.int .i64 n, .int .i64 k] w fun e w' => e = .returned (.int .i64 (rsq n k)) ∧ w' = w := by
  have hb := rsq_bd k h
  have h' : 2 ≤ n ∧ n ≤ 16 := of_decide_eq_true h
  unfold rsq at hb ⊢
  have ge : 0 ≤ k % n := by omega
  have lt : k % n < 16 := by omega
  have H := hidIt h
  clear h hb
  generalize hm : k % n = m at ge lt ⊢
  have HM := hidIt hm
  clear hm
  go_enter Try.func50, Try.ntmps50
  go_wp2_with fail
  refine (impl_mod k n _ H.out).mono ?_
  rintro e w1 ⟨rfl, rfl⟩
  rw [HM.out]
  go_wp2
  go_ret
  exact ⟨rfl, rfl⟩

end Go.Proofs.Ytpfofjcfaelocaa
