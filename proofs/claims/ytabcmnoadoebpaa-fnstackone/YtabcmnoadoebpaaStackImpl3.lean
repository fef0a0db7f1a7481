/- Words as the program's stack takes them; the cas of the head. -/
import Derived.Test.YtabcmnoadoebpaaRows
import Derived.WalkKit
import Derived.ProofKit
import Derived.OpenShut
import Derived.ShutString
import Derived.Test.YtabcmnoadoebpaaStackImpl2
import Derived.Test.YtabcmnoadoebpaaStStepPlain
namespace Go.Proofs.Ytabcmnoadoebpaa
open Go.ChangeShapes Go.WideShapes Go.ChangeAt Go.RowKit
set_option linter.unusedVariables false

theorem impl_wordindex (x : Int) (w : World) (l : -9223372036854775808 ≤ x) (u : x ≤ 9223372036854775807) :
    Calls Try.prog 73 #[.int .i64 x] w fun e w' => e = .returned (.int .i64 (unI x)) ∧ w' = w := by
  go_enter Try.func73, Try.ntmps73
  go_wp2_with fail
  refine (impl_unpack x _ l u).mono ?_
  rintro e w1 ⟨rfl, rfl⟩
  go_wp2
  go_ret
  exact ⟨rfl, rfl⟩
theorem impl_wordor0 (x : Int) (w : World) (l : -9223372036854775808 ≤ x) (u : x ≤ 9223372036854775807) :
    Calls Try.prog 72 #[.int .i64 x] w fun e w' => e = .returned (.int .i64 (stHead x)) ∧ w' = w := by
  by_cases h : unB x = true
  · have e1 : stHead x = x := by unfold stHead; rw [if_pos h]
    rw [e1]
    clear e1
    go_enter Try.func72, Try.ntmps72
    go_wp2_with fail
    refine (impl_unpack x _ l u).mono ?_
    rintro e w1 ⟨rfl, rfl⟩
    rw [h]
    go_wp2
    go_ret
    exact ⟨rfl, rfl⟩
  · have e1 : stHead x = 0 := by unfold stHead; rw [if_neg h]
    rw [e1]
    clear e1
    have h : unB x = false := by simpa using h
    go_enter Try.func72, Try.ntmps72
    go_wp2_with fail
    refine (impl_unpack x _ l u).mono ?_
    rintro e w1 ⟨rfl, rfl⟩
    rw [h]
    go_wp2
    go_ret
    exact ⟨rfl, rfl⟩
theorem impl_isindex (x : Int) (w : World) :
    Calls Try.prog 66 #[.int .i64 x] w fun e w' => e = .returned (.bool (decide (0 ≤ x ∧ x ≤ 1048575))) ∧ w' = w := by
  by_cases h1 : 0 ≤ x
  · by_cases h2 : x ≤ 1048575
    · have hb : decide (0 ≤ x ∧ x ≤ 1048575) = true := decide_eq_true ⟨h1, h2⟩
      rw [hb]
      clear hb
      go_enter Try.func66, Try.ntmps66
      go_wp2
      go_ret
      simp
    · have hb : decide (0 ≤ x ∧ x ≤ 1048575) = false := decide_eq_false (by omega)
      rw [hb]
      clear hb
      go_enter Try.func66, Try.ntmps66
      go_wp2
      go_ret
      simp
  · have hb : decide (0 ≤ x ∧ x ≤ 1048575) = false := decide_eq_false (by omega)
    rw [hb]
    clear hb
    go_enter Try.func66, Try.ntmps66
    go_wp2
    go_ret
    exact ⟨rfl, rfl⟩
theorem impl_indexor0 (x : Int) (w : World) :
    Calls Try.prog 75 #[.int .i64 x] w fun e w' => e = .returned (.int .i64 (inIx x)) ∧ w' = w := by
  by_cases h : 0 ≤ x ∧ x ≤ 1048575
  · have e1 : inIx x = x := by unfold inIx; rw [if_pos h]
    have hb := decide_eq_true h
    rw [e1]
    clear e1 h
    go_enter Try.func75, Try.ntmps75
    go_wp2_with fail
    refine (impl_isindex x _).mono ?_
    rintro e w1 ⟨rfl, rfl⟩
    rw [hb]
    go_wp2
    go_ret
    exact ⟨rfl, rfl⟩
  · have e1 : inIx x = 0 := by unfold inIx; rw [if_neg h]
    have hb := decide_eq_false h
    rw [e1]
    clear e1 h
    go_enter Try.func75, Try.ntmps75
    go_wp2_with fail
    refine (impl_isindex x _).mono ?_
    rintro e w1 ⟨rfl, rfl⟩
    rw [hb]
    go_wp2
    go_ret
    exact ⟨rfl, rfl⟩
theorem inIx_bd (x : Int) : 0 ≤ inIx x ∧ inIx x ≤ 1048575 := by unfold inIx; split <;> omega
def casW (x i : Int) : Int := pkW (ntT (unT x)) i
set_option maxRecDepth 100000 in
theorem impl_headcas (x i : Int) (w : World) (l : -9223372036854775808 ≤ x) (u : x ≤ 9223372036854775807) (i1 : 0 ≤ i) (i2 : i ≤ 1048575) :
    Calls Try.prog 74 #[.int .i64 x, .int .i64 i] w fun e w' => e = .returned (.tuple #[.agg #[.int .i64 3, .int .i64 0, .int .i64 x, .int .i64 (casW x i)], .bool true]) ∧ Below w.heap.size w w' := by
  have hp : pkB (ntT (unT x)) i = true := decide_eq_true ⟨(nt_bd _).1, (nt_bd _).2, i1, i2⟩
  unfold casW
  go_enter Try.func74, Try.ntmps74
  go_wp2_with fail
  refine (impl_unpack x _ l u).mono ?_
  rintro e w1 ⟨rfl, rfl⟩
  go_wp2_with fail
  refine (impl_nexttag _ _).mono ?_
  rintro e w1 ⟨rfl, rfl⟩
  go_wp2_with fail
  refine (impl_pack _ _ _).mono ?_
  rintro e w1 ⟨rfl, rfl⟩
  rw [hp]
  go_wp2
  exact bodyPost_ret (v := .tuple #[.agg #[.int .i64 3, .int .i64 0, .int .i64 x, .int .i64 (pkW (ntT (unT x)) i)], .bool true]) (by simp [results, Try.results74, go_sem]) rfl ⟨rfl, by repeat (first | exact Below.refl _ _ | refine Below.setCell ?_ (by simp <;> omega) _ | refine Below.alloc ?_ (by simp <;> omega) _)⟩

end Go.Proofs.Ytabcmnoadoebpaa
