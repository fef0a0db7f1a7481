/- Words: packed, taken apart; the next tag: contracts of the model and of the program, each in one form for all ints. -/
import Derived.Test.YtabcmnoadoebpaaRows
import Derived.WalkKit
import Derived.ProofKit
import Derived.OpenShut
import Derived.ShutString
namespace Go.Proofs.Ytabcmnoadoebpaa
open Go.ChangeShapes Go.WideShapes Go.ChangeAt Go.RowKit
set_option linter.unusedVariables false

theorem spec_unpack_yes (a : Int) (w : World) (h1 : 0 ≤ a) (hx : a ≤ 9223372036854775807) (h2 : a / 1048576 ≤ 1073741823) :
    Calls Try.prog 62 #[.int .i64 a] w fun e w' => e = .returned (.tuple #[.int .i64 (a / 1048576), .int .i64 (a % 1048576), .bool true]) ∧ w' = w := by
  go_enter Try.func62, Try.ntmps62
  go_wp2
  go_ret3
  exact ⟨rfl, rfl⟩

theorem spec_unpack_high (a : Int) (w : World) (h1 : 0 ≤ a) (hx : a ≤ 9223372036854775807) (h2 : 1073741823 < a / 1048576) :
    Calls Try.prog 62 #[.int .i64 a] w fun e w' => e = .returned (.tuple #[.int .i64 0, .int .i64 0, .bool false]) ∧ w' = w := by
  go_enter Try.func62, Try.ntmps62
  go_wp2
  go_ret3
  exact ⟨rfl, rfl⟩

theorem spec_unpack_low (a : Int) (w : World) (h1 : a < 0) :
    Calls Try.prog 62 #[.int .i64 a] w fun e w' => e = .returned (.tuple #[.int .i64 0, .int .i64 0, .bool false]) ∧ w' = w := by
  go_enter Try.func62, Try.ntmps62
  go_wp2
  go_ret3
  exact ⟨rfl, rfl⟩

theorem impl_unpack_yes (a : Int) (w : World) (h1 : 0 ≤ a) (hx : a ≤ 9223372036854775807) (h2 : a / 1048576 ≤ 1073741823) :
    Calls Try.prog 37 #[.int .i64 a] w fun e w' => e = .returned (.tuple #[.int .i64 (a / 1048576), .int .i64 (a % 1048576), .bool true]) ∧ w' = w := by
  have m1 : 0 ≤ a % 1048576 := by omega
  have m2 : a % 1048576 ≤ 1048575 := by omega
  go_enter Try.func37, Try.ntmps37
  go_wp2
  go_ret3
  exact ⟨rfl, rfl⟩

theorem impl_unpack_high (a : Int) (w : World) (h1 : 0 ≤ a) (hx : a ≤ 9223372036854775807) (h2 : 1073741823 < a / 1048576) :
    Calls Try.prog 37 #[.int .i64 a] w fun e w' => e = .returned (.tuple #[.int .i64 0, .int .i64 0, .bool false]) ∧ w' = w := by
  have m1 : 0 ≤ a % 1048576 := by omega
  have m2 : a % 1048576 ≤ 1048575 := by omega
  go_enter Try.func37, Try.ntmps37
  go_wp2
  go_ret3
  exact ⟨rfl, rfl⟩

theorem low_div (a : Int) (h : a < 0) : a.tdiv 1048576 ≤ 0 ∧ a.tmod 1048576 ≤ 0 ∧ (a.tdiv 1048576 < 0 ∨ a.tmod 1048576 < 0) := by
  obtain ⟨b, rfl⟩ : ∃ b : Int, a = -b := ⟨-a, by omega⟩
  rw [Int.neg_tdiv, Int.neg_tmod, Int.tdiv_eq_ediv_of_nonneg (by omega), Int.tmod_eq_emod_of_nonneg (by omega)]
  omega

theorem impl_unpack_low (a : Int) (w : World) (h1 : a < 0) (hm : -9223372036854775808 ≤ a) :
    Calls Try.prog 37 #[.int .i64 a] w fun e w' => e = .returned (.tuple #[.int .i64 0, .int .i64 0, .bool false]) ∧ w' = w := by
  obtain ⟨d1, d2, d3⟩ := low_div a h1
  by_cases d4 : a.tdiv 1048576 < 0
  · clear d3
    go_enter Try.func37, Try.ntmps37
    go_wp2
    go_ret3
    exact ⟨rfl, rfl⟩
  · have d5 : a.tmod 1048576 < 0 := by omega
    clear d3
    go_enter Try.func37, Try.ntmps37
    go_wp2
    go_ret3
    exact ⟨rfl, rfl⟩


def unB (x : Int) : Bool := decide (0 ≤ x ∧ x / 1048576 ≤ 1073741823)
def unT (x : Int) : Int := if unB x = true then x / 1048576 else 0
def unI (x : Int) : Int := if unB x = true then x % 1048576 else 0
theorem un_bd (x : Int) : 0 ≤ unT x ∧ unT x ≤ 1073741823 ∧ 0 ≤ unI x ∧ unI x ≤ 1048575 := by
  unfold unT unI
  by_cases h : unB x = true
  · rw [if_pos h, if_pos h]
    have := of_decide_eq_true h
    omega
  · rw [if_neg h, if_neg h]; omega
def pkB (t i : Int) : Bool := decide (0 ≤ t ∧ t ≤ 1073741823 ∧ 0 ≤ i ∧ i ≤ 1048575)
def pkW (t i : Int) : Int := if pkB t i = true then t * 1048576 + i else 0
theorem pk_bd (t i : Int) : 0 ≤ pkW t i ∧ pkW t i ≤ 1125899906842623 := by
  unfold pkW
  by_cases h : pkB t i = true
  · rw [if_pos h]
    have := of_decide_eq_true h
    omega
  · rw [if_neg h]; omega
def ntT (t : Int) : Int := if 0 ≤ t ∧ t ≤ 1073741822 then t + 1 else 0
theorem nt_bd (t : Int) : 0 ≤ ntT t ∧ ntT t ≤ 1073741823 := by unfold ntT; split <;> omega
theorem ret3 {a b a' b' : Int} {c c' : Bool} (h1 : a = a') (h2 : b = b') (h3 : c = c') : Ending.returned (.tuple #[.int .i64 a, .int .i64 b, .bool c]) = .returned (.tuple #[.int .i64 a', .int .i64 b', .bool c']) := by rw [h1, h2, h3]
theorem ret2 {a a' : Int} {c c' : Bool} (h1 : a = a') (h3 : c = c') : Ending.returned (.tuple #[.int .i64 a, .bool c]) = .returned (.tuple #[.int .i64 a', .bool c']) := by rw [h1, h3]
theorem ret_int {k : IntKind} {a b : Int} (h : a = b) : Ending.returned (.int k a) = .returned (.int k b) := by rw [h]
theorem spec_unpack (x : Int) (w : World) (l : -9223372036854775808 ≤ x) (u : x ≤ 9223372036854775807) :
    Calls Try.prog 62 #[.int .i64 x] w fun e w' => e = .returned (.tuple #[.int .i64 (unT x), .int .i64 (unI x), .bool (unB x)]) ∧ w' = w := by
  by_cases c1 : 0 ≤ x
  · by_cases c2 : x / 1048576 ≤ 1073741823
    · have h : unB x = true := decide_eq_true ⟨c1, c2⟩
      refine (spec_unpack_yes x w c1 u c2).mono ?_
      rintro e w' ⟨rfl, rfl⟩
      exact ⟨ret3 (by unfold unT; rw [if_pos h]) (by unfold unI; rw [if_pos h]) h.symm, rfl⟩
    · have h : unB x = false := decide_eq_false (by omega)
      refine (spec_unpack_high x w c1 u (by omega)).mono ?_
      rintro e w' ⟨rfl, rfl⟩
      exact ⟨ret3 (by unfold unT; rw [h]; rfl) (by unfold unI; rw [h]; rfl) h.symm, rfl⟩
  · have h : unB x = false := decide_eq_false (by omega)
    refine (spec_unpack_low x w (by omega)).mono ?_
    rintro e w' ⟨rfl, rfl⟩
    exact ⟨ret3 (by unfold unT; rw [h]; rfl) (by unfold unI; rw [h]; rfl) h.symm, rfl⟩
theorem spec_pack (t i : Int) (w : World) :
    Calls Try.prog 52 #[.int .i64 t, .int .i64 i] w fun e w' => e = .returned (.tuple #[.int .i64 (pkW t i), .bool (pkB t i)]) ∧ w' = w := by
  by_cases h : 0 ≤ t ∧ t ≤ 1073741823 ∧ 0 ≤ i ∧ i ≤ 1048575
  · have hb : pkB t i = true := decide_eq_true h
    have hw : pkW t i = t * 1048576 + i := by unfold pkW; rw [if_pos hb]
    rw [hb, hw]
    obtain ⟨h1, h2, h3, h4⟩ := h
    clear hb hw
    go_enter Try.func52, Try.ntmps52
    go_wp2
    go_ret2
    exact ⟨ret2 rfl rfl, rfl⟩
  · have hb : pkB t i = false := decide_eq_false h
    have hw : pkW t i = 0 := by unfold pkW; rw [hb]; rfl
    rw [hb, hw]
    clear hb hw
    by_cases c1 : 0 ≤ t
    · by_cases c2 : t ≤ 1073741823
      · by_cases c3 : 0 ≤ i
        · have c4 : decide (i ≤ 1048575) = false := decide_eq_false (by omega)
          clear h
          go_enter Try.func52, Try.ntmps52
          go_wp2
          go_ret2
          exact ⟨rfl, rfl⟩
        · clear h
          go_enter Try.func52, Try.ntmps52
          go_wp2
          go_ret2
          exact ⟨rfl, rfl⟩
      · clear h
        go_enter Try.func52, Try.ntmps52
        go_wp2
        go_ret2
        exact ⟨rfl, rfl⟩
    · clear h
      go_enter Try.func52, Try.ntmps52
      go_wp2
      go_ret2
      exact ⟨rfl, rfl⟩
theorem spec_nexttag (t : Int) (w : World) :
    Calls Try.prog 53 #[.int .i64 t] w fun e w' => e = .returned (.int .i64 (ntT t)) ∧ w' = w := by
  by_cases h : 0 ≤ t ∧ t ≤ 1073741822
  · have hw : ntT t = t + 1 := by unfold ntT; rw [if_pos h]
    rw [hw]
    obtain ⟨h1, h2⟩ := h
    clear hw
    go_enter Try.func53, Try.ntmps53
    go_wp2
    go_ret
    exact ⟨rfl, rfl⟩
  · have hw : ntT t = 0 := by unfold ntT; rw [if_neg h]
    rw [hw]
    clear hw
    by_cases c1 : 0 ≤ t
    · by_cases c3 : t ≤ 1073741823
      · have c4 : t = 1073741823 := by omega
        subst c4
        clear h c1 c3
        go_enter Try.func53, Try.ntmps53
        go_wp2
        go_ret
        exact ⟨rfl, rfl⟩
      · have c4 : decide (t ≤ 1073741822) = false := decide_eq_false (by omega)
        clear h
        go_enter Try.func53, Try.ntmps53
        go_wp2
        go_ret
        exact ⟨rfl, rfl⟩
    · clear h
      go_enter Try.func53, Try.ntmps53
      go_wp2
      go_ret
      exact ⟨rfl, rfl⟩
theorem impl_unpack (x : Int) (w : World) (l : -9223372036854775808 ≤ x) (u : x ≤ 9223372036854775807) :
    Calls Try.prog 37 #[.int .i64 x] w fun e w' => e = .returned (.tuple #[.int .i64 (unT x), .int .i64 (unI x), .bool (unB x)]) ∧ w' = w := by
  by_cases c1 : 0 ≤ x
  · by_cases c2 : x / 1048576 ≤ 1073741823
    · have h : unB x = true := decide_eq_true ⟨c1, c2⟩
      refine (impl_unpack_yes x w c1 u c2).mono ?_
      rintro e w' ⟨rfl, rfl⟩
      exact ⟨ret3 (by unfold unT; rw [if_pos h]) (by unfold unI; rw [if_pos h]) h.symm, rfl⟩
    · have h : unB x = false := decide_eq_false (by omega)
      refine (impl_unpack_high x w c1 u (by omega)).mono ?_
      rintro e w' ⟨rfl, rfl⟩
      exact ⟨ret3 (by unfold unT; rw [h]; rfl) (by unfold unI; rw [h]; rfl) h.symm, rfl⟩
  · have h : unB x = false := decide_eq_false (by omega)
    refine (impl_unpack_low x w (by omega) (by omega)).mono ?_
    rintro e w' ⟨rfl, rfl⟩
    exact ⟨ret3 (by unfold unT; rw [h]; rfl) (by unfold unI; rw [h]; rfl) h.symm, rfl⟩
theorem impl_pack (t i : Int) (w : World) :
    Calls Try.prog 80 #[.int .i64 t, .int .i64 i] w fun e w' => e = .returned (.tuple #[.int .i64 (pkW t i), .bool (pkB t i)]) ∧ w' = w := by
  by_cases h : 0 ≤ t ∧ t ≤ 1073741823 ∧ 0 ≤ i ∧ i ≤ 1048575
  · have hb : pkB t i = true := decide_eq_true h
    have hw : pkW t i = t * 1048576 + i := by unfold pkW; rw [if_pos hb]
    rw [hb, hw]
    obtain ⟨h1, h2, h3, h4⟩ := h
    clear hb hw
    go_enter Try.func80, Try.ntmps80
    go_wp2
    go_ret2
    exact ⟨ret2 rfl rfl, rfl⟩
  · have hb : pkB t i = false := decide_eq_false h
    have hw : pkW t i = 0 := by unfold pkW; rw [hb]; rfl
    rw [hb, hw]
    clear hb hw
    by_cases c1 : 0 ≤ t
    · by_cases c2 : t ≤ 1073741823
      · by_cases c3 : 0 ≤ i
        · have c4 : decide (i ≤ 1048575) = false := decide_eq_false (by omega)
          clear h
          go_enter Try.func80, Try.ntmps80
          go_wp2
          go_ret2
          exact ⟨rfl, rfl⟩
        · clear h
          go_enter Try.func80, Try.ntmps80
          go_wp2
          go_ret2
          exact ⟨rfl, rfl⟩
      · clear h
        go_enter Try.func80, Try.ntmps80
        go_wp2
        go_ret2
        exact ⟨rfl, rfl⟩
    · clear h
      go_enter Try.func80, Try.ntmps80
      go_wp2
      go_ret2
      exact ⟨rfl, rfl⟩
theorem impl_nexttag (t : Int) (w : World) :
    Calls Try.prog 81 #[.int .i64 t] w fun e w' => e = .returned (.int .i64 (ntT t)) ∧ w' = w := by
  by_cases h : 0 ≤ t ∧ t ≤ 1073741822
  · have hw : ntT t = t + 1 := by unfold ntT; rw [if_pos h]
    rw [hw]
    obtain ⟨h1, h2⟩ := h
    clear hw
    go_enter Try.func81, Try.ntmps81
    go_wp2
    go_ret
    exact ⟨rfl, rfl⟩
  · have hw : ntT t = 0 := by unfold ntT; rw [if_neg h]
    rw [hw]
    clear hw
    by_cases c1 : 0 ≤ t
    · by_cases c3 : t ≤ 1073741823
      · have c4 : t = 1073741823 := by omega
        subst c4
        clear h c1 c3
        go_enter Try.func81, Try.ntmps81
        go_wp2
        go_ret
        exact ⟨rfl, rfl⟩
      · clear h
        go_enter Try.func81, Try.ntmps81
        go_wp2
        go_ret
        exact ⟨rfl, rfl⟩
    · clear h
      go_enter Try.func81, Try.ntmps81
      go_wp2
      go_ret
      exact ⟨rfl, rfl⟩

end Go.Proofs.Ytabcmnoadoebpaa
