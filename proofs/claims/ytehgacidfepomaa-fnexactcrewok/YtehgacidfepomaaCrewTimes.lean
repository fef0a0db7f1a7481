/- When a call began and ended: both sides; calls held against one another as structs. -/
import Derived.Test.YtehgacidfepomaaRows
import Derived.WalkKit
import Derived.ProofKit
import Derived.OpenShut
import Derived.ShutString
import Derived.Test.YtehgacidfepomaaCrewOkPlain
namespace Go.Proofs.Ytehgacidfepomaa
open Go.ChangeShapes Go.WideShapes Go.ChangeAt Go.RowKit
set_option linter.unusedVariables false

def leastB (c : Cl) : Int := if c.d = true ∨ c.pc ≠ 0 then 0 else -1
def timesB (clock : Int) (c : Cl) (b e : Int) : Bool := inB b (leastB c) (clock - 1) && (c.d == decide (e ≠ -1)) && inB e (-1) (clock - 1)
theorem call_same (c : Cl) (w : World) : (Go.binOp .neq 62 (.agg #[.int .i64 c.k, .int .i64 c.a, .int .i64 c.x, .int .i64 c.pc, .int .i64 c.p, .int .i64 c.c, .int .i64 c.w, .int .i64 c.r, .int .i64 c.v, .bool c.d]) (.agg #[.int .i64 c.k, .int .i64 c.a, .int .i64 c.x, .int .i64 c.pc, .int .i64 c.p, .int .i64 c.c, .int .i64 c.w, .int .i64 c.r, .int .i64 c.v, .bool c.d])).run Try.prog w = .ok (.bool false) w := by
  go_simp
theorem call_diff (c b : Cl) (w : World) (h : c ≠ b) : (Go.binOp .neq 62 (.agg #[.int .i64 c.k, .int .i64 c.a, .int .i64 c.x, .int .i64 c.pc, .int .i64 c.p, .int .i64 c.c, .int .i64 c.w, .int .i64 c.r, .int .i64 c.v, .bool c.d]) (.agg #[.int .i64 b.k, .int .i64 b.a, .int .i64 b.x, .int .i64 b.pc, .int .i64 b.p, .int .i64 b.c, .int .i64 b.w, .int .i64 b.r, .int .i64 b.v, .bool b.d])).run Try.prog w = .ok (.bool true) w := by
  go_simp
  intro h0 h1 h2 h3 h4 h5 h6 h7 h8 h9
  apply h
  cases c
  cases b
  simp_all
def pastB (s c : Int) : Bool := decide (0 ≤ s) && decide (s < c)
theorem past_iff (s c : Int) : pastB s c = true ↔ 0 ≤ s ∧ s < c := by simp [pastB]
theorem past_no (s c : Int) : pastB s c = false ↔ ¬ (0 ≤ s ∧ s < c) := by rw [← past_iff]; simp
theorem times_iff (clock : Int) (c : Cl) (b e : Int) : timesB clock c b e = true ↔ (leastB c ≤ b ∧ b ≤ clock - 1) ∧ (c.d = true ↔ e ≠ -1) ∧ -1 ≤ e ∧ e ≤ clock - 1 := by
  unfold timesB inB
  cases c.d <;> simp [and_assoc]
theorem times_d (clock : Int) (c : Cl) (b e : Int) (h0 : 0 ≤ clock) (hd : c.d = true) : timesB clock c b e = (pastB b clock && pastB e clock) := by
  rw [Bool.eq_iff_iff, times_iff, Bool.and_eq_true, past_iff, past_iff, hd, show leastB c = 0 from if_pos (.inl hd)]
  simp
  omega
theorem times_n (clock : Int) (c : Cl) (b e : Int) (h0 : 0 ≤ clock) (hd : c.d = false) : timesB clock c b e = ((pastB b clock || (decide (b = -1) && decide (c.pc = 0))) && decide (e = -1)) := by
  rw [Bool.eq_iff_iff, times_iff, Bool.and_eq_true, Bool.or_eq_true, Bool.and_eq_true, past_iff, hd, decide_eq_true_eq, decide_eq_true_eq, decide_eq_true_eq]
  by_cases hp : c.pc = 0
  · rw [show leastB c = -1 from if_neg (by simp [hd, hp])]
    simp [hp]
    omega
  · rw [show leastB c = 0 from if_pos (.inr hp)]
    simp [hp]
    omega
set_option maxHeartbeats 800000 in
set_option maxRecDepth 100000 in
theorem impl_times (clock : Int) (c : Cl) (b e : Int) (w : World) (h0 : 0 ≤ clock) :
    Calls Try.prog 67 #[.agg #[.int .i64 c.k, .int .i64 c.a, .int .i64 c.x, .int .i64 c.pc, .int .i64 c.p, .int .i64 c.c, .int .i64 c.w, .int .i64 c.r, .int .i64 c.v, .bool c.d], .int .i64 b, .int .i64 e, .int .i64 clock] w fun x w' => x = .returned (.bool (timesB clock c b e)) ∧ Below w.heap.size w w' := by
  have HP := hidIt (fun s (w : World) => impl_ispast s clock w)
  by_cases hd : c.d = true
  · rw [times_d clock c b e h0 hd]
    obtain ⟨k, a, x, pc, p, cc, cw, r, v, d⟩ := c
    simp only at hd
    subst hd
    cases hb : pastB b clock
    · have HB := hidIt hb
      clear hb h0
      rw [Bool.false_and]
      go_enter Try.func67, Try.ntmps67
      go_wp2_with fail
      refine (HP.out b _).mono ?_
      rintro x w' ⟨rfl, rfl⟩
      rw [show (decide (0 ≤ b) && decide (b < clock)) = false from HB.out]
      go_wp2
      go_ret
      exact ⟨rfl, (Below.refl _ _).alloc (Nat.le_refl _) _⟩
    · have HB := hidIt hb
      clear hb h0
      rw [Bool.true_and]
      generalize hq : pastB e clock = q
      have HE := hidIt hq
      clear hq
      go_enter Try.func67, Try.ntmps67
      go_wp2_with fail
      refine (HP.out b _).mono ?_
      rintro x w' ⟨rfl, rfl⟩
      rw [show (decide (0 ≤ b) && decide (b < clock)) = true from HB.out]
      go_wp2_with fail
      refine (HP.out e _).mono ?_
      rintro x w' ⟨rfl, rfl⟩
      rw [show (decide (0 ≤ e) && decide (e < clock)) = q from HE.out]
      go_wp2
      go_ret
      exact ⟨rfl, (Below.refl _ _).alloc (Nat.le_refl _) _⟩
  · have hd' : c.d = false := by simpa using hd
    rw [times_n clock c b e h0 hd']
    clear hd
    obtain ⟨k, a, x, pc, p, cc, cw, r, v, d⟩ := c
    simp only at hd'
    subst hd'
    cases hb : pastB b clock
    · have HB := hidIt hb
      clear hb h0
      by_cases h1 : b = -1
      · subst h1
        by_cases h2 : pc = 0
        · subst h2
          simp only [decide_true, Bool.and_true, Bool.or_true, Bool.true_and]
          go_enter Try.func67, Try.ntmps67
          go_wp2_with fail
          refine (HP.out _ _).mono ?_
          rintro x w' ⟨rfl, rfl⟩
          rw [show (decide (0 ≤ (-1 : Int)) && decide (-1 < clock)) = false from HB.out]
          go_wp2
          go_ret
          exact ⟨ret_boolx (by rw [Bool.eq_iff_iff]; simp), (Below.refl _ _).alloc (Nat.le_refl _) _⟩
        · have e2 : (pc == 0) = false := by simpa using h2
          simp only [decide_eq_false h2, Bool.and_false, Bool.or_false, Bool.false_and]
          clear h2
          go_enter Try.func67, Try.ntmps67
          go_wp2_with fail
          refine (HP.out _ _).mono ?_
          rintro x w' ⟨rfl, rfl⟩
          rw [show (decide (0 ≤ (-1 : Int)) && decide (-1 < clock)) = false from HB.out]
          go_wp2
          go_ret
          exact ⟨rfl, (Below.refl _ _).alloc (Nat.le_refl _) _⟩
      · have e1 : (b == -1) = false := by simpa using h1
        simp only [decide_eq_false h1, Bool.false_and, Bool.or_false]
        clear h1
        go_enter Try.func67, Try.ntmps67
        go_wp2_with fail
        refine (HP.out _ _).mono ?_
        rintro x w' ⟨rfl, rfl⟩
        rw [show (decide (0 ≤ b) && decide (b < clock)) = false from HB.out]
        go_wp2
        go_ret
        exact ⟨rfl, (Below.refl _ _).alloc (Nat.le_refl _) _⟩
    · have HB := hidIt hb
      clear hb h0
      simp only [Bool.true_or, Bool.true_and]
      go_enter Try.func67, Try.ntmps67
      go_wp2_with fail
      refine (HP.out _ _).mono ?_
      rintro x w' ⟨rfl, rfl⟩
      rw [show (decide (0 ≤ b) && decide (b < clock)) = true from HB.out]
      go_wp2
      go_ret
      exact ⟨ret_boolx (by rw [Bool.eq_iff_iff]; simp), (Below.refl _ _).alloc (Nat.le_refl _) _⟩
set_option maxHeartbeats 800000 in
set_option maxRecDepth 100000 in
theorem spec_times (x0 x1 : Int) (vm vt : Value) (clock : Int) (c : Cl) (b e : Int) (w : World) (h0 : 0 ≤ clock) (hc : clock ≤ 9223372036854775807) :
    Calls Try.prog 63 #[.agg #[.int .i64 x0, .int .i64 x1, vm, vt, .int .i64 clock], .agg #[.int .i64 c.k, .int .i64 c.a, .int .i64 c.x, .int .i64 c.pc, .int .i64 c.p, .int .i64 c.c, .int .i64 c.w, .int .i64 c.r, .int .i64 c.v, .bool c.d], .int .i64 b, .int .i64 e] w fun x w' => x = .returned (.bool (timesB clock c b e)) ∧ Below w.heap.size w w' := by
  unfold timesB
  by_cases hd : c.d = true
  · rw [show leastB c = 0 from if_pos (.inl hd), hd]
    obtain ⟨k, a, x, pc, p, cc, cw, r, v, d⟩ := c
    simp only at hd
    subst hd
    · skip
      generalize hq1 : inB b 0 (clock - 1) = q1
      have HQ1 := hidIt hq1
      clear hq1
      cases q1
      · simp only [Bool.false_and]
        go_enter Try.func63, Try.ntmps63
        go_wp2_with fail
        refine (spec_in b 0 (clock - 1) _).mono ?_
        rintro x w' ⟨rfl, rfl⟩
        rw [HQ1.out]
        go_wp2
        go_ret
        exact ⟨rfl, ((Below.refl _ _).alloc (Nat.le_refl _) _).alloc (by simp) _⟩
      · simp only [Bool.true_and]
        by_cases he : e = -1
        · subst he
          have HQ2 := hidIt (show inB (-1) (-1) (clock - 1) = true from decide_eq_true (by omega))
          rw [HQ2.out]
          go_enter Try.func63, Try.ntmps63
          go_wp2_with fail
          refine (spec_in b 0 (clock - 1) _).mono ?_
          rintro x w' ⟨rfl, rfl⟩
          rw [HQ1.out]
          go_wp2
          go_ret
          exact ⟨rfl, ((Below.refl _ _).alloc (Nat.le_refl _) _).alloc (by simp) _⟩
        · have e1 : (e != -1) = true := by simpa using he
          rw [show decide (e ≠ -1) = true from decide_eq_true he]
          generalize hq2 : inB e (-1) (clock - 1) = q2
          have HQ2 := hidIt hq2
          clear hq2 he
          go_enter Try.func63, Try.ntmps63
          go_wp2_with fail
          refine (spec_in b 0 (clock - 1) _).mono ?_
          rintro x w' ⟨rfl, rfl⟩
          rw [HQ1.out]
          go_wp2_with fail
          refine (spec_in e (-1) (clock - 1) _).mono ?_
          rintro x w' ⟨rfl, rfl⟩
          rw [HQ2.out]
          go_wp2
          go_ret
          exact ⟨rfl, ((Below.refl _ _).alloc (Nat.le_refl _) _).alloc (by simp) _⟩
  · have hd' : c.d = false := by simpa using hd
    clear hd
    by_cases hp : c.pc = 0
    · rw [show leastB c = -1 from if_neg (by simp [hd', hp]), hd']
      obtain ⟨k, a, x, pc, p, cc, cw, r, v, d⟩ := c
      simp only at hd' hp
      subst hd' hp
      generalize hq1 : inB b (-1) (clock - 1) = q1
      have HQ1 := hidIt hq1
      clear hq1
      cases q1
      · simp only [Bool.false_and]
        go_enter Try.func63, Try.ntmps63
        go_wp2_with fail
        refine (spec_in b (-1) (clock - 1) _).mono ?_
        rintro x w' ⟨rfl, rfl⟩
        rw [HQ1.out]
        go_wp2
        go_ret
        exact ⟨rfl, ((Below.refl _ _).alloc (Nat.le_refl _) _).alloc (by simp) _⟩
      · simp only [Bool.true_and]
        by_cases he : e = -1
        · subst he
          have HQ2 := hidIt (show inB (-1) (-1) (clock - 1) = true from decide_eq_true (by omega))
          rw [HQ2.out]
          go_enter Try.func63, Try.ntmps63
          go_wp2_with fail
          refine (spec_in b (-1) (clock - 1) _).mono ?_
          rintro x w' ⟨rfl, rfl⟩
          rw [HQ1.out]
          go_wp2_with fail
          refine (spec_in (-1) (-1) (clock - 1) _).mono ?_
          rintro x w' ⟨rfl, rfl⟩
          rw [HQ2.out]
          go_wp2
          go_ret
          exact ⟨rfl, ((Below.refl _ _).alloc (Nat.le_refl _) _).alloc (by simp) _⟩
        · have e1 : (e != -1) = true := by simpa using he
          rw [show decide (e ≠ -1) = true from decide_eq_true he]
          generalize hq2 : inB e (-1) (clock - 1) = q2
          have HQ2 := hidIt hq2
          clear hq2 he
          go_enter Try.func63, Try.ntmps63
          go_wp2_with fail
          refine (spec_in b (-1) (clock - 1) _).mono ?_
          rintro x w' ⟨rfl, rfl⟩
          rw [HQ1.out]
          go_wp2
          go_ret
          exact ⟨rfl, ((Below.refl _ _).alloc (Nat.le_refl _) _).alloc (by simp) _⟩
    · rw [show leastB c = 0 from if_pos (.inr hp), hd']
      obtain ⟨k, a, x, pc, p, cc, cw, r, v, d⟩ := c
      simp only at hd' hp
      subst hd'
      have hp' : (pc != 0) = true := by simpa using hp
      generalize hq1 : inB b 0 (clock - 1) = q1
      have HQ1 := hidIt hq1
      clear hq1
      cases q1
      · simp only [Bool.false_and]
        go_enter Try.func63, Try.ntmps63
        go_wp2_with fail
        refine (spec_in b 0 (clock - 1) _).mono ?_
        rintro x w' ⟨rfl, rfl⟩
        rw [HQ1.out]
        go_wp2
        go_ret
        exact ⟨rfl, ((Below.refl _ _).alloc (Nat.le_refl _) _).alloc (by simp) _⟩
      · simp only [Bool.true_and]
        by_cases he : e = -1
        · subst he
          have HQ2 := hidIt (show inB (-1) (-1) (clock - 1) = true from decide_eq_true (by omega))
          rw [HQ2.out]
          go_enter Try.func63, Try.ntmps63
          go_wp2_with fail
          refine (spec_in b 0 (clock - 1) _).mono ?_
          rintro x w' ⟨rfl, rfl⟩
          rw [HQ1.out]
          go_wp2_with fail
          refine (spec_in (-1) (-1) (clock - 1) _).mono ?_
          rintro x w' ⟨rfl, rfl⟩
          rw [HQ2.out]
          go_wp2
          go_ret
          exact ⟨rfl, ((Below.refl _ _).alloc (Nat.le_refl _) _).alloc (by simp) _⟩
        · have e1 : (e != -1) = true := by simpa using he
          rw [show decide (e ≠ -1) = true from decide_eq_true he]
          generalize hq2 : inB e (-1) (clock - 1) = q2
          have HQ2 := hidIt hq2
          clear hq2 he
          go_enter Try.func63, Try.ntmps63
          go_wp2_with fail
          refine (spec_in b 0 (clock - 1) _).mono ?_
          rintro x w' ⟨rfl, rfl⟩
          rw [HQ1.out]
          go_wp2
          go_ret
          exact ⟨rfl, ((Below.refl _ _).alloc (Nat.le_refl _) _).alloc (by simp) _⟩

end Go.Proofs.Ytehgacidfepomaa
