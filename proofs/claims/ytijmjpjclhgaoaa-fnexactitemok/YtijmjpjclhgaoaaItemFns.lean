/- Items that are as they must be: both sides, one plain function. -/
import Derived.Test.YtijmjpjclhgaoaaRows
import Derived.WalkKit
import Derived.ProofKit
import Derived.OpenShut
import Derived.ShutString
import Derived.Test.YtijmjpjclhgaoaaCleanFns
import Derived.Test.YtijmjpjclhgaoaaItemRows
namespace Go.Proofs.Ytijmjpjclhgaoaa
open Go.ChangeShapes Go.WideShapes Go.ChangeAt Go.RowKit
set_option linter.unusedVariables false

def itB (c : It) : Bool := decide (1 ≤ c.k.size) && decide (c.k.size ≤ 20) && clB c.k && decide (c.v.size ≤ 40) && clB c.v && decide (0 ≤ c.f) && decide (c.f ≤ 3)
theorem itB_lim {c : It} (h : itB c = true) : 1 ≤ c.k.size ∧ c.k.size ≤ 20 ∧ clB c.k = true ∧ c.v.size ≤ 40 ∧ clB c.v = true ∧ 0 ≤ c.f ∧ c.f ≤ 3 := by
  unfold itB at h
  simpa [and_assoc] using h
theorem spec_in (n lo hi : Int) (w : World) :
    Calls Try.prog 29 #[.int .i64 n, .int .i64 lo, .int .i64 hi] w fun e w' => e = .returned (.bool (decide (lo ≤ n) && decide (n ≤ hi))) ∧ w' = w := by
  by_cases h1 : lo ≤ n
  · by_cases h2 : n ≤ hi
    · rw [decide_eq_true h1, decide_eq_true h2]
      go_enter Try.func29, Try.ntmps29
      go_wp2
      go_ret
      exact ⟨rfl, rfl⟩
    · rw [decide_eq_true h1, decide_eq_false h2]
      go_enter Try.func29, Try.ntmps29
      go_wp2
      go_ret
      exact ⟨rfl, rfl⟩
  · rw [decide_eq_false h1]
    go_enter Try.func29, Try.ntmps29
    go_wp2
    go_ret
    exact ⟨rfl, rfl⟩
set_option maxHeartbeats 1600000 in
set_option maxRecDepth 100000 in
theorem spec_itemok (c : It) (w : World) (hk : c.k.size ≤ 1048576) (hv : c.v.size ≤ 1048576) :
    Calls Try.prog 10 #[.agg #[.string c.k, .string c.v, .int .i64 c.f]] w fun e w' => e = .returned (.bool (itB c)) ∧ Below w.heap.size w w' := by
  have HK := hidIt (fun W => spec_clean c.k W (by omega))
  have HV := hidIt (fun W => spec_clean c.v W (by omega))
  have HI := hidIt (fun W => spec_in c.f 0 3 W)
  have HR : Hid (itB c = (decide (1 ≤ c.k.size) && decide (c.k.size ≤ 20) && clB c.k && decide (c.v.size ≤ 40) && clB c.v && (decide (0 ≤ c.f) && decide (c.f ≤ 3)))) := by
    show itB c = _
    unfold itB
    simp only [Bool.and_assoc]
  generalize (decide (0 ≤ c.f) && decide (c.f ≤ 3)) = b3 at HI HR
  have h1 := Classical.em (1 ≤ c.k.size)
  have h2 := Classical.em (c.k.size ≤ 20)
  have h3 := Classical.em (c.v.size ≤ 40)
  rcases h1 with h1 | h1
  · rcases h2 with h2 | h2
    · cases hbk : clB c.k
      · rw [hbk] at HK HR
        clear hbk
        go_enter Try.func10, Try.ntmps10
        go_wp2_with (go_at_call 28; refine (HK.out _).mono ?_; rintro e w1 ⟨rfl, rfl⟩)
        go_ret
        exact ⟨ret_boolx (by rw [HR.out]; simp [h1, h2]), (Below.refl _ _).alloc (Nat.le_refl _) _⟩
      · rw [hbk] at HK HR
        clear hbk
        rcases h3 with h3 | h3
        · cases hbv : clB c.v <;> rw [hbv] at HV HR <;> clear hbv <;> cases b3 <;>
          · go_enter Try.func10, Try.ntmps10
            go_wp2_with fail
            refine (HK.out _).mono ?_
            rintro e w1 ⟨rfl, rfl⟩
            go_wp2_with fail
            refine (HV.out _).mono ?_
            rintro e w1 ⟨rfl, rfl⟩
            go_wp2_with (go_at_call 29; refine (HI.out _).mono ?_; rintro e w1 ⟨rfl, rfl⟩)
            go_ret
            exact ⟨ret_boolx (by rw [HR.out]; simp [h1, h2, h3]), (Below.refl _ _).alloc (Nat.le_refl _) _⟩
        · go_enter Try.func10, Try.ntmps10
          go_wp2_with (go_at_call 28; refine (HK.out _).mono ?_; rintro e w1 ⟨rfl, rfl⟩)
          go_ret
          exact ⟨ret_boolx (by rw [HR.out]; simp [h1, h2, h3]), (Below.refl _ _).alloc (Nat.le_refl _) _⟩
    · go_enter Try.func10, Try.ntmps10
      go_wp2
      go_ret
      exact ⟨ret_boolx (by rw [HR.out]; simp [h1, h2]), (Below.refl _ _).alloc (Nat.le_refl _) _⟩
  · go_enter Try.func10, Try.ntmps10
    go_wp2
    go_ret
    exact ⟨ret_boolx (by rw [HR.out]; simp [h1]), (Below.refl _ _).alloc (Nat.le_refl _) _⟩
theorem isword_of (s : ByteArray) (m : Int) (w : World) (hm : m ≤ 100) :
    Calls Try.prog 31 #[.string s, .int .i64 m] w fun e w' => e = .returned (.bool (decide ((s.size : Int) ≤ m) && clB s)) ∧ Below w.heap.size w w' := by
  by_cases h : (s.size : Int) ≤ m
  · rw [decide_eq_true h, Bool.true_and]
    have HC := hidIt (fun W => contains_white s W (by omega))
    generalize clB s = b at HC
    go_enter Try.func31, Try.ntmps31
    go_wp2_with (first | (go_at_call 62; refine (HC.out _).mono ?_; rintro e w1 ⟨rfl, b1⟩))
    go_ret
    exact ⟨by simp, b1⟩
  · rw [decide_eq_false h, Bool.false_and]
    go_enter Try.func31, Try.ntmps31
    go_wp2
    go_ret
    exact ⟨rfl, Below.refl _ _⟩
theorem iskey_of (s : ByteArray) (w : World) :
    Calls Try.prog 30 #[.string s] w fun e w' => e = .returned (.bool (decide (1 ≤ s.size) && decide (s.size ≤ 20) && clB s)) ∧ Below w.heap.size w w' := by
  by_cases h : 1 ≤ s.size
  · have hE := isEmpty_of s h
    have HC := hidIt (fun W => isword_of s 20 W (by omega))
    have e1 : decide ((s.size : Int) ≤ 20) = decide (s.size ≤ 20) := by rw [decide_eq_decide]; omega
    rw [e1] at HC
    rw [decide_eq_true h, Bool.true_and]
    clear e1
    generalize (decide (s.size ≤ 20) && clB s) = b at HC
    go_enter Try.func30, Try.ntmps30
    go_wp2_with (first | (go_at_call 31; refine (HC.out _).mono ?_; rintro e w1 ⟨rfl, b1⟩))
    go_ret
    exact ⟨rfl, b1⟩
  · rw [decide_eq_false h, Bool.false_and, Bool.false_and]
    have hE : s.toList.isEmpty = true := by
      rw [ByteArray.toList_eq, List.length_eq_zero_iff.1 (by rw [len_eq]; omega : s.data.toList.length = 0)]; rfl
    go_enter Try.func30, Try.ntmps30
    go_wp2
    go_ret
    exact ⟨rfl, Below.refl _ _⟩
set_option maxHeartbeats 1600000 in
set_option maxRecDepth 100000 in
theorem impl_itemok (c : It) (w : World) :
    Calls Try.prog 12 #[.agg #[.string c.k, .string c.v, .int .i64 c.f]] w fun e w' => e = .returned (.bool (itB c)) ∧ Below w.heap.size w w' := by
  have HK := hidIt (fun W => iskey_of c.k W)
  have HV := hidIt (fun W => isword_of c.v 40 W (by omega))
  have e1 : decide ((c.v.size : Int) ≤ 40) = decide (c.v.size ≤ 40) := by rw [decide_eq_decide]; omega
  rw [e1] at HV
  have HR : Hid (itB c = ((decide (1 ≤ c.k.size) && decide (c.k.size ≤ 20) && clB c.k) && (decide (c.v.size ≤ 40) && clB c.v) && decide (0 ≤ c.f) && decide (c.f ≤ 3))) := by
    show itB c = _
    unfold itB
    simp only [Bool.and_assoc]
  clear e1
  generalize (decide (1 ≤ c.k.size) && decide (c.k.size ≤ 20) && clB c.k) = b1 at HK HR
  generalize (decide (c.v.size ≤ 40) && clB c.v) = b2 at HV HR
  have h5 : ¬ 0 ≤ c.f ∨ (0 ≤ c.f ∧ c.f ≤ 3) ∨ (0 ≤ c.f ∧ ¬ c.f ≤ 3) := by omega
  cases b1 <;> cases b2 <;> rcases h5 with h5 | ⟨h5, h6⟩ | ⟨h5, h6⟩
  all_goals
    go_enter Try.func12, Try.ntmps12
    go_wp2_with (first | (go_at_call 30; refine (HK.out _).mono ?_; rintro e w1 ⟨rfl, q1⟩; have c1 := below_cell q1 (b := w.heap.size) (o := 1) (by simp) (by simp [go_sem]; rfl); have c2 := below_cell q1 (b := w.heap.size) (o := 2) (by simp) (by simp [go_sem]; rfl)) | (go_at_call 31; refine (HV.out _).mono ?_; rintro e w2 ⟨rfl, q2⟩; have d2 := below_cell q2 (b := w.heap.size) (o := 2) (by have := q1.size; simp at this; omega) c2))
    go_ret
    refine ⟨ret_boolx (by rw [HR.out]; simp [*] <;> omega), ?_⟩
    first
      | exact ((Below.refl w.heap.size w).alloc (Nat.le_refl _) _).trans ((q1.mono (by simp)).trans (q2.mono (by have := q1.size; simp at this; omega)))
      | exact ((Below.refl w.heap.size w).alloc (Nat.le_refl _) _).trans (q1.mono (by simp))

end Go.Proofs.Ytijmjpjclhgaoaa
