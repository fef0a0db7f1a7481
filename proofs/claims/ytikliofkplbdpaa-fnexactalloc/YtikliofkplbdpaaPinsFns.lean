/- Numbers and pins: the program's tests. -/
import Derived.Test.YtikliofkplbdpaaRows
import Derived.WalkKit
import Derived.ProofKit
import Derived.OpenShut
import Derived.ShutString
import Derived.Test.YtikliofkplbdpaaAgePlain
import Derived.Test.YtikliofkplbdpaaLimboPlain
namespace Go.Proofs.Ytikliofkplbdpaa
open Go.ChangeShapes Go.WideShapes Go.ChangeAt Go.RowKit
set_option linter.unusedVariables false

theorem impl_isnum (n : Int) (w : World) :
    Calls Try.prog 45 #[.int .i64 n] w fun e w' => e = .returned (.bool (decide (0 ≤ n ∧ n ≤ 4294967295))) ∧ w' = w := by
  by_cases h0 : 0 ≤ n
  · by_cases h1 : n ≤ 4294967295
    · have e : decide (0 ≤ n ∧ n ≤ 4294967295) = true := decide_eq_true ⟨h0, h1⟩
      rw [e]
      go_enter Try.func45, Try.ntmps45
      go_wp2
      go_ret
      exact ⟨rfl, rfl⟩
    · have e : decide (0 ≤ n ∧ n ≤ 4294967295) = false := decide_eq_false (by omega)
      rw [e]
      go_enter Try.func45, Try.ntmps45
      go_wp2
      go_ret
      exact ⟨rfl, rfl⟩
  · have e : decide (0 ≤ n ∧ n ≤ 4294967295) = false := decide_eq_false (by omega)
    rw [e]
    go_enter Try.func45, Try.ntmps45
    go_wp2
    go_ret
    exact ⟨rfl, rfl⟩
theorem spec_isnum (n : Int) (w : World) :
    Calls Try.prog 42 #[.int .i64 n] w fun e w' => e = .returned (.bool (decide (0 ≤ n ∧ n ≤ 4294967295))) ∧ w' = w := by
  by_cases h0 : 0 ≤ n
  · by_cases h1 : n ≤ 4294967295
    · have e : decide (0 ≤ n ∧ n ≤ 4294967295) = true := decide_eq_true ⟨h0, h1⟩
      rw [e]
      go_enter Try.func42, Try.ntmps42
      go_wp2
      go_ret
      exact ⟨rfl, rfl⟩
    · have e : decide (0 ≤ n ∧ n ≤ 4294967295) = false := decide_eq_false (by omega)
      rw [e]
      go_enter Try.func42, Try.ntmps42
      go_wp2
      go_ret
      exact ⟨rfl, rfl⟩
  · have e : decide (0 ≤ n ∧ n ≤ 4294967295) = false := decide_eq_false (by omega)
    rw [e]
    go_enter Try.func42, Try.ntmps42
    go_wp2
    go_ret
    exact ⟨rfl, rfl⟩

theorem all_stop {ps : List Int} {k : Nat} {f : Int → Bool} (hk : k < ps.length) (h : f ps[k] = false) : ps.all f = false := by
  rw [List.all_eq_false]
  exact ⟨ps[k], List.getElem_mem hk, by simp [h]⟩
theorem all_full {ps : List Int} {f : Int → Bool} (h : ∀ j (hj : j < ps.length), f ps[j] = true) : ps.all f = true := by
  rw [List.all_eq_true]
  intro x hx
  obtain ⟨j, hj, rfl⟩ := List.mem_iff_getElem.1 hx
  exact h j hj

set_option maxHeartbeats 800000 in
set_option maxRecDepth 100000 in
theorem impl_arepins_some (b off c : Nat) (ps : List Int) (a : Int) (w : World) (h1 : 1 ≤ ps.length) (h8 : ps.length ≤ 8) (a0 : 0 ≤ a) (a1 : a ≤ 4294967295)
    (h2 : ∀ j (hj : j < ps.length), w.cell? ⟨b, off + j, none⟩ = some (.int .i64 ps[j])) :
    Calls Try.prog 46 #[.slice (some ⟨b, off, none⟩) ps.length c, .int .i64 a] w fun e w' => e = .returned (.bool (ps.all (pinB a))) ∧ w' = w := by
  have HA := hidIt h2
  clear h2
  have g1 : ¬ ((ps.length : Int) < 1) := by omega
  have g2 : ¬ ((8 : Int) < (ps.length : Int)) := by omega
  go_enter Try.func46, Try.ntmps46
  go_wp2
  go_loop [17] (fun i => ∃ k : Nat, k ≤ ps.length ∧ i = .int .i64 k ∧ Hid (∀ j (hj : j < ps.length), j < k → pinB a ps[j] = true)) (fun i => ps.length - (intOf i).toNat)
  case atStart => exact ⟨0, Nat.zero_le _, rfl, fun j _ hj => by omega⟩
  case round =>
    obtain ⟨k, hk, rfl, HF⟩ := hrel
    by_cases hlt : k < ps.length
    · have c1 := HA.out k hlt
      have hlt' : (k : Int) < (ps.length : Int) := by omega
      have HS := hidIt (fun (h : pinB a ps[k] = false) => all_stop hlt h)
      have HG : Hid (pinB a ps[k] = true → ∀ j (hj : j < ps.length), j < k + 1 → pinB a ps[j] = true) := fun h j hj hjk => by
        by_cases e : j = k
        · subst e; exact h
        · exact HF.out j hj (by omega)
      generalize ps[k] = p at c1 HS HG
      by_cases e1 : p = -1
      · subst e1
        have hp := hidIt (HG.out (by simp [pinB]))
        clear HG HS
        go_wp2
        go_round
        case rel => exact ⟨k + 1, by omega, by go_num, hp.out⟩
        case measure => simp [intOf]; omega
      · by_cases e2 : p = a
        · subst e2
          have hp := hidIt (HG.out (by simp [pinB]))
          clear HG HS
          go_wp2
          go_round
          case rel => exact ⟨k + 1, by omega, by go_num, hp.out⟩
          case measure => simp [intOf]; omega
        · by_cases e3 : p = a - 1
          · subst e3
            have hp := hidIt (HG.out (by simp [pinB]))
            clear HG HS
            go_wp2
            go_round
            case rel => exact ⟨k + 1, by omega, by go_num, hp.out⟩
            case measure => simp [intOf]; omega
          · have hp := hidIt (HS.out (by simp [pinB, e1, e2, e3]))
            clear HG HS
            have f1 : (p != -1) = true := by simpa using e1
            have f2 : (p != a) = true := by simpa using e2
            have f3 : (p != a - 1) = true := by simpa using e3
            clear e1 e2 e3
            go_wp2
            go_ret
            exact ⟨ret_boolx (by rw [hp.out]), rfl⟩
    · have hp := hidIt (all_full (f := pinB a) (fun j hj => HF.out j hj (by omega)))
      go_wp2
      go_ret
      exact ⟨ret_boolx (by rw [hp.out]), rfl⟩

theorem impl_arepins_no (v : Option Addr) (n c : Nat) (a : Int) (w : World) (h : ¬ (1 ≤ n ∧ n ≤ 8)) :
    Calls Try.prog 46 #[.slice v n c, .int .i64 a] w fun e w' => e = .returned (.bool false) ∧ w' = w := by
  by_cases h0 : n < 1
  · obtain rfl : n = 0 := by omega
    go_enter Try.func46, Try.ntmps46
    go_wp2
    go_ret
    exact ⟨rfl, rfl⟩
  · have g1 : ¬ ((n : Int) < 1) := by omega
    have g2 : (8 : Int) < (n : Int) := by omega
    go_enter Try.func46, Try.ntmps46
    go_wp2
    go_ret
    exact ⟨rfl, rfl⟩
theorem impl_arepins (w : World) (v : Value) (ps : List Int) (a : Int) (a0 : 0 ≤ a) (a1 : a ≤ 4294967295) (h : InRow w v ps) :
    Calls Try.prog 46 #[v, .int .i64 a] w fun e w' => e = .returned (.bool (decide (1 ≤ ps.length ∧ ps.length ≤ 8) && ps.all (pinB a))) ∧ w' = w := by
  obtain ⟨s, cap, rfl, h⟩ := h
  by_cases hl : 1 ≤ ps.length ∧ ps.length ≤ 8
  · rw [decide_eq_true hl, Bool.true_and]
    rcases h with rfl | ⟨b, off, rfl, h1, h2⟩
    · simp at hl
    · exact impl_arepins_some b off cap ps a w hl.1 hl.2 a0 a1 h2
  · rw [decide_eq_false hl, Bool.false_and]
    exact impl_arepins_no s ps.length cap a w hl

end Go.Proofs.Ytikliofkplbdpaa
