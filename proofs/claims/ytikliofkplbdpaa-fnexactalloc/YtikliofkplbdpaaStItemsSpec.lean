/- The places of a stack from the top on, by the model. -/
import Derived.Test.YtikliofkplbdpaaRows
import Derived.WalkKit
import Derived.ProofKit
import Derived.OpenShut
import Derived.ShutString
import Derived.Test.YtikliofkplbdpaaStItemsPlain
import Derived.Test.YtikliofkplbdpaaStackSpec1
import Derived.Test.YtikliofkplbdpaaCellRow
import Derived.Deep.AppendLies
namespace Go.Proofs.Ytikliofkplbdpaa
open Go.ChangeShapes Go.WideShapes Go.ChangeAt Go.RowKit
set_option linter.unusedVariables false

theorem spec_has_zero (a : Option Addr) (c : Nat) (y : Int) (w : World) :
    Calls Try.prog 33 #[.slice a 0 c, .int .i64 y] w fun e w' => e = .returned (.bool false) ∧ w' = w := by
  go_enter Try.func33, Try.ntmps33
  go_wp2
  go_loop [9] (fun i => i = .int .i64 0) (fun _ => 0)
  case atStart => rfl
  case round =>
    subst hrel
    go_wp2
    go_ret
    exact ⟨rfl, rfl⟩
theorem take_hit {xs : List Int} {y : Int} {k : Nat} (hk : k < xs.length) (h : xs[k] = y) : hasN xs y = true := decide_eq_true (h ▸ List.getElem_mem hk)
theorem take_end {xs : List Int} {y : Int} {k : Nat} (hk : ¬ k < xs.length) (h : ¬ y ∈ xs.take k) : hasN xs y = false := by
  rw [List.take_of_length_le (by omega)] at h
  exact decide_eq_false h
theorem take_miss {xs : List Int} {y : Int} {k : Nat} (hk : k < xs.length) (h : ¬ xs[k] = y) (h2 : ¬ y ∈ xs.take k) : ¬ y ∈ xs.take (k + 1) := by
  rw [List.take_succ_eq_append_getElem hk]
  simp only [List.mem_append, List.mem_singleton]
  rintro (h3 | h3)
  · exact h2 h3
  · exact h h3.symm
set_option maxHeartbeats 400000 in
set_option maxRecDepth 100000 in
theorem spec_has_some (g c : Nat) (xs : List Int) (y : Int) (w : World) (hn : xs.length ≤ 4194304) (hA : ∀ j (hj : j < xs.length), w.cell? ⟨g, j, none⟩ = some (.int .i64 xs[j])) :
    Calls Try.prog 33 #[.slice (some ⟨g, 0, none⟩) xs.length c, .int .i64 y] w fun e w' => e = .returned (.bool (hasN xs y)) ∧ w' = w := by
  have HA := hidIt hA
  clear hA
  go_enter Try.func33, Try.ntmps33
  go_wp2
  go_loop [6, 9] (fun _ i => ∃ k : Nat, k ≤ xs.length ∧ i = .int .i64 k ∧ Hid (¬ y ∈ xs.take k)) (fun _ i => xs.length - (intOf i).toNat)
  case atStart => exact ⟨0, Nat.zero_le _, rfl, by show ¬ y ∈ xs.take 0; simp⟩
  case round =>
    obtain ⟨k, hk, rfl, HT⟩ := hrel
    by_cases hlt : k < xs.length
    · have cA := HA.out k hlt
      have hlt' : (k : Int) < (xs.length : Int) := by omega
      obtain ⟨x, hx⟩ : ∃ x, xs[k] = x := ⟨_, rfl⟩
      rw [hx] at cA
      have HX := hidIt hx
      clear hx
      by_cases he : x = y
      · have HE := hidIt he
        have hb : (x == y) = true := by simpa using he
        clear he
        go_wp2
        go_ret
        exact ⟨ret_boolx (take_hit hlt (HX.out.trans HE.out)).symm, rfl⟩
      · have HE := hidIt he
        have hb : (x == y) = false := by simpa using he
        clear he
        go_wp2
        go_round
        case rel => exact ⟨k + 1, by omega, by go_num, take_miss hlt (by rw [HX.out]; exact HE.out) HT.out⟩
        case measure => simp [intOf]; omega
    · go_wp2
      go_ret
      exact ⟨ret_boolx (take_end hlt HT.out).symm, rfl⟩
theorem spec_has (lo hi : Nat) (v : Value) (xs : List Int) (y : Int) (w : World) (hn : xs.length ≤ 4194304) (r : Row w lo hi v (ints xs)) :
    Calls Try.prog 33 #[v, .int .i64 y] w fun e w' => e = .returned (.bool (hasN xs y)) ∧ w' = w := by
  by_cases h0 : 0 < xs.length
  · obtain ⟨g, c, rfl, -, -, g3, -⟩ := r.ofSome h0
    exact spec_has_some g c xs y w hn g3
  · obtain rfl : xs = [] := List.length_eq_zero_iff.1 (by omega)
    obtain ⟨a, c, rfl⟩ := r.form
    exact spec_has_zero a c y w

end Go.Proofs.Ytikliofkplbdpaa
