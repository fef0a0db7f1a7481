/- A new list's cells, by the model and by the program. -/
import Derived.Test.YtpfofjcfaelocaaRows
import Derived.WalkKit
import Derived.ProofKit
import Derived.OpenShut
import Derived.ShutString
import Derived.Test.YtpfofjcfaelocaaStackSpec1
import Derived.Test.YtpfofjcfaelocaaMemNewFns
import Derived.Test.YtpfofjcfaelocaaLiPlain
namespace Go.Proofs.Ytpfofjcfaelocaa
open Go.ChangeShapes Go.WideShapes Go.ChangeAt Go.RowKit
set_option linter.unusedVariables false

set_option maxRecDepth 100000 in
theorem spec_linew (n : Int) (w : World) :
    Calls Try.prog 30 #[.int .i64 n] w fun e w' => ∃ v', e = .returned (.tuple #[.agg #[v'], .bool (szB n)]) ∧ Row w' w.heap.size w'.heap.size v' (ints (liNewL n)) ∧ Below w.heap.size w w' := by
  by_cases hz : szB n = true
  · have hb : 1 ≤ n ∧ n ≤ 16 := of_decide_eq_true hz
    obtain ⟨N, rfl⟩ : ∃ i : Nat, n = i := ⟨n.toNat, by omega⟩
    have e1 : liNewL N = List.replicate (1 + 2 * N) 0 := by unfold liNewL; rw [if_pos hz]; simp
    rw [e1, hz]
    have HZ := hidIt hz
    clear hz e1
    obtain ⟨n1, n2⟩ := hb
    go_enter Try.func30, Try.ntmps30
    go_wp2_with fail
    refine (spec_size N _).mono ?_
    rintro e w1 ⟨rfl, rfl⟩
    rw [HZ.out]
    go_wp2_with fail
    rw [show (1 + 2 * (N : Int)) = ((1 + 2 * N : Nat) : Int) by omega]
    refine (spec_memnew_yes (1 + 2 * N) _ (by omega)).mono ?_
    rintro e w2 ⟨v2, rfl, r2, b2⟩
    have z2 := b2.size
    simp at z2
    have R2 := hidIt r2
    obtain ⟨a2, k2, rfl⟩ := r2.form
    have d5 : w2.cell? ⟨w.heap.size, 0, none⟩ = some (.slice none 0 0) := below_cell b2 (by simp) (by simp [go_sem])
    have d6 : w2.frozen? ⟨w.heap.size, 0, none⟩ = false := below_frozen b2 (by simp) (by simp [go_sem])
    have B2 := hidIt (((Below.refl _ w).alloc (Nat.le_refl _) _).trans (b2.mono (by simp)))
    clear r2 b2
    simp only [List.length_replicate] at R2 ⊢
    go_wp2
    refine bodyPost_ret (v := .tuple #[.agg #[.slice a2 (1 + 2 * N) k2], .bool true]) (by simp [results, Try.results30, go_sem, d5]) rfl ⟨_, rfl, ?_, ?_⟩
    · have := (R2.out.set_below ⟨w.heap.size, 0, none⟩ (.slice a2 (1 + 2 * N) k2) (by simp)).lo (lo' := w.heap.size) (by simp) |>.up (hi' := (w2.setCell ⟨w.heap.size, 0, none⟩ (.slice a2 (1 + 2 * N) k2)).heap.size) (by simp)
      simpa using this
    · exact B2.out.setCell (p := ⟨w.heap.size, 0, none⟩) (Nat.le_refl _) _
  · have e1 : liNewL n = [] := by unfold liNewL; rw [if_neg hz]
    have hz : szB n = false := by simpa using hz
    rw [e1, hz]
    clear e1
    go_enter Try.func30, Try.ntmps30
    go_wp2_with fail
    refine (spec_size n _).mono ?_
    rintro e w1 ⟨rfl, rfl⟩
    rw [hz]
    go_wp2
    exact bodyPost_ret (v := .tuple #[.agg #[.slice none 0 0], .bool false]) (by simp [results, Try.results30, go_sem]) rfl ⟨_, rfl, ⟨none, 0, rfl, .inl rfl⟩, by repeat (first | exact Below.refl _ _ | refine Below.setCell ?_ (by simp <;> omega) _ | refine Below.alloc ?_ (by simp <;> omega) _)⟩
theorem impl_lsize (n : Int) (w : World) :
    Calls Try.prog 51 #[.int .i64 n] w fun e w' => e = .returned (.bool (szB n)) ∧ w' = w := by
  by_cases h1 : 1 ≤ n
  · by_cases h2 : n ≤ 16
    · have hb : szB n = true := decide_eq_true ⟨h1, h2⟩
      rw [hb]
      clear hb
      go_enter Try.func51, Try.ntmps51
      go_wp2
      go_ret
      simp
    · have hb : szB n = false := decide_eq_false (by omega)
      rw [hb]
      clear hb
      go_enter Try.func51, Try.ntmps51
      go_wp2
      go_ret
      simp
  · have hb : szB n = false := decide_eq_false (by omega)
    rw [hb]
    clear hb
    go_enter Try.func51, Try.ntmps51
    go_wp2
    go_ret
    exact ⟨rfl, rfl⟩
set_option maxRecDepth 100000 in
theorem impl_linew (n : Int) (w : World) :
    Calls Try.prog 38 #[.int .i64 n] w fun e w' => ∃ v', e = .returned (.tuple #[.agg #[v'], .bool (szB n)]) ∧ Row w' w.heap.size w'.heap.size v' (ints (liNewL n)) ∧ Below w.heap.size w w' := by
  by_cases hz : szB n = true
  · have hb : 1 ≤ n ∧ n ≤ 16 := of_decide_eq_true hz
    obtain ⟨N, rfl⟩ : ∃ i : Nat, n = i := ⟨n.toNat, by omega⟩
    have e1 : liNewL N = List.replicate (1 + 2 * N) 0 := by unfold liNewL; rw [if_pos hz]; simp
    rw [e1, hz]
    have HZ := hidIt hz
    clear hz e1
    obtain ⟨n1, n2⟩ := hb
    go_enter Try.func38, Try.ntmps38
    go_wp2_with fail
    refine (impl_lsize N _).mono ?_
    rintro e w1 ⟨rfl, rfl⟩
    rw [HZ.out]
    go_wp2_with fail
    rw [show (1 + 2 * (N : Int)) = ((1 + 2 * N : Nat) : Int) by omega]
    refine (impl_memnew_yes (1 + 2 * N) _ (by omega)).mono ?_
    rintro e w2 ⟨v2, rfl, r2, b2⟩
    have z2 := b2.size
    simp at z2
    have R2 := hidIt r2
    obtain ⟨a2, k2, rfl⟩ := r2.form
    have d5 : w2.cell? ⟨w.heap.size, 0, none⟩ = some (.slice none 0 0) := below_cell b2 (by simp) (by simp [go_sem])
    have d6 : w2.frozen? ⟨w.heap.size, 0, none⟩ = false := below_frozen b2 (by simp) (by simp [go_sem])
    have B2 := hidIt (((Below.refl _ w).alloc (Nat.le_refl _) _).trans (b2.mono (by simp)))
    clear r2 b2
    simp only [List.length_replicate] at R2 ⊢
    go_wp2
    refine bodyPost_ret (v := .tuple #[.agg #[.slice a2 (1 + 2 * N) k2], .bool true]) (by simp [results, Try.results38, go_sem, d5]) rfl ⟨_, rfl, ?_, ?_⟩
    · have := (R2.out.set_below ⟨w.heap.size, 0, none⟩ (.slice a2 (1 + 2 * N) k2) (by simp)).lo (lo' := w.heap.size) (by simp) |>.up (hi' := (w2.setCell ⟨w.heap.size, 0, none⟩ (.slice a2 (1 + 2 * N) k2)).heap.size) (by simp)
      simpa using this
    · exact B2.out.setCell (p := ⟨w.heap.size, 0, none⟩) (Nat.le_refl _) _
  · have e1 : liNewL n = [] := by unfold liNewL; rw [if_neg hz]
    have hz : szB n = false := by simpa using hz
    rw [e1, hz]
    clear e1
    go_enter Try.func38, Try.ntmps38
    go_wp2_with fail
    refine (impl_lsize n _).mono ?_
    rintro e w1 ⟨rfl, rfl⟩
    rw [hz]
    go_wp2
    exact bodyPost_ret (v := .tuple #[.agg #[.slice none 0 0], .bool false]) (by simp [results, Try.results38, go_sem]) rfl ⟨_, rfl, ⟨none, 0, rfl, .inl rfl⟩, by repeat (first | exact Below.refl _ _ | refine Below.setCell ?_ (by simp <;> omega) _ | refine Below.alloc ?_ (by simp <;> omega) _)⟩

end Go.Proofs.Ytpfofjcfaelocaa
