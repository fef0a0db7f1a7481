/- NumText of the model: the decimal digits. -/
import Derived.Test.YtjcbgegdccaoaagRows
import Derived.WalkKit
import Derived.ProofKit
import Derived.OpenShut
import Derived.ShutString
import Derived.Test.YtjcbgegdccaoaagOneByte
import Derived.Deep.RegionWith
namespace Go.Proofs.Ytjcbgegdccaoaag
open Go.ChangeShapes Go.WideShapes Go.ChangeAt Go.RowKit
set_option linter.unusedVariables false

theorem dec_add (n : Nat) (h : ¬ n < 10) (hn : n ≤ 4294967295) (W : World) : (Op.stringOp .add ⟨(Lib.decDigits (n / 10)).toArray⟩ ⟨#[digB (n % 10)]⟩).run Try.prog W = .ok (.string ⟨(Lib.decDigits n).toArray⟩) W := by
  have hl := dec_len (n / 10)
  rw [dec_step n h]
  rw [run_string_add_sum W _ _ (by simp [ByteArray.size]; omega)]
  rw [← ByteArray.mk_append_mk]
theorem spec_num (n : Nat) : n ≤ 4294967295 → ∀ w : World, Calls Try.prog 25 #[.int .i64 n] w fun e w' => e = .returned (.string ⟨(Lib.decDigits n).toArray⟩) ∧ Below w.heap.size w w' := by
  induction n using Nat.strongRecOn with
  | ind n ih =>
  intro hn w
  have hn' : (n : Int) ≤ 4294967295 := by omega
  by_cases h10 : n < 10
  · rw [dec_small n h10]
    clear ih
    have hcv := one_byte (48 + (n : Int)) n (by omega) (by omega)
    go_enter Try.func25, Try.ntmps25
    go_wp2
    go_ret
    exact ⟨rfl, (Below.refl _ _).alloc (Nat.le_refl _) _⟩
  · have h10' : ¬ (n : Int) < 10 := by omega
    have IH : Hid _ := ih
    clear ih
    have had := dec_add n h10 hn
    have hcv := one_byte (IntKind.u8.wrap (IntKind.i64.wrap (48 + (n : Int).tmod 10))) (n % 10) (by rw [Int.tmod_eq_emod_of_nonneg (by omega), IntKind.wrap_u8', IntKind.wrap_i64]; omega) (by omega)
    go_enter Try.func25, Try.ntmps25
    go_wp2
    go_region_with (go_at_call 25; rw [show IntKind.i64.wrap ((n : Int) / 10) = ((n / 10 : Nat) : Int) from by rw [IntKind.wrap_i64]; omega]; refine (IH.out (n / 10) (by omega) (by omega) _).mono ?_; rintro e w1 ⟨rfl, hb1⟩; obtain ⟨hc1, hf1⟩ := bcell hb1)
    all_goals go_wp2
    all_goals go_ret
    all_goals first | exact ⟨rfl, be_a hb1 _⟩ | exact ⟨rfl, be_b hb1⟩

end Go.Proofs.Ytjcbgegdccaoaag
