/- What the law of words needs besides: digits read back; small functions of the program. -/
import Derived.Test.YtjcbgegdccaoaadDoorRows
import Derived.WalkKit
import Derived.ProofKit
import Derived.OpenShut
import Derived.ShutString
import Derived.Test.YtjcbgegdccaoaadDoorTextPlain
import Derived.Test.YtjcbgegdccaoaadDoorFlipPlain
namespace Go.Proofs.YtjcbgegdccaoaadDoor
open Go.ChangeShapes Go.WideShapes Go.ChangeAt Go.RowKit
set_option linter.unusedVariables false

theorem digB_dig (d : Nat) (h : d < 10) : isDig (digB d) = true ∧ (digB d).toNat - 48 = d := by
  have e : (digB d).toNat = 48 + d := by unfold digB; simp; omega
  constructor
  · simp [isDig, e]; omega
  · omega
theorem dec_back (n : Nat) : (Lib.decDigits n).all isDig = true ∧ val (Lib.decDigits n) = n := by
  induction n using Nat.strongRecOn with
  | ind n ih =>
    by_cases h : n < 10
    · rw [dec_small n h]
      have := digB_dig n h
      simp [val, this.1, this.2]
    · rw [dec_step n h, all_snoc, val_snoc]
      have h1 := ih (n / 10) (by omega)
      have h2 := digB_dig (n % 10) (by omega)
      rw [h1.1, h1.2, h2.1, h2.2]
      exact ⟨rfl, by omega⟩
theorem tn_dec (n : Nat) (h : n ≤ 4294967295) : tnB (Lib.decDigits n) = true ∧ tnV (Lib.decDigits n) = (n : Int) := by
  have h1 := dec_back n
  have h2 := tn_yes (Lib.decDigits n) (dec_ne n) h1.1 (by rw [h1.2]; exact h) (by rw [h1.2])
  rw [h1.2] at h2
  exact h2
theorem flipI_twice (n : Nat) (h : n < 4294967296) : flipI (flipI (n : Int)) = (n : Int) := by
  rw [flipI_nat n h, flipI_nat _ (by have := revTo_lt n 32; omega), flip_flip n h]
theorem dummy_lt (h : Int) (h1 : 0 ≤ h) (h2 : h ≤ 4294967295) : dummyI (h % 16) < orderI h := by
  rw [orderI_yes h h1 h2]
  unfold dummyI
  obtain ⟨m, rfl⟩ := Int.eq_ofNat_of_zero_le h1
  have e : ((m : Int) % 16) = ((m % 16 : Nat) : Int) := by omega
  rw [e, flipI_nat _ (by omega), flipI_nat m (by omega)]
  have := flip_low m
  omega

end Go.Proofs.YtjcbgegdccaoaadDoor
