/- The text of a mark: what it is, and that its making leaves all as it was. -/
import Derived.Test.YtijmjpjclhgaoaaRows
import Derived.WalkKit
import Derived.ProofKit
import Derived.OpenShut
import Derived.ShutString
import Derived.Test.YtijmjpjclhgaoaaOneByte
namespace Go.Proofs.Ytijmjpjclhgaoaa
open Go.ChangeShapes Go.WideShapes Go.ChangeAt Go.RowKit
set_option linter.unusedVariables false

def mtL : Nat → Nat → List UInt8 → List UInt8
  | 0, _, out => out
  | f + 1, k, out => if k = 0 then out else mtL f (k / 10) (digB (k % 10) :: out)
def mtA (k : Nat) : List UInt8 := mtL k k []
def mt (k : Nat) : ByteArray := ⟨(109 :: mtA k).toArray⟩
theorem mtL_zero (f : Nat) (out : List UInt8) : mtL f 0 out = out := by cases f <;> simp [mtL]
theorem mtL_step (f k : Nat) (out : List UInt8) (h : k ≠ 0) : mtL (f + 1) k out = mtL f (k / 10) (digB (k % 10) :: out) := by
  rw [mtL, if_neg h]
theorem mt_add (d : UInt8) (out : List UInt8) (h : out.length ≤ 4194304) (W : World) : (Op.stringOp .add ⟨#[d]⟩ ⟨out.toArray⟩).run Try.prog W = .ok (.string ⟨(d :: out).toArray⟩) W := by
  have e : (ByteArray.mk #[d]) = ByteArray.mk [d].toArray := rfl
  rw [run_string_add_sum W _ _ (by simp [ByteArray.size]; omega), e, ByteArray.mk_append_mk]
  rfl
theorem ret_str {a b : ByteArray} (h : a = b) : Ending.returned (.string a) = .returned (.string b) := by rw [h]

set_option maxRecDepth 100000 in
theorem mark_text (K : Nat) (w : World) (h1 : 1 ≤ K) (h2 : K ≤ 4194304) :
    Calls Try.prog 67 #[.int .i64 K] w fun e w' => e = .returned (.string (mt K)) ∧ Below w.heap.size w w' := by
  have g1 : ¬ (K : Int) ≤ 0 := by omega
  go_enter Try.func67, Try.ntmps67
  go_wp2
  go_loopw [0, 3] (fun x o wr => ∃ (k f : Nat) (out : List UInt8), x = .int .i64 k ∧ o = .string ⟨out.toArray⟩ ∧ k ≤ f ∧ out.length + k ≤ 4194304 ∧ Below w.heap.size w wr ∧ Hid (mtL f k out = mtA K)) (fun x _ _ => (intOf x).toNat)
  case atStart => exact ⟨K, K, [], rfl, rfl, Nat.le_refl _, by simp; omega, Below.refl _ _, rfl⟩
  case round =>
    obtain ⟨k, f, out, rfl, rfl, hkf, hlen, hb, HS⟩ := hrel
    by_cases hk : k = 0
    · subst hk
      have HS2 : Hid (out = mtA K) := by have := HS.out; rw [mtL_zero] at this; exact this
      have had := mt_add 109 out (by omega)
      go_wp2
      go_ret
      exact ⟨ret_str (by unfold mt; rw [← HS2.out]), hb⟩
    · have hk' : (0 : Int) < (k : Int) := by omega
      have hcv := one_byte (48 + (k : Int) % 10) (k % 10) (by omega) (by omega)
      have had := mt_add (digB (k % 10)) out (by omega)
      have hsz := hb.size
      go_wp2
      go_roundw
      case rel =>
        obtain ⟨f', rfl⟩ : ∃ f', f = f' + 1 := ⟨f - 1, by omega⟩
        exact ⟨k / 10, f', digB (k % 10) :: out, by go_num, rfl, by omega, by simp; omega, hb.alloc hsz _, by rw [← mtL_step f' k out hk]; exact HS.out⟩
      case measure => simp [intOf]; omega

end Go.Proofs.Ytijmjpjclhgaoaa
