/- Contracts of functions of the program and of its model, and plain lemmas. -/
import Derived.Test.YtjcbgegdccaoaagRows
import Derived.WalkKit
import Derived.ProofKit
import Derived.OpenShut
import Derived.ShutString
import Derived.Laws.IdiomStrings
import Derived.Lib.ItoaNum
import Derived.Deep.RegionWith
namespace Go.Proofs.Ytjcbgegdccaoaag
open Go.ChangeShapes Go.WideShapes Go.ChangeAt Go.RowKit
set_option linter.unusedVariables false

theorem bcell {W w1 : World} (hb : Below W.heap.size W w1) : (∀ b o, b < W.heap.size → w1.cell? ⟨b, o, none⟩ = W.cell? ⟨b, o, none⟩) ∧ (∀ b o, b < W.heap.size → w1.frozen? ⟨b, o, none⟩ = W.frozen? ⟨b, o, none⟩) :=
  ⟨fun b o h => hb.cell (p := ⟨b, o, none⟩) h, fun b o h => hb.frozen (p := ⟨b, o, none⟩) h⟩
theorem be_a {w w1 : World} (hb : Below w.drew.heap.size w.drew w1) (o : Obj) : Below w.heap.size w (w1.alloc o) :=
  have h : Below w.heap.size w w1 := (Below.refl _ _).drew.trans hb
  h.alloc h.size o
theorem be_b {w w1 : World} {o : Obj} (hb : Below (w.alloc o).drew.heap.size (w.alloc o).drew w1) : Below w.heap.size w w1 :=
  ((Below.refl _ _).alloc (Nat.le_refl _) o).drew.trans (hb.mono (by show w.heap.size ≤ (w.heap.push o).size; simp))
def digB (d : Nat) : UInt8 := UInt8.ofNat (48 + d)
theorem dec_small (n : Nat) (h : n < 10) : Lib.decDigits n = [digB n] := Lib.decDigits_one h
theorem dec_step (n : Nat) (h : ¬ n < 10) : Lib.decDigits n = Lib.decDigits (n / 10) ++ [digB (n % 10)] := by
  rw [Lib.decDigits, dif_neg h]; rfl
theorem dec_len (n : Nat) : (Lib.decDigits n).length ≤ n + 1 := by
  induction n using Nat.strongRecOn with
  | ind n ih =>
    by_cases h : n < 10
    · rw [dec_small n h]; simp
    · rw [dec_step n h, List.length_append]
      have := ih (n / 10) (by omega)
      simp only [List.length_cons, List.length_nil]
      omega
theorem dec_add (n : Nat) (h : ¬ n < 10) (hn : n ≤ 4294967295) (W : World) : (Op.stringOp .add ⟨(Lib.decDigits (n / 10)).toArray⟩ ⟨#[digB (n % 10)]⟩).run Try.prog W = .ok (.string ⟨(Lib.decDigits n).toArray⟩) W := by
  have hl := dec_len (n / 10)
  rw [dec_step n h]
  rw [run_string_add_sum W _ _ (by simp [ByteArray.size]; omega)]
  rw [← ByteArray.mk_append_mk]
theorem one_byte (x : Int) (d : Nat) (h : x = ((48 + d : Nat) : Int)) (hd : d < 10) (W : World) (b : Nat) (hc : W.cell? ⟨b, 0, none⟩ = some (.int .u8 x)) :
    (convert 40 9 (.slice (some ⟨b, 0, none⟩) 1 1)).run Try.prog W = .ok (.string ⟨#[digB d]⟩) W := by
  have e : (digB d).toNat = 48 + d := by unfold digB; simp; omega
  have := run_convert_bytes_back (P := Try.prog) W 40 9 5 ⟨b, 0, none⟩ 1 [digB d] Try.underlying40 Try.underlying5 Try.underlying9 (fun j hj => by
    have hj0 : j = 0 := by simpa using hj
    subst hj0
    show W.cell? ⟨b, 0, none⟩ = some (.int .u8 ((digB d).toNat : Int))
    rw [hc, e, h])
  simpa using this
theorem str_eq {a b : List UInt8} (h : a = b) : Ending.returned (.string ⟨a.toArray⟩) = .returned (.string ⟨b.toArray⟩) := by rw [h]

theorem spec_num (n : Nat) : n ≤ 4294967295 → ∀ w : World, Calls Try.prog 25 #[.int .i64 n] w fun e w' => e = .returned (.string ⟨(Lib.decDigits n).toArray⟩) ∧ Below w.heap.size w w' := by
  induction n using Nat.strongRecOn with
  | ind n ih =>
  intro hn w
  have hn' : (n : Int) ≤ 4294967295 := by omega
  by_cases h10 : n < 10
  · rw [dec_small n h10]
    clear ih
    have hcv := one_byte (48 + (n : Int)) n (by omega) (by omega)
    go_enter Try.func25, Try.ntmps25
    go_wp2
    go_ret
    exact ⟨rfl, (Below.refl _ _).alloc (Nat.le_refl _) _⟩
  · have h10' : ¬ (n : Int) < 10 := by omega
    have IH : Hid _ := ih
    clear ih
    have had := dec_add n h10 hn
    have hcv := one_byte (IntKind.u8.wrap (IntKind.i64.wrap (48 + (n : Int).tmod 10))) (n % 10) (by rw [Int.tmod_eq_emod_of_nonneg (by omega), IntKind.wrap_u8', IntKind.wrap_i64]; omega) (by omega)
    go_enter Try.func25, Try.ntmps25
    go_wp2
    go_region_with (go_at_call 25; rw [show IntKind.i64.wrap ((n : Int) / 10) = ((n / 10 : Nat) : Int) from by rw [IntKind.wrap_i64]; omega]; refine (IH.out (n / 10) (by omega) (by omega) _).mono ?_; rintro e w1 ⟨rfl, hb1⟩; obtain ⟨hc1, hf1⟩ := bcell hb1)
    all_goals go_wp2
    all_goals go_ret
    all_goals first | exact ⟨rfl, be_a hb1 _⟩ | exact ⟨rfl, be_b hb1⟩

end Go.Proofs.Ytjcbgegdccaoaag
