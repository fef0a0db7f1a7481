/- The walk of the law of ThreeNew. -/
import Derived.Test.YtijmjpjclhgaoaaRows
import Derived.WalkKit
import Derived.ProofKit
import Derived.OpenShut
import Derived.ShutString
import Derived.Test.YtijmjpjclhgaoaaThreeNewFns
import Derived.Test.YtijmjpjclhgaoaaRtA
namespace Go.Proofs.Ytijmjpjclhgaoaa
open Go.ChangeShapes Go.WideShapes Go.ChangeAt Go.RowKit
set_option linter.unusedVariables false

theorem out_none {l : Nat} {w w' : World} (o : Out l l w w') : Below w.heap.size w w' := ⟨o.os, o.tape, o.output, o.size, fun k hk => o.block k hk (by omega)⟩
set_option maxHeartbeats 1600000 in
set_option maxRecDepth 100000 in
theorem walk_ThreeNew (cap most : Int) (w : World) :
    Calls Try.prog 5 #[.int .i64 cap, .int .i64 most] w fun e w' => e = .returned (.bool true) ∧ Below w.heap.size w w' := by
  obtain ⟨B, hB⟩ : ∃ B : Bool, (B = true ↔ TrOk ⟨cap, most, [], [], []⟩) := by
    by_cases h : TrOk ⟨cap, most, [], [], []⟩
    · exact ⟨true, by simp [h]⟩
    · exact ⟨false, by simp [h]⟩
  have HS := hidIt (fun W => spec_threenew cap most B hB W)
  have HI := hidIt (fun W => impl_threenew cap most B hB W)
  clear hB
  generalize cS B cap = c at HS HI
  generalize cS B most = d at HS HI
  have HE := hidIt (fun W => eq_three W _ _ _ _ _ _ ⟨c, d, [], [], []⟩ (fit0 _ _) (in0 c d W) (in0 c d W))
  have HM := hidIt (fun W => mark_three W 0 0 _ _ _ ⟨c, d, [], [], []⟩ 1 (fit0 _ _) (by omega) (by omega) (TrR.zero 0 0 c d W) (Nat.zero_le _))
  have HH := hidIt (fun W => held_three W 0 0 _ _ _ ⟨c, d, [], [], []⟩ 1 (fit0 _ _) (by omega) (by omega) (TrR.zero 0 0 c d W))
  go_enter Try.func5, Try.ntmps5
  go_wp2_with fail
  refine (HS.out _).mono ?_
  rintro e w3 ⟨rfl, b3⟩
  have z3 := b3.size
  have s3 := hidIt ((Sv.start w).grow b3)
  have t3 := hidIt (s3.out.box5 (.int .i64 c) (.int .i64 d) (.slice none 0 0) (.slice none 0 0) (.slice none 0 0) 37)
  clear b3 s3
  go_wp2_with fail
  refine (HI.out _).mono ?_
  rintro e w5 ⟨rfl, b5⟩
  have z5 := b5.size
  simp at z5
  have s5 := hidIt (t3.out.grow b5)
  have t5 := hidIt (s5.out.box5 (.int .i64 c) (.int .i64 d) (.slice none 0 0) (.slice none 0 0) (.slice none 0 0) 37)
  clear b5 t3 s5
  obtain ⟨c50, c51, c52, c53, c54⟩ := t5.out.get5 (b := w3.heap.size) (x0 := .int .i64 c) (x1 := .int .i64 d) (x2 := .slice none 0 0) (x3 := .slice none 0 0) (x4 := .slice none 0 0) (by simp) (by simp) (by simp) (by simp) (by simp)
  go_wp2_with fail
  clear c50 c51 c52 c53 c54
  refine (HE.out _).mono ?_
  rintro e w6 ⟨rfl, b6⟩
  have z6 := b6.size
  simp at z6
  have s6 := hidIt (t5.out.grow b6)
  clear b6 t5
  obtain ⟨c50, c51, c52, c53, c54⟩ := s6.out.get5 (b := w5.heap.size) (x0 := .int .i64 c) (x1 := .int .i64 d) (x2 := .slice none 0 0) (x3 := .slice none 0 0) (x4 := .slice none 0 0) (by simp) (by simp) (by simp) (by simp) (by simp)
  go_wp2_with fail
  clear c50 c51 c52 c53 c54
  refine (HM.out _).mono ?_
  rintro e w8 ⟨rfl, -, o8⟩
  have b8 := out_none o8
  have z8 := b8.size
  have s8 := hidIt (s6.out.grow b8)
  clear b8 o8 s6
  obtain ⟨c50, c51, c52, c53, c54⟩ := s8.out.get5 (b := w5.heap.size) (x0 := .int .i64 c) (x1 := .int .i64 d) (x2 := .slice none 0 0) (x3 := .slice none 0 0) (x4 := .slice none 0 0) (by simp) (by simp) (by simp) (by simp) (by simp)
  go_wp2_with fail
  clear c50 c51 c52 c53 c54
  refine (HH.out _).mono ?_
  rintro e w9 ⟨rfl, b9⟩
  have z9 := b9.size
  have s9 := hidIt (s8.out.grow b9)
  clear b9 s8
  go_wp2_with fail
  refine (HI.out _).mono ?_
  rintro e w10 ⟨rfl, b10⟩
  have z10 := b10.size
  have s10 := hidIt (s9.out.grow b10)
  have t10 := hidIt (s10.out.box5 (.int .i64 c) (.int .i64 d) (.slice none 0 0) (.slice none 0 0) (.slice none 0 0) 37)
  clear b10 s9 s10
  obtain ⟨c50, c51, c52, c53, c54⟩ := t10.out.get5 (b := w3.heap.size) (x0 := .int .i64 c) (x1 := .int .i64 d) (x2 := .slice none 0 0) (x3 := .slice none 0 0) (x4 := .slice none 0 0) (by simp) (by simp) (by simp) (by simp) (by simp)
  go_wp2_with fail
  clear c50 c51 c52 c53 c54
  refine (HE.out _).mono ?_
  rintro e w11 ⟨rfl, b11⟩
  have z11 := b11.size
  simp at z11
  have s11 := hidIt (t10.out.grow b11)
  clear b11 t10
  obtain ⟨c50, c51, c52, c53, c54⟩ := s11.out.get5 (b := w5.heap.size) (x0 := .int .i64 c) (x1 := .int .i64 d) (x2 := .slice none 0 0) (x3 := .slice none 0 0) (x4 := .slice none 0 0) (by simp) (by simp) (by simp) (by simp) (by simp)
  go_wp2_with fail
  clear c50 c51 c52 c53 c54
  refine (HH.out _).mono ?_
  rintro e w12 ⟨rfl, b12⟩
  have s12 := hidIt (s11.out.grow b12)
  clear b12 s11
  go_wp2
  go_ret
  exact ⟨rfl, s12.out.below⟩

end Go.Proofs.Ytijmjpjclhgaoaa
