/- The walk of the law of AgesNew. -/
import Derived.Test.YtomehhheiodagaaRows
import Derived.WalkKit
import Derived.ProofKit
import Derived.OpenShut
import Derived.ShutString
import Derived.Test.YtomehhheiodagaaAgesNewFns
import Derived.Test.YtomehhheiodagaaAgesFns
namespace Go.Proofs.Ytomehhheiodagaa
open Go.ChangeShapes Go.WideShapes Go.ChangeAt Go.RowKit
set_option linter.unusedVariables false

set_option maxHeartbeats 1600000 in
set_option maxRecDepth 100000 in
theorem walk_AgesNew (n : Int) (w : World) :
    Calls Try.prog 4 #[.int .i64 n] w fun e w' => e = .returned (.bool true) ∧ Below w.heap.size w w' := by
  have HS := hidIt (fun W => spec_agesnew W n)
  have HI := hidIt (fun W => impl_agesnew W n)
  have hP := newP_len n
  generalize newP n = P' at HS HI hP
  generalize newB n = B' at HS HI
  have hL : ([] : List (Int × Int)).length ≤ 4194304 := by simp
  go_enter Try.func4, Try.ntmps4
  go_wp2_with fail
  refine (HS.out _).mono ?_
  rintro e w3 ⟨p3, l3, rfl, r3, b3⟩
  have s3 := hidIt (((Sv.start w).grow b3).row (Nat.le_refl _) (AR.loc _ _ _ _ _ _) r3)
  obtain ⟨a3, k3, b3', j3, rfl, rfl, -⟩ := r3.form
  have z3 := b3.size
  clear r3 b3
  have t3 := hidIt (s3.out.box3 (.int .i64 0) (.slice a3 P'.length k3) (.slice b3' 0 j3) 30)
  clear s3
  go_wp2_with fail
  refine (HI.out _).mono ?_
  rintro e w5 ⟨p5, l5, rfl, r5, b5⟩
  have s5 := hidIt ((t3.out.grow b5).row (Nat.le_refl _) (AR.loc _ _ _ _ _ _) r5)
  obtain ⟨a5, k5, b5', j5, rfl, rfl, -⟩ := r5.form
  have z5 := b5.size
  simp at z5
  clear r5 b5 t3
  have t5 := hidIt (s5.out.box3 (.int .i64 0) (.slice a5 P'.length k5) (.slice b5' 0 j5) 30)
  obtain ⟨c50, c51, c52⟩ := t5.out.get3 (b := w3.heap.size) (x0 := (.int .i64 0)) (x1 := (.slice a3 P'.length k3)) (x2 := (.slice b3' 0 j3)) (by simp) (by simp) (by simp)
  go_wp2_with fail
  refine (eq_ages _ _ _ _ _ 0 _ _ _ _ P' [] (by omega) hL (t5.out.at (.head _)).1 (t5.out.at (.tail _ (.head _))).1 (t5.out.at (.head _)).2 (t5.out.at (.tail _ (.head _))).2).mono ?_
  rintro e w6 ⟨rfl, b6⟩
  have s6 := hidIt (t5.out.grow b6)
  have z6 := b6.size
  simp at z6
  clear b6 c50 c51 c52 t5 s5
  obtain ⟨c90, c91, c92⟩ := s6.out.get3 (b := w5.heap.size) (x0 := (.int .i64 0)) (x1 := (.slice a5 P'.length k5)) (x2 := (.slice b5' 0 j5)) (by simp) (by simp) (by simp)
  go_wp2_with fail
  refine (mark_ages _ _ _ 0 _ _ P' [] 1 (by omega) hL (by omega) (s6.out.at (.head _)).1 (s6.out.at (.head _)).2).mono ?_
  rintro e w10 ⟨rfl, r10, o10⟩
  have s10 := hidIt (s6.out.mark1 o10 (AM.loc _ _ _ _ _ _ _) r10 (by simp <;> omega) (by simp <;> omega) (by simp <;> omega))
  have z10 := o10.size
  clear r10 o10 s6 c90 c91 c92
  obtain ⟨c100, c101, c102⟩ := s10.out.get3 (b := w5.heap.size) (x0 := (.int .i64 0)) (x1 := (.slice a5 P'.length k5)) (x2 := (.slice b5' 0 j5)) (by simp) (by simp) (by simp)
  go_wp2_with fail
  refine (held_ages _ _ _ 0 _ _ P'.length 0 1 (by omega) (by omega) (by omega) (s10.out.at (.head _)).1 (s10.out.at (.head _)).2).mono ?_
  rintro e w11 ⟨rfl, b11⟩
  have s11 := hidIt (s10.out.grow b11)
  have z11 := b11.size
  clear b11 c100 c101 c102 s10
  go_wp2_with fail
  refine (HI.out _).mono ?_
  rintro e w13 ⟨p13, l13, rfl, r13, b13⟩
  have s13 := hidIt ((s11.out.grow b13).row (Nat.le_refl _) (AR.loc _ _ _ _ _ _) r13)
  obtain ⟨a13, k13, b13', j13, rfl, rfl, -⟩ := r13.form
  have z13 := b13.size
  clear r13 b13 s11
  have t13 := hidIt (s13.out.box3 (.int .i64 0) (.slice a13 P'.length k13) (.slice b13' 0 j13) 30)
  obtain ⟨c130, c131, c132⟩ := t13.out.get3 (b := w3.heap.size) (x0 := (.int .i64 0)) (x1 := (.slice a3 P'.length k3)) (x2 := (.slice b3' 0 j3)) (by simp) (by simp) (by simp)
  go_wp2_with fail
  refine (eq_ages _ _ _ _ _ 0 _ _ _ _ P' [] (by omega) hL (t13.out.at (.head _)).1 (t13.out.at (.tail _ (.tail _ (.head _)))).1 (t13.out.at (.head _)).2 (t13.out.at (.tail _ (.tail _ (.head _)))).2).mono ?_
  rintro e w14 ⟨rfl, b14⟩
  have s14 := hidIt (t13.out.grow b14)
  clear b14 c130 c131 c132 t13 s13
  obtain ⟨c140, c141, c142⟩ := s14.out.get3 (b := w5.heap.size) (x0 := (.int .i64 0)) (x1 := (.slice a5 P'.length k5)) (x2 := (.slice b5' 0 j5)) (by simp) (by simp) (by simp)
  go_wp2_with fail
  refine (held_ages _ _ _ 0 _ _ P'.length 0 1 (by omega) (by omega) (by omega) (s14.out.at (.tail _ (.head _))).1 (s14.out.at (.tail _ (.head _))).2).mono ?_
  rintro e w15 ⟨rfl, b15⟩
  go_wp2
  go_ret
  exact ⟨rfl, (s14.out.grow b15).below⟩

end Go.Proofs.Ytomehhheiodagaa
