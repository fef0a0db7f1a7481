/- The walk of the law of Advance. -/
import Derived.Test.YtomehhheiodagaaRows
import Derived.WalkKit
import Derived.ProofKit
import Derived.OpenShut
import Derived.ShutString
import Derived.Test.YtomehhheiodagaaAdvanceFns
import Derived.Test.YtomehhheiodagaaAgesFns
import Derived.Deep.RegionHeld3
namespace Go.Proofs.Ytomehhheiodagaa
open Go.ChangeShapes Go.WideShapes Go.ChangeAt Go.RowKit
set_option linter.unusedVariables false

set_option maxHeartbeats 1600000 in
set_option maxRecDepth 100000 in
theorem walk_Advance (a : Int) (p l : Value) (ps : List Int) (L : List (Int × Int)) (w : World) (r0 : AIn w p l ps L) (n0 : ps.length ≤ maxLen) (k0 : L.length ≤ maxLen) :
    Calls Try.prog 8 #[.agg #[.int .i64 a, p, l]] w fun e w' => e = .returned (.bool true) ∧ Below w.heap.size w w' := by
  have RI := hidIt r0
  obtain ⟨pa, pc, la, lc, rfl, rfl, -⟩ := r0.form
  clear r0
  unfold maxLen at n0 k0
  by_cases hs : ps.length + L.length ≤ 1048576
  · have HS := hidIt (fun p l W => spec_advance W a p l ps L )
    have HI := hidIt (fun p l W => impl_advance W a p l ps L )
    have hP : (retP (okB a ps L) ps).length ≤ 4194304 := by unfold retP; split <;> first | (simp; done) | omega | (simp; omega)
    have hL : (setLm (okB a ps L) L).length ≤ 4194304 := by unfold setLm; split <;> first | (simp; done) | omega | (simp; omega)
    generalize setA (okB a ps L) (advA a ps) = A' at HS HI
    generalize retP (okB a ps L) ps = P' at HS HI hP
    generalize setLm (okB a ps L) L = L' at HS HI hL
    generalize advOk a ps L = B' at HS HI
    have s0 := hidIt ((Sv.start w).box3 (.int .i64 a) (.slice pa ps.length pc) (.slice la L.length lc) 25)
    go_enter Try.func8, Try.ntmps8
    go_wp2_with fail
    refine (sz_ages a pa la ps.length pc L.length lc _ (by omega) (by omega)).mono ?_
    rintro e w1 ⟨rfl, b1⟩
    rw [if_pos hs]
    have s1 := hidIt (s0.out.grow b1)
    have z1 := b1.size
    simp at z1
    obtain ⟨c10, c11, c12⟩ := s1.out.get3 (b := w.heap.size) (x0 := (.int .i64 a)) (x1 := (.slice pa ps.length pc)) (x2 := (.slice la L.length lc)) (by simp) (by simp) (by simp)
    clear b1 s0
    go_wp2_with fail
    refine (to_ages _ a _ _ ps L (by omega) (by omega) (RI.out.below s1.out.below)).mono ?_
    rintro e w2 ⟨p2, l2, rfl, r2, b2⟩
    have s2 := hidIt (s1.out.grow b2)
    have z2 := b2.size
    have R2 := hidIt (r2.ain (Nat.le_refl _))
    obtain ⟨a2, k2, b2', j2, rfl, rfl, -⟩ := r2.form
    clear r2 b2 c10 c11 c12 s1
    go_wp2_with fail
    refine (HS.out _ _ _ R2.out).mono ?_
    rintro e w3 ⟨p3, l3, rfl, r3, b3⟩
    have s3 := hidIt ((s2.out.grow b3).row (Nat.le_refl _) (AR.loc _ _ _ _ _ _) r3)
    obtain ⟨a3, k3, b3', j3, rfl, rfl, -⟩ := r3.form
    have z3 := b3.size
    clear r3 b3 s2 R2
    have t3 := hidIt (s3.out.box3 (.int .i64 A') (.slice a3 P'.length k3) (.slice b3' L'.length j3) 30)
    obtain ⟨c30, c31, c32⟩ := t3.out.get3 (b := w.heap.size) (x0 := (.int .i64 a)) (x1 := (.slice pa ps.length pc)) (x2 := (.slice la L.length lc)) (by simp) (by simp) (by simp)
    go_wp2_with fail
    refine (to_ages _ a _ _ ps L (by omega) (by omega) (RI.out.below t3.out.below)).mono ?_
    rintro e w4 ⟨p4, l4, rfl, r4, b4⟩
    have s4 := hidIt ((t3.out.grow b4).row (Nat.le_refl _) (AR.loc _ _ _ _ _ _) r4)
    obtain ⟨a4, k4, b4', j4, rfl, rfl, -⟩ := r4.form
    have z4 := b4.size
    simp at z4
    clear r4 b4 c30 c31 c32 t3 s3
    have t4 := hidIt (s4.out.box3 (.int .i64 a) (.slice a4 ps.length k4) (.slice b4' L.length j4) 30)
    go_wp2_with fail
    refine (HI.out _ _ _ ((t4.out.at (.head _)).2.ain (t4.out.at (.head _)).1)).mono ?_
    rintro e w5 ⟨p5, l5, rfl, r5, b5⟩
    have s5 := hidIt ((t4.out.grow b5).row (Nat.le_refl _) (AR.loc _ _ _ _ _ _) r5)
    obtain ⟨a5, k5, b5', j5, rfl, rfl, -⟩ := r5.form
    have z5 := b5.size
    simp at z5
    clear r5 b5 t4 s4
    have t5 := hidIt (s5.out.box3 (.int .i64 A') (.slice a5 P'.length k5) (.slice b5' L'.length j5) 30)
    obtain ⟨c50, c51, c52⟩ := t5.out.get3 (b := w3.heap.size) (x0 := (.int .i64 A')) (x1 := (.slice a3 P'.length k3)) (x2 := (.slice b3' L'.length j3)) (by simp) (by simp) (by simp)
    go_wp2_with fail
    refine (eq_ages _ _ _ _ _ A' _ _ _ _ P' L' (by omega) (by omega) (t5.out.at (.head _)).1 (t5.out.at (.tail _ (.tail _ (.head _)))).1 (t5.out.at (.head _)).2 (t5.out.at (.tail _ (.tail _ (.head _)))).2).mono ?_
    rintro e w6 ⟨rfl, b6⟩
    have s6 := hidIt (t5.out.grow b6)
    have z6 := b6.size
    simp at z6
    clear b6 c50 c51 c52 t5 s5
    go_wp2_with fail
    obtain ⟨P, p0, pd, pg, ps'⟩ := s6.out.pack
    have PD := hidIt pd
    have PG := hidIt pg
    have PS := hidIt ps'
    have PC := hidIt (fun W (h : P W) => (⟨(ps' W h).get (by simp), (ps' W h).get (by simp), (ps' W h).get (by simp), (ps' W h).get (by simp), (ps' W h).get (by simp), (ps' W h).get (by simp)⟩ : W.cell? ⟨w.heap.size, 0, none⟩ = some (.int .i64 a) ∧ W.cell? ⟨w.heap.size, 1, none⟩ = some (.slice pa ps.length pc) ∧ W.cell? ⟨w.heap.size, 2, none⟩ = some (.slice la L.length lc) ∧ W.cell? ⟨w4.heap.size, 0, none⟩ = some (.int .i64 a) ∧ W.cell? ⟨w4.heap.size, 1, none⟩ = some (.slice a4 ps.length k4) ∧ W.cell? ⟨w4.heap.size, 2, none⟩ = some (.slice b4' L.length j4)))
    have h6 := and_mk PC.out p0
    clear pd pg ps' p0 s6
    go_region_held3 (fun W => P W ∧ W.cell? ⟨w.heap.size, 0, none⟩ = some (.int .i64 a) ∧ W.cell? ⟨w.heap.size, 1, none⟩ = some (.slice pa ps.length pc) ∧ W.cell? ⟨w.heap.size, 2, none⟩ = some (.slice la L.length lc) ∧ W.cell? ⟨w4.heap.size, 0, none⟩ = some (.int .i64 a) ∧ W.cell? ⟨w4.heap.size, 1, none⟩ = some (.slice a4 ps.length k4) ∧ W.cell? ⟨w4.heap.size, 2, none⟩ = some (.slice b4' L.length j4))
      (first | exact and_mk PC.out (PD.out _ (And.left (by assumption))) | exact and_mk PC.out (PG.out _ _ (And.left (by assumption)) (by assumption)))
      (first | (go_at_call 11; refine (to_ages _ a _ _ ps L (by omega) (by omega) (RI.out.below (PS.out _ (And.left (by assumption))).below)).mono ?_; rintro e wa ⟨pa', la', rfl, ra, ba⟩; obtain ⟨aa, ca, ab, cb, rfl, rfl, -⟩ := ra.form) | (go_at_call 13; refine (eq_ages _ _ _ _ _ a _ _ _ _ ps L (by omega) (by omega) ((PS.out _ (And.left (by assumption))).at (.tail _ (.head _))).1 (Nat.le_refl _) ((PS.out _ (And.left (by assumption))).at (.tail _ (.head _))).2 ra).mono ?_; rintro e w7 ⟨rfl, b7⟩))
    rename_i h7
    have s7 := hidIt (PS.out _ h7.1).front1
    have z7 : w6.heap.size ≤ w7.heap.size := by have := b7.size; have := ba.size; simp at *; omega
    clear PD PG PC PS h6 h7 ra ba b7
    obtain ⟨c70, c71, c72⟩ := s7.out.get3 (b := w4.heap.size) (x0 := (.int .i64 a)) (x1 := (.slice a4 ps.length k4)) (x2 := (.slice b4' L.length j4)) (by simp) (by simp) (by simp)
    go_wp2_with fail
    refine (mark_ages _ _ _ a _ _ ps L 1 (by omega) (by omega) (by omega) (s7.out.at (.head _)).1 (s7.out.at (.head _)).2).mono ?_
    rintro e w8 ⟨rfl, r8, o8⟩
    have s8 := hidIt (s7.out.mark1 o8 (AM.loc _ _ _ _ _ _ _) r8 (by simp <;> omega) (by simp <;> omega) (by simp <;> omega))
    have z8 := o8.size
    clear r8 o8 s7 c70 c71 c72
    obtain ⟨c80, c81, c82⟩ := s8.out.get3 (b := w5.heap.size) (x0 := (.int .i64 A')) (x1 := (.slice a5 P'.length k5)) (x2 := (.slice b5' L'.length j5)) (by simp) (by simp) (by simp)
    obtain ⟨d80, d81, d82⟩ := s8.out.get3 (b := w3.heap.size) (x0 := (.int .i64 A')) (x1 := (.slice a3 P'.length k3)) (x2 := (.slice b3' L'.length j3)) (by simp) (by simp) (by simp)
    go_wp2_with fail
    refine (eq_ages _ _ _ _ _ A' _ _ _ _ P' L' (by omega) (by omega) (s8.out.at (.tail _ (.head _))).1 (s8.out.at (.tail _ (.tail _ (.head _)))).1 (s8.out.at (.tail _ (.head _))).2 (s8.out.at (.tail _ (.tail _ (.head _)))).2).mono ?_
    rintro e w9 ⟨rfl, b9⟩
    have s9 := hidIt (s8.out.grow b9).front1
    have z9 := b9.size
    clear b9 c80 c81 c82 d80 d81 d82 s8
    obtain ⟨c90, c91, c92⟩ := s9.out.get3 (b := w5.heap.size) (x0 := (.int .i64 A')) (x1 := (.slice a5 P'.length k5)) (x2 := (.slice b5' L'.length j5)) (by simp) (by simp) (by simp)
    go_wp2_with fail
    refine (mark_ages _ _ _ A' _ _ P' L' 1 (by omega) (by omega) (by omega) (s9.out.at (.head _)).1 (s9.out.at (.head _)).2).mono ?_
    rintro e w10 ⟨rfl, r10, o10⟩
    have s10 := hidIt (s9.out.mark1 o10 (AM.loc _ _ _ _ _ _ _) r10 (by simp <;> omega) (by simp <;> omega) (by simp <;> omega))
    have z10 := o10.size
    clear r10 o10 s9 c90 c91 c92
    obtain ⟨c100, c101, c102⟩ := s10.out.get3 (b := w5.heap.size) (x0 := (.int .i64 A')) (x1 := (.slice a5 P'.length k5)) (x2 := (.slice b5' L'.length j5)) (by simp) (by simp) (by simp)
    go_wp2_with fail
    refine (held_ages _ _ _ A' _ _ P'.length L'.length 1 (by omega) (by omega) (by omega) (s10.out.at (.head _)).1 (s10.out.at (.head _)).2).mono ?_
    rintro e w11 ⟨rfl, b11⟩
    have s11 := hidIt (s10.out.grow b11)
    have z11 := b11.size
    clear b11 c100 c101 c102 s10
    obtain ⟨c110, c111, c112⟩ := s11.out.get3 (b := w.heap.size) (x0 := (.int .i64 a)) (x1 := (.slice pa ps.length pc)) (x2 := (.slice la L.length lc)) (by simp) (by simp) (by simp)
    go_wp2_with fail
    refine (to_ages _ a _ _ ps L (by omega) (by omega) (RI.out.below s11.out.below)).mono ?_
    rintro e w12 ⟨p12, l12, rfl, r12, b12⟩
    have s12 := hidIt (s11.out.grow b12)
    have R12 := hidIt (r12.ain (Nat.le_refl _))
    obtain ⟨a12, k12, b12', j12, rfl, rfl, -⟩ := r12.form
    have z12 := b12.size
    clear r12 b12 c110 c111 c112 s11
    go_wp2_with fail
    refine (HI.out _ _ _ R12.out).mono ?_
    rintro e w13 ⟨p13, l13, rfl, r13, b13⟩
    have s13 := hidIt ((s12.out.grow b13).row (Nat.le_refl _) (AR.loc _ _ _ _ _ _) r13)
    obtain ⟨a13, k13, b13', j13, rfl, rfl, -⟩ := r13.form
    have z13 := b13.size
    clear r13 b13 s12 R12
    have t13 := hidIt (s13.out.box3 (.int .i64 A') (.slice a13 P'.length k13) (.slice b13' L'.length j13) 30)
    obtain ⟨c130, c131, c132⟩ := t13.out.get3 (b := w3.heap.size) (x0 := (.int .i64 A')) (x1 := (.slice a3 P'.length k3)) (x2 := (.slice b3' L'.length j3)) (by simp) (by simp) (by simp)
    go_wp2_with fail
    refine (eq_ages _ _ _ _ _ A' _ _ _ _ P' L' (by omega) (by omega) (t13.out.at (.head _)).1 (t13.out.at (.tail _ (.tail _ (.tail _ (.head _))))).1 (t13.out.at (.head _)).2 (t13.out.at (.tail _ (.tail _ (.tail _ (.head _))))).2).mono ?_
    rintro e w14 ⟨rfl, b14⟩
    have s14 := hidIt (t13.out.grow b14)
    clear b14 c130 c131 c132 t13 s13
    obtain ⟨c140, c141, c142⟩ := s14.out.get3 (b := w5.heap.size) (x0 := (.int .i64 A')) (x1 := (.slice a5 P'.length k5)) (x2 := (.slice b5' L'.length j5)) (by simp) (by simp) (by simp)
    go_wp2_with fail
    refine (held_ages _ _ _ A' _ _ P'.length L'.length 1 (by omega) (by omega) (by omega) (s14.out.at (.tail _ (.head _))).1 (s14.out.at (.tail _ (.head _))).2).mono ?_
    rintro e w15 ⟨rfl, b15⟩
    go_wp2
    go_ret
    exact ⟨rfl, (s14.out.grow b15).below⟩
  · go_enter Try.func8, Try.ntmps8
    go_wp2_with fail
    refine (sz_ages a pa la ps.length pc L.length lc _ (by omega) (by omega)).mono ?_
    rintro e w1 ⟨rfl, b1⟩
    rw [if_neg hs]
    go_wp2
    go_ret
    exact ⟨rfl, ((Below.refl _ _).alloc (Nat.le_refl _) _).trans (b1.mono (by simp <;> omega))⟩

end Go.Proofs.Ytomehhheiodagaa
