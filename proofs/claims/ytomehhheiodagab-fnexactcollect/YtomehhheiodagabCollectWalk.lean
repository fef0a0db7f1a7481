/- The walk of the law of Collect. -/
import Derived.Test.YtomehhheiodagabRows
import Derived.WalkKit
import Derived.ProofKit
import Derived.OpenShut
import Derived.ShutString
import Derived.Test.YtomehhheiodagabCollectSpec
import Derived.Test.YtomehhheiodagabAgesFns
import Derived.Deep.RegionHeld3
namespace Go.Proofs.Ytomehhheiodagab
open Go.ChangeShapes Go.WideShapes Go.ChangeAt Go.RowKit
set_option linter.unusedVariables false

theorem eq_intB (w : World) (l1 h1 l2 h2 : Nat) (v1 v2 : Value) (ps : List Int) (hn : ps.length ≤ 4194304) (r1 : Row w l1 h1 v1 (ints ps)) (r2 : Row w l2 h2 v2 (ints ps)) :
    Calls Try.prog 10 #[v1, v2] w fun e w' => e = .returned (.bool true) ∧ Below w.heap.size w w' :=
  (eq_int w l1 h1 l2 h2 v1 v2 ps hn r1 r2).mono fun _ _ ⟨h, n, e⟩ => ⟨h, by rw [e]; exact below_drewN (Below.refl _ _) n⟩
theorem Sv.front2 {w W : World} {cs : List (Nat × Nat × Value)} {a b c : Nat × Nat × (World → Prop)} {rs : List (Nat × Nat × (World → Prop))} (h : Sv w cs (a :: b :: c :: rs) W) : Sv w cs (c :: a :: b :: rs) W :=
  h.less (fun _ h => h) (fun x hx => by simp only [List.mem_cons] at hx ⊢; rcases hx with h | h | h | h <;> simp [h])
theorem col_len (a : Int) (ps : List Int) (L : List (Int × Int)) : (if okB a ps L = true then ps else []).length ≤ ps.length ∧ (if okB a ps L = true then colL a L else []).length ≤ L.length ∧ (if okB a ps L = true then colF a L else []).length ≤ L.length := by
  have h1 := List.length_filter_le (oldB a) L
  have h2 := List.length_filter_le (fun p => !oldB a p) L
  split
  · refine ⟨Nat.le_refl _, h2, ?_⟩
    unfold colF
    rw [List.length_map]
    exact h1
  · simp

set_option maxHeartbeats 1600000 in
set_option maxRecDepth 100000 in
theorem walk_Collect (a : Int) (p l : Value) (ps : List Int) (L : List (Int × Int)) (w : World) (r0 : AIn w p l ps L) (n0 : ps.length ≤ maxLen) (k0 : L.length ≤ maxLen) :
    Calls Try.prog 3 #[.agg #[.int .i64 a, p, l]] w fun e w' => e = .returned (.bool true) ∧ Below w.heap.size w w' := by
  have RI := hidIt r0
  obtain ⟨pa, pc, la, lc, rfl, rfl, -⟩ := r0.form
  clear r0
  unfold maxLen at n0 k0
  by_cases hs : ps.length + L.length ≤ 1048576
  · have HS := hidIt (fun p l W => spec_collect W a p l ps L)
    have HI := hidIt (fun p l W => impl_collect W a p l ps L)
    obtain ⟨hP, hL, hF⟩ := col_len a ps L
    generalize (if okB a ps L = true then ps else []) = P' at HS HI hP
    generalize (if okB a ps L = true then colL a L else []) = L' at HS HI hL
    generalize (if okB a ps L = true then colF a L else []) = F' at HS HI hF
    generalize (if okB a ps L = true then a else 0) = A' at HS HI
    have s0 := hidIt ((Sv.start w).box3 (.int .i64 a) (.slice pa ps.length pc) (.slice la L.length lc) 25)
    go_enter Try.func3, Try.ntmps3
    go_wp2_with fail
    refine (sz_ages a pa la ps.length pc L.length lc _ (by omega) (by omega)).mono ?_
    rintro e w1 ⟨rfl, b1⟩
    rw [if_pos hs]
    have s1 := hidIt (s0.out.grow b1)
    have z1 := b1.size
    simp at z1
    obtain ⟨c10, c11, c12⟩ := s1.out.get3 (b := w.heap.size) (x0 := (.int .i64 a)) (x1 := (.slice pa ps.length pc)) (x2 := (.slice la L.length lc)) (by simp) (by simp) (by simp)
    clear b1 s0
    go_wp2_with fail
    refine (to_ages _ a _ _ ps L (by omega) (by omega) (RI.out.below s1.out.below)).mono ?_
    rintro e w2 ⟨p2, l2, rfl, r2, b2⟩
    have s2 := hidIt (s1.out.grow b2)
    have z2 := b2.size
    have R2 := hidIt (r2.ain (Nat.le_refl _))
    obtain ⟨a2, k2, b2', j2, rfl, rfl, -⟩ := r2.form
    clear r2 b2 c10 c11 c12 s1
    go_wp2_with fail
    refine (HS.out _ _ _ R2.out).mono ?_
    rintro e w3 ⟨p3, l3, f3, rfl, r3, rf3, b3⟩
    have s3 := hidIt (((s2.out.grow b3).row (Nat.le_refl _) (AR.loc _ _ _ _ _ _) r3).row (Nat.le_refl _) (Row.loc _ _ _ _) rf3)
    obtain ⟨a3, k3, b3', j3, rfl, rfl, -⟩ := r3.form
    obtain ⟨u3, v3, rfl⟩ := rf3.form
    have z3 := b3.size
    clear r3 rf3 b3 s2 R2
    have t3 := hidIt (s3.out.box3 (.int .i64 A') (.slice a3 P'.length k3) (.slice b3' L'.length j3) 29)
    obtain ⟨c30, c31, c32⟩ := t3.out.get3 (b := w.heap.size) (x0 := (.int .i64 a)) (x1 := (.slice pa ps.length pc)) (x2 := (.slice la L.length lc)) (by simp) (by simp) (by simp)
    go_wp2_with fail
    refine (to_ages _ a _ _ ps L (by omega) (by omega) (RI.out.below t3.out.below)).mono ?_
    rintro e w4 ⟨p4, l4, rfl, r4, b4⟩
    have s4 := hidIt ((t3.out.grow b4).row (Nat.le_refl _) (AR.loc _ _ _ _ _ _) r4)
    obtain ⟨a4, k4, b4', j4, rfl, rfl, -⟩ := r4.form
    have z4 := b4.size
    simp at z4
    clear r4 b4 c30 c31 c32 t3 s3
    have t4 := hidIt (s4.out.box3 (.int .i64 a) (.slice a4 ps.length k4) (.slice b4' L.length j4) 29)
    go_wp2_with fail
    refine (HI.out _ _ _ ((t4.out.at (.head _)).2.ain (t4.out.at (.head _)).1)).mono ?_
    rintro e w5 ⟨p5, l5, f5, m5, rfl, r5, rf5, hm1, hm2, b5⟩
    simp at hm1
    have s5 := hidIt (((t4.out.grow b5).row hm2 (Row.loc _ _ _ _) rf5).row (Nat.le_refl _) (AR.loc _ _ _ _ _ _) r5)
    obtain ⟨a5, k5, b5', j5, rfl, rfl, -⟩ := r5.form
    obtain ⟨u5, v5, rfl⟩ := rf5.form
    have z5 := b5.size
    simp at z5
    clear r5 rf5 b5 t4 s4
    have t5 := hidIt (s5.out.box3 (.int .i64 A') (.slice a5 P'.length k5) (.slice b5' L'.length j5) 29)
    obtain ⟨c50, c51, c52⟩ := t5.out.get3 (b := w3.heap.size) (x0 := (.int .i64 A')) (x1 := (.slice a3 P'.length k3)) (x2 := (.slice b3' L'.length j3)) (by simp) (by simp) (by simp)
    go_wp2_with fail
    refine (eq_ages _ _ _ _ _ A' _ _ _ _ P' L' (by omega) (by omega) (t5.out.at (.head _)).1 (t5.out.at (.tail _ (.tail _ (.tail _ (.tail _ (.head _)))))).1 (t5.out.at (.head _)).2 (t5.out.at (.tail _ (.tail _ (.tail _ (.tail _ (.head _)))))).2).mono ?_
    rintro e w6a ⟨rfl, b6a⟩
    have s6a := hidIt (t5.out.grow b6a)
    have z6a := b6a.size
    (try simp at z6a)
    clear b6a c50 c51 c52 t5 s5
    go_wp2_with fail
    refine (eq_intB _ _ _ _ _ _ _ F' (by omega) (s6a.out.at (.tail _ (.head _))).2 (s6a.out.at (.tail _ (.tail _ (.tail _ (.head _))))).2).mono ?_
    rintro e w6 ⟨rfl, b6⟩
    have s6 := hidIt (s6a.out.grow b6)
    have z6 := b6.size
    clear b6 s6a
    go_wp2_with fail
    obtain ⟨P, p0, pd, pg, ps'⟩ := s6.out.pack
    have PD := hidIt pd
    have PG := hidIt pg
    have PS := hidIt ps'
    have PC := hidIt (fun W (h : P W) => (⟨(ps' W h).get (by simp), (ps' W h).get (by simp), (ps' W h).get (by simp), (ps' W h).get (by simp), (ps' W h).get (by simp), (ps' W h).get (by simp)⟩ : W.cell? ⟨w.heap.size, 0, none⟩ = some (.int .i64 a) ∧ W.cell? ⟨w.heap.size, 1, none⟩ = some (.slice pa ps.length pc) ∧ W.cell? ⟨w.heap.size, 2, none⟩ = some (.slice la L.length lc) ∧ W.cell? ⟨w4.heap.size, 0, none⟩ = some (.int .i64 a) ∧ W.cell? ⟨w4.heap.size, 1, none⟩ = some (.slice a4 ps.length k4) ∧ W.cell? ⟨w4.heap.size, 2, none⟩ = some (.slice b4' L.length j4)))
    have h6 := and_mk PC.out p0
    clear pd pg ps' p0 s6
    go_region_held3 (fun W => P W ∧ W.cell? ⟨w.heap.size, 0, none⟩ = some (.int .i64 a) ∧ W.cell? ⟨w.heap.size, 1, none⟩ = some (.slice pa ps.length pc) ∧ W.cell? ⟨w.heap.size, 2, none⟩ = some (.slice la L.length lc) ∧ W.cell? ⟨w4.heap.size, 0, none⟩ = some (.int .i64 a) ∧ W.cell? ⟨w4.heap.size, 1, none⟩ = some (.slice a4 ps.length k4) ∧ W.cell? ⟨w4.heap.size, 2, none⟩ = some (.slice b4' L.length j4))
      (first | exact and_mk PC.out (PD.out _ (And.left (by assumption))) | exact and_mk PC.out (PG.out _ _ (And.left (by assumption)) (by assumption)))
      (first | (go_at_call 7; refine (to_ages _ a _ _ ps L (by omega) (by omega) (RI.out.below (PS.out _ (And.left (by assumption))).below)).mono ?_; rintro e wa ⟨pa', la', rfl, ra, ba⟩; obtain ⟨aa, ca, ab, cb, rfl, rfl, -⟩ := ra.form) | (go_at_call 9; refine (eq_ages _ _ _ _ _ a _ _ _ _ ps L (by omega) (by omega) ((PS.out _ (And.left (by assumption))).at (.tail _ (.tail _ (.head _)))).1 (Nat.le_refl _) ((PS.out _ (And.left (by assumption))).at (.tail _ (.tail _ (.head _)))).2 ra).mono ?_; rintro e w7 ⟨rfl, b7⟩))
    rename_i h7
    have s7 := hidIt (PS.out _ h7.1).front2
    have z7 : w6.heap.size ≤ w7.heap.size := by have := b7.size; have := ba.size; simp at *; omega
    clear PD PG PC PS h6 h7 ra ba b7
    obtain ⟨c70, c71, c72⟩ := s7.out.get3 (b := w4.heap.size) (x0 := (.int .i64 a)) (x1 := (.slice a4 ps.length k4)) (x2 := (.slice b4' L.length j4)) (by simp) (by simp) (by simp)
    go_wp2_with fail
    refine (mark_ages _ _ _ a _ _ ps L 1 (by omega) (by omega) (by omega) (s7.out.at (.head _)).1 (s7.out.at (.head _)).2).mono ?_
    rintro e w8 ⟨rfl, r8, o8⟩
    have s8 := hidIt (s7.out.mark1 o8 (AM.loc _ _ _ _ _ _ _) r8 (by first | omega | (simp; done) | (simp; omega)) (by first | (simp; done) | (simp; omega)) (by first | (simp; done) | (simp; omega)))
    have z8 := o8.size
    clear r8 o8 s7 c70 c71 c72
    obtain ⟨c80, c81, c82⟩ := s8.out.get3 (b := w5.heap.size) (x0 := (.int .i64 A')) (x1 := (.slice a5 P'.length k5)) (x2 := (.slice b5' L'.length j5)) (by simp) (by simp) (by simp)
    obtain ⟨d80, d81, d82⟩ := s8.out.get3 (b := w3.heap.size) (x0 := (.int .i64 A')) (x1 := (.slice a3 P'.length k3)) (x2 := (.slice b3' L'.length j3)) (by simp) (by simp) (by simp)
    go_wp2_with fail
    refine (eq_ages _ _ _ _ _ A' _ _ _ _ P' L' (by omega) (by omega) (s8.out.at (.tail _ (.head _))).1 (s8.out.at (.tail _ (.tail _ (.tail _ (.tail _ (.head _)))))).1 (s8.out.at (.tail _ (.head _))).2 (s8.out.at (.tail _ (.tail _ (.tail _ (.tail _ (.head _)))))).2).mono ?_
    rintro e w9a ⟨rfl, b9a⟩
    have s9a := hidIt (s8.out.grow b9a)
    have z9a := b9a.size
    (try simp at z9a)
    clear b9a c80 c81 c82 d80 d81 d82 s8
    go_wp2_with fail
    refine (eq_intB _ _ _ _ _ _ _ F' (by omega) (s9a.out.at (.tail _ (.tail _ (.head _)))).2 (s9a.out.at (.tail _ (.tail _ (.tail _ (.head _))))).2).mono ?_
    rintro e w9 ⟨rfl, b9⟩
    have s9 := hidIt (s9a.out.grow b9)
    have z9 := b9.size
    clear b9 s9a
    have s9x := hidIt s9.out.front1
    clear s9
    obtain ⟨c90, c91, c92⟩ := s9x.out.get3 (b := w5.heap.size) (x0 := (.int .i64 A')) (x1 := (.slice a5 P'.length k5)) (x2 := (.slice b5' L'.length j5)) (by simp) (by simp) (by simp)
    go_wp2_with fail
    refine (mark_ages _ _ _ A' _ _ P' L' 1 (by omega) (by omega) (by omega) (s9x.out.at (.head _)).1 (s9x.out.at (.head _)).2).mono ?_
    rintro e w10 ⟨rfl, r10, o10⟩
    have s10 := hidIt (s9x.out.mark1 o10 (AM.loc _ _ _ _ _ _ _) r10 (by first | omega | (simp; done) | (simp; omega)) (by first | (simp; done) | (simp; omega)) (by first | (simp; done) | (simp; omega))).front2
    have z10 := o10.size
    clear r10 o10 s9x c90 c91 c92
    go_wp2_with fail
    refine (mark_int _ _ _ _ F' (1 + P'.length + L'.length * 2) (by omega) (by omega) (s10.out.at (.head _)).1 (s10.out.at (.head _)).2).mono ?_
    rintro e w10b ⟨rfl, r10, o10⟩
    have s10b := hidIt (s10.out.mark1 (Q := fun W => Row W _ _ _ (imarks (1 + P'.length + L'.length * 2) F'.length)) o10 (Row.loc _ _ _ _) r10 (by first | omega | (simp; done) | (simp; omega)) (by first | (simp; done) | (simp; omega)) (by first | (simp; done) | (simp; omega)))
    have z10b := o10.size
    clear r10 o10 s10
    obtain ⟨c100, c101, c102⟩ := s10b.out.get3 (b := w5.heap.size) (x0 := (.int .i64 A')) (x1 := (.slice a5 P'.length k5)) (x2 := (.slice b5' L'.length j5)) (by simp) (by simp) (by simp)
    go_wp2_with fail
    refine (held_ages _ _ _ A' _ _ P'.length L'.length 1 (by omega) (by omega) (by omega) (s10b.out.at (.tail _ (.head _))).1 (s10b.out.at (.tail _ (.head _))).2).mono ?_
    rintro e w11 ⟨rfl, b11⟩
    have s11 := hidIt (s10b.out.grow b11)
    have z11 := b11.size
    clear b11 c100 c101 c102 s10b
    go_wp2_with fail
    refine (held_int _ _ _ _ F'.length (1 + P'.length + L'.length * 2) (by omega) (by omega) (s11.out.at (.head _)).2).mono ?_
    rintro e w11 ⟨rfl, rfl⟩
    obtain ⟨c110, c111, c112⟩ := s11.out.get3 (b := w.heap.size) (x0 := (.int .i64 a)) (x1 := (.slice pa ps.length pc)) (x2 := (.slice la L.length lc)) (by simp) (by simp) (by simp)
    go_wp2_with fail
    refine (to_ages _ a _ _ ps L (by omega) (by omega) (RI.out.below s11.out.below)).mono ?_
    rintro e w12 ⟨p12, l12, rfl, r12, b12⟩
    have s12 := hidIt (s11.out.grow b12)
    have R12 := hidIt (r12.ain (Nat.le_refl _))
    obtain ⟨a12, k12, b12', j12, rfl, rfl, -⟩ := r12.form
    have z12 := b12.size
    clear r12 b12 c110 c111 c112 s11
    go_wp2_with fail
    refine (HI.out _ _ _ R12.out).mono ?_
    rintro e w13 ⟨p13, l13, f13, m13, rfl, r13, rf13, hn1, hn2, b13⟩
    have s13 := hidIt (((s12.out.grow b13).row hn2 (Row.loc _ _ _ _) rf13).row (Nat.le_refl _) (AR.loc _ _ _ _ _ _) r13)
    obtain ⟨a13, k13, b13', j13, rfl, rfl, -⟩ := r13.form
    obtain ⟨u13, v13, rfl⟩ := rf13.form
    have z13 := b13.size
    clear r13 rf13 b13 s12 R12
    have t13 := hidIt (s13.out.box3 (.int .i64 A') (.slice a13 P'.length k13) (.slice b13' L'.length j13) 29)
    obtain ⟨c130, c131, c132⟩ := t13.out.get3 (b := w3.heap.size) (x0 := (.int .i64 A')) (x1 := (.slice a3 P'.length k3)) (x2 := (.slice b3' L'.length j3)) (by simp) (by simp) (by simp)
    go_wp2_with fail
    refine (eq_ages _ _ _ _ _ A' _ _ _ _ P' L' (by omega) (by omega) (t13.out.at (.head _)).1 (t13.out.at (.tail _ (.tail _ (.tail _ (.tail _ (.tail _ (.tail _ (.head _)))))))).1 (t13.out.at (.head _)).2 (t13.out.at (.tail _ (.tail _ (.tail _ (.tail _ (.tail _ (.tail _ (.head _)))))))).2).mono ?_
    rintro e w14a ⟨rfl, b14a⟩
    have s14a := hidIt (t13.out.grow b14a)
    have z14a := b14a.size
    (try simp at z14a)
    clear b14a c130 c131 c132 t13 s13
    go_wp2_with fail
    refine (eq_intB _ _ _ _ _ _ _ F' (by omega) (s14a.out.at (.tail _ (.head _))).2 (s14a.out.at (.tail _ (.tail _ (.tail _ (.tail _ (.tail _ (.head _))))))).2).mono ?_
    rintro e w14 ⟨rfl, b14⟩
    have s14 := hidIt (s14a.out.grow b14)
    have z14 := b14.size
    clear b14 s14a
    obtain ⟨c140, c141, c142⟩ := s14.out.get3 (b := w5.heap.size) (x0 := (.int .i64 A')) (x1 := (.slice a5 P'.length k5)) (x2 := (.slice b5' L'.length j5)) (by simp) (by simp) (by simp)
    go_wp2_with fail
    refine (held_ages _ _ _ A' _ _ P'.length L'.length 1 (by omega) (by omega) (by omega) (s14.out.at (.tail _ (.tail _ (.tail _ (.head _))))).1 (s14.out.at (.tail _ (.tail _ (.tail _ (.head _))))).2).mono ?_
    rintro e w15 ⟨rfl, b15⟩
    have s15 := hidIt (s14.out.grow b15)
    clear b15 s14 c140 c141 c142
    go_wp2_with fail
    refine (held_int _ _ _ _ F'.length (1 + P'.length + L'.length * 2) (by omega) (by omega) (s15.out.at (.tail _ (.tail _ (.head _)))).2).mono ?_
    rintro e w15 ⟨rfl, rfl⟩
    go_wp2
    go_ret
    exact ⟨rfl, s15.out.below⟩
  · go_enter Try.func3, Try.ntmps3
    go_wp2_with fail
    refine (sz_ages a pa la ps.length pc L.length lc _ (by omega) (by omega)).mono ?_
    rintro e w1 ⟨rfl, b1⟩
    rw [if_neg hs]
    go_wp2
    go_ret
    exact ⟨rfl, ((Below.refl _ _).alloc (Nat.le_refl _) _).trans (b1.mono (by simp <;> omega))⟩

end Go.Proofs.Ytomehhheiodagab
