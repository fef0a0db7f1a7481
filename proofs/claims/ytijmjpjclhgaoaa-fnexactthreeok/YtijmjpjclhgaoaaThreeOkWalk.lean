/- The walk of the law of ThreeOk. -/
import Derived.Test.YtijmjpjclhgaoaaRows
import Derived.WalkKit
import Derived.ProofKit
import Derived.OpenShut
import Derived.ShutString
import Derived.Test.YtijmjpjclhgaoaaRtB
import Derived.Test.YtijmjpjclhgaoaaRtC
import Derived.Test.YtijmjpjclhgaoaaRtA
import Derived.Deep.RegionHeld3
namespace Go.Proofs.Ytijmjpjclhgaoaa
open Go.ChangeShapes Go.WideShapes Go.ChangeAt Go.RowKit
set_option linter.unusedVariables false

theorem ok_fix {OK : Prop} {B : Bool} (hB : B = true ↔ OK) {w w' : World} {e : Ending} (h : OkAns OK w e w') : e = .returned (.bool B) ∧ Below w.heap.size w w' := by
  obtain ⟨⟨b, rfl, hb⟩, bl⟩ := h
  have : b = B := by
    cases b <;> cases B
    · rfl
    · have := hb.out.2 (hB.1 rfl); cases this
    · have := hB.2 (hb.out.1 rfl); cases this
    · rfl
  rw [this]
  exact ⟨rfl, bl⟩
set_option maxHeartbeats 3200000 in
set_option maxRecDepth 100000 in
theorem walk_ThreeOk (T : Tr) (s m g : Value) (w : World) (r0 : TrIn w s m g T) (hl : TrLim T) (hwf : TrWf T) :
    Calls Try.prog 4 #[.agg #[.int .i64 T.cap, .int .i64 T.most, s, m, g]] w fun e w' => e = .returned (.bool true) ∧ Below w.heap.size w w' := by
  have RI := hidIt r0
  obtain ⟨xaa, xka, xba, xla, xca, xma, rfl, rfl, rfl⟩ := r0.form
  clear r0
  by_cases hs : TrFit T
  · have HF := hidIt hs
    obtain ⟨B, hB⟩ : ∃ B : Bool, (B = true ↔ TrOk T) := by
      by_cases h : TrOk T
      · exact ⟨true, by simp [h]⟩
      · exact ⟨false, by simp [h]⟩
    have HS := hidIt (fun s m g W (hA : TrIn W s m g T) => (spec_threeok W s m g T hs hA).mono (fun e w' h => ok_fix hB h))
    have HI := hidIt (fun s m g W (hA : TrIn W s m g T) => (impl_threeok W s m g T hs hA).mono (fun e w' h => ok_fix hB h))
    clear hB
    have s0 := hidIt ((Sv.start w).box5 (.int .i64 T.cap) (.int .i64 T.most) (.slice xaa T.sm.length xka) (.slice xba T.mn.length xla) (.slice xca T.gh.length xma) 32)
    go_enter Try.func4, Try.ntmps4
    go_wp2_with fail
    refine (sz_three _ _ _ _ T (RI.out.below s0.out.below) hl).mono ?_
    rintro e w1 ⟨⟨z, rfl, hz, -⟩, b1⟩
    have hz0 := hz hs
    clear hz
    have s1 := hidIt (s0.out.grow b1)
    have z1 := b1.size
    (try simp at z1)
    obtain ⟨c10, c11, c12, c13, c14⟩ := s1.out.get5 (b := w.heap.size) (x0 := (.int .i64 T.cap)) (x1 := (.int .i64 T.most)) (x2 := (.slice xaa T.sm.length xka)) (x3 := (.slice xba T.mn.length xla)) (x4 := (.slice xca T.gh.length xma)) (by simp) (by simp) (by simp) (by simp) (by simp)
    clear b1 s0
    go_wp2_with fail
    clear hz0 c10 c11 c12 c13 c14
    refine (to_three _ _ _ _ T HF.out (RI.out.below s1.out.below)).mono ?_
    rintro e w2 ⟨f2, p2, l2, rfl, r2, b2⟩
    have s2 := hidIt (s1.out.grow b2)
    have z2 := b2.size
    have R2 := hidIt (r2.toQ.tin (Nat.le_refl _))
    obtain ⟨xa2, xk2, xb2, xl2, xc2, xm2, rfl, rfl, rfl⟩ := r2.form
    clear r2 b2 s1
    go_wp2_with fail
    refine (HS.out _ _ _ _ R2.out).mono ?_
    rintro e w3 ⟨rfl, b3⟩
    have s3 := hidIt (s2.out.grow b3)
    have z3 := b3.size
    clear b3 s2 R2
    obtain ⟨c30, c31, c32, c33, c34⟩ := s3.out.get5 (b := w.heap.size) (x0 := (.int .i64 T.cap)) (x1 := (.int .i64 T.most)) (x2 := (.slice xaa T.sm.length xka)) (x3 := (.slice xba T.mn.length xla)) (x4 := (.slice xca T.gh.length xma)) (by simp) (by simp) (by simp) (by simp) (by simp)
    go_wp2_with fail
    clear c30 c31 c32 c33 c34
    refine (to_three _ _ _ _ T HF.out (RI.out.below s3.out.below)).mono ?_
    rintro e w4 ⟨f4, p4, l4, rfl, r4, b4⟩
    have s4 := hidIt ((s3.out.grow b4).row (Nat.le_refl _) (TrR.loc _ _ _ _ _ _) r4)
    obtain ⟨xa4, xk4, xb4, xl4, xc4, xm4, rfl, rfl, rfl⟩ := r4.form
    have z4 := b4.size
    (try simp at z4)
    clear r4 b4 s3
    have t4 := hidIt (s4.out.box5 (.int .i64 T.cap) (.int .i64 T.most) (.slice xa4 T.sm.length xk4) (.slice xb4 T.mn.length xl4) (.slice xc4 T.gh.length xm4) 37)
    go_wp2_with fail
    refine (HI.out _ _ _ _ ((t4.out.at (.head _)).2.toQ.tin (t4.out.at (.head _)).1)).mono ?_
    rintro e w6 ⟨rfl, b6⟩
    have s6 := hidIt (t4.out.grow b6)
    have z6 := b6.size
    (try simp at z6)
    clear b6 t4 s4
    go_wp2_with fail
    obtain ⟨PP, p0, pd, pg, ps'⟩ := s6.out.pack
    have PD := hidIt pd
    have PG := hidIt pg
    have PS := hidIt ps'
    have PC := hidIt (fun W (h : PP W) => (⟨(ps' W h).get (by simp), (ps' W h).get (by simp), (ps' W h).get (by simp), (ps' W h).get (by simp), (ps' W h).get (by simp), (ps' W h).get (by simp), (ps' W h).get (by simp), (ps' W h).get (by simp), (ps' W h).get (by simp), (ps' W h).get (by simp)⟩ : W.cell? ⟨w.heap.size, 0, none⟩ = some (.int .i64 T.cap) ∧ W.cell? ⟨w.heap.size, 1, none⟩ = some (.int .i64 T.most) ∧ W.cell? ⟨w.heap.size, 2, none⟩ = some (.slice xaa T.sm.length xka) ∧ W.cell? ⟨w.heap.size, 3, none⟩ = some (.slice xba T.mn.length xla) ∧ W.cell? ⟨w.heap.size, 4, none⟩ = some (.slice xca T.gh.length xma) ∧ W.cell? ⟨w4.heap.size, 0, none⟩ = some (.int .i64 T.cap) ∧ W.cell? ⟨w4.heap.size, 1, none⟩ = some (.int .i64 T.most) ∧ W.cell? ⟨w4.heap.size, 2, none⟩ = some (.slice xa4 T.sm.length xk4) ∧ W.cell? ⟨w4.heap.size, 3, none⟩ = some (.slice xb4 T.mn.length xl4) ∧ W.cell? ⟨w4.heap.size, 4, none⟩ = some (.slice xc4 T.gh.length xm4)))
    have h6 := and_mk PC.out p0
    clear pd pg ps' p0 s6
    go_region_held3 (fun W => PP W ∧ W.cell? ⟨w.heap.size, 0, none⟩ = some (.int .i64 T.cap) ∧ W.cell? ⟨w.heap.size, 1, none⟩ = some (.int .i64 T.most) ∧ W.cell? ⟨w.heap.size, 2, none⟩ = some (.slice xaa T.sm.length xka) ∧ W.cell? ⟨w.heap.size, 3, none⟩ = some (.slice xba T.mn.length xla) ∧ W.cell? ⟨w.heap.size, 4, none⟩ = some (.slice xca T.gh.length xma) ∧ W.cell? ⟨w4.heap.size, 0, none⟩ = some (.int .i64 T.cap) ∧ W.cell? ⟨w4.heap.size, 1, none⟩ = some (.int .i64 T.most) ∧ W.cell? ⟨w4.heap.size, 2, none⟩ = some (.slice xa4 T.sm.length xk4) ∧ W.cell? ⟨w4.heap.size, 3, none⟩ = some (.slice xb4 T.mn.length xl4) ∧ W.cell? ⟨w4.heap.size, 4, none⟩ = some (.slice xc4 T.gh.length xm4))
      (first | exact and_mk PC.out (PD.out _ (And.left (by assumption))) | exact and_mk PC.out (PG.out _ _ (And.left (by assumption)) (by assumption)))
      (first | (go_at_call 15; refine (to_three _ _ _ _ T HF.out (RI.out.below (PS.out _ (And.left (by assumption))).below)).mono ?_; rintro e wa ⟨fa', pa', la', rfl, ra, ba⟩; obtain ⟨xa7, xk7, xb7, xl7, xc7, xm7, rfl, rfl, rfl⟩ := ra.form) | (go_at_call 17; refine (eq_three _ _ _ _ _ _ _ T HF.out (((PS.out _ (And.left (by assumption))).at (.head _)).2.toQ.tin ((PS.out _ (And.left (by assumption))).at (.head _)).1) (ra.toQ.tin (Nat.le_refl _))).mono ?_; rintro e w7 ⟨rfl, b7⟩))
    rename_i h7
    have s7 := hidIt ((PS.out _ h7.1))
    have z7 : w6.heap.size ≤ w7.heap.size := by have := b7.size; have := ba.size; simp at *; omega
    clear PD PG PC PS h6 h7 ra ba b7
    go_wp2
    go_ret
    exact ⟨rfl, s7.out.below⟩
  · go_enter Try.func4, Try.ntmps4
    go_wp2_with fail
    refine (sz_three _ _ _ _ T (RI.out.below ((Below.refl _ _).alloc (Nat.le_refl _) _)) hl).mono ?_
    rintro e w1 ⟨⟨z, rfl, -, hz⟩, b1⟩
    obtain rfl := hz hs
    go_wp2
    go_ret
    exact ⟨rfl, ((Below.refl _ _).alloc (Nat.le_refl _) _).trans (b1.mono (by simp <;> omega))⟩

end Go.Proofs.Ytijmjpjclhgaoaa
