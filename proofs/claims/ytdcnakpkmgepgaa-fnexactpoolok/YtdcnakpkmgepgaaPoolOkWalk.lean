/- The walk of the law of PoolOk. -/
import Derived.Test.YtdcnakpkmgepgaaRows
import Derived.WalkKit
import Derived.ProofKit
import Derived.OpenShut
import Derived.ShutString
import Derived.Test.YtdcnakpkmgepgaaPoolOkBoth
import Derived.Test.YtdcnakpkmgepgaaPoolAns
import Derived.Deep.RegionHeld3
namespace Go.Proofs.Ytdcnakpkmgepgaa
open Go.ChangeShapes Go.WideShapes Go.ChangeAt Go.RowKit
set_option linter.unusedVariables false

set_option maxHeartbeats 3200000 in
set_option maxRecDepth 100000 in
theorem walk_PoolOk (P : Pl) (f p l v : Value) (w : World) (r0 : PlIn w f p l v P) (n0 : P.fr.length ≤ maxLen) (n1 : P.ps.length ≤ maxLen) (n2 : P.L.length ≤ maxLen) (n3 : P.lv.length ≤ maxLen) (hwf : PlWf P) :
    Calls Try.prog 3 #[.agg #[f, .int .i64 P.a, p, l, v]] w fun e w' => e = .returned (.bool true) ∧ Below w.heap.size w w' := by
  have RI := hidIt r0
  obtain ⟨xaa, xka, xba, xla, xca, xma, xda, xna, rfl, rfl, rfl, rfl⟩ := r0.form
  clear r0
  unfold maxLen at n0 n1 n2 n3
  by_cases hs : P.fr.length + P.ps.length + P.L.length + P.lv.length ≤ 1048576
  · have HF : Hid (PlFit P) := hidIt (show PlFit P from hs)
    have HS := hidIt (fun f p l v W (hA : PlIn W f p l v P) => spec_poolok W f p l v P  hs hA)
    have HI := hidIt (fun f p l v W (hA : PlIn W f p l v P) => impl_poolok W f p l v P  hs hwf hA)
    generalize plOkB P = B at HS HI
    have s0 := hidIt ((Sv.start w).box5 (.slice xaa P.fr.length xka) (.int .i64 P.a) (.slice xba P.ps.length xla) (.slice xca P.L.length xma) (.slice xda P.lv.length xna) 27)
    go_enter Try.func3, Try.ntmps3
    go_wp2_with fail
    refine (sz_pool P.a _ _ _ _ P.fr.length _ P.ps.length _ P.L.length _ P.lv.length _ _ (by omega) (by omega) (by omega) (by omega)).mono ?_
    rintro e w1 ⟨⟨z, rfl, hz, -⟩, b1⟩
    have hz0 := hz hs
    clear hz
    have s1 := hidIt (s0.out.grow b1)
    have z1 := b1.size
    (try simp at z1)
    obtain ⟨c10, c11, c12, c13, c14⟩ := s1.out.get5 (b := w.heap.size) (x0 := (.slice xaa P.fr.length xka)) (x1 := (.int .i64 P.a)) (x2 := (.slice xba P.ps.length xla)) (x3 := (.slice xca P.L.length xma)) (x4 := (.slice xda P.lv.length xna)) (by simp) (by simp) (by simp) (by simp) (by simp)
    clear b1 s0
    go_wp2_with fail
    clear hz0 c10 c11 c12 c13 c14
    refine (to_pool _ _ _ _ _ P HF.out (RI.out.below s1.out.below)).mono ?_
    rintro e w2 ⟨f2, p2, l2, v2, rfl, r2, b2⟩
    have s2 := hidIt (s1.out.grow b2)
    have z2 := b2.size
    have R2 := hidIt (r2.toQ.pin (Nat.le_refl _))
    obtain ⟨xa2, xk2, xb2, xl2, xc2, xm2, xd2, xn2, rfl, rfl, rfl, rfl⟩ := r2.form
    clear r2 b2 s1
    go_wp2_with fail
    refine (HS.out _ _ _ _ _ R2.out).mono ?_
    rintro e w3 ⟨rfl, b3⟩
    have s3 := hidIt (s2.out.grow b3)
    have z3 := b3.size
    clear b3 s2 R2
    obtain ⟨c30, c31, c32, c33, c34⟩ := s3.out.get5 (b := w.heap.size) (x0 := (.slice xaa P.fr.length xka)) (x1 := (.int .i64 P.a)) (x2 := (.slice xba P.ps.length xla)) (x3 := (.slice xca P.L.length xma)) (x4 := (.slice xda P.lv.length xna)) (by simp) (by simp) (by simp) (by simp) (by simp)
    go_wp2_with fail
    clear c30 c31 c32 c33 c34
    refine (to_pool _ _ _ _ _ P HF.out (RI.out.below s3.out.below)).mono ?_
    rintro e w4 ⟨f4, p4, l4, v4, rfl, r4, b4⟩
    have s4 := hidIt ((s3.out.grow b4).row (Nat.le_refl _) (PlR.loc _ _ _ _ _ _ _) r4)
    obtain ⟨xa4, xk4, xb4, xl4, xc4, xm4, xd4, xn4, rfl, rfl, rfl, rfl⟩ := r4.form
    have z4 := b4.size
    (try simp at z4)
    clear r4 b4 s3
    have t4 := hidIt (s4.out.box5 (.slice xa4 P.fr.length xk4) (.int .i64 P.a) (.slice xb4 P.ps.length xl4) (.slice xc4 P.L.length xm4) (.slice xd4 P.lv.length xn4) 34)
    go_wp2_with fail
    refine (HI.out _ _ _ _ _ ((t4.out.at (.head _)).2.toQ.pin (t4.out.at (.head _)).1)).mono ?_
    rintro e w6 ⟨rfl, b6⟩
    have s6 := hidIt (t4.out.grow b6)
    have z6 := b6.size
    (try simp at z6)
    clear b6 t4 s4
    go_wp2_with fail
    obtain ⟨PP, p0, pd, pg, ps'⟩ := s6.out.pack
    have PD := hidIt pd
    have PG := hidIt pg
    have PS := hidIt ps'
    have PC := hidIt (fun W (h : PP W) => (⟨(ps' W h).get (by simp), (ps' W h).get (by simp), (ps' W h).get (by simp), (ps' W h).get (by simp), (ps' W h).get (by simp), (ps' W h).get (by simp), (ps' W h).get (by simp), (ps' W h).get (by simp), (ps' W h).get (by simp), (ps' W h).get (by simp)⟩ : W.cell? ⟨w.heap.size, 0, none⟩ = some (.slice xaa P.fr.length xka) ∧ W.cell? ⟨w.heap.size, 1, none⟩ = some (.int .i64 P.a) ∧ W.cell? ⟨w.heap.size, 2, none⟩ = some (.slice xba P.ps.length xla) ∧ W.cell? ⟨w.heap.size, 3, none⟩ = some (.slice xca P.L.length xma) ∧ W.cell? ⟨w.heap.size, 4, none⟩ = some (.slice xda P.lv.length xna) ∧ W.cell? ⟨w4.heap.size, 0, none⟩ = some (.slice xa4 P.fr.length xk4) ∧ W.cell? ⟨w4.heap.size, 1, none⟩ = some (.int .i64 P.a) ∧ W.cell? ⟨w4.heap.size, 2, none⟩ = some (.slice xb4 P.ps.length xl4) ∧ W.cell? ⟨w4.heap.size, 3, none⟩ = some (.slice xc4 P.L.length xm4) ∧ W.cell? ⟨w4.heap.size, 4, none⟩ = some (.slice xd4 P.lv.length xn4)))
    have h6 := and_mk PC.out p0
    clear pd pg ps' p0 s6
    go_region_held3 (fun W => PP W ∧ W.cell? ⟨w.heap.size, 0, none⟩ = some (.slice xaa P.fr.length xka) ∧ W.cell? ⟨w.heap.size, 1, none⟩ = some (.int .i64 P.a) ∧ W.cell? ⟨w.heap.size, 2, none⟩ = some (.slice xba P.ps.length xla) ∧ W.cell? ⟨w.heap.size, 3, none⟩ = some (.slice xca P.L.length xma) ∧ W.cell? ⟨w.heap.size, 4, none⟩ = some (.slice xda P.lv.length xna) ∧ W.cell? ⟨w4.heap.size, 0, none⟩ = some (.slice xa4 P.fr.length xk4) ∧ W.cell? ⟨w4.heap.size, 1, none⟩ = some (.int .i64 P.a) ∧ W.cell? ⟨w4.heap.size, 2, none⟩ = some (.slice xb4 P.ps.length xl4) ∧ W.cell? ⟨w4.heap.size, 3, none⟩ = some (.slice xc4 P.L.length xm4) ∧ W.cell? ⟨w4.heap.size, 4, none⟩ = some (.slice xd4 P.lv.length xn4))
      (first | exact and_mk PC.out (PD.out _ (And.left (by assumption))) | exact and_mk PC.out (PG.out _ _ (And.left (by assumption)) (by assumption)))
      (first | (go_at_call 11; refine (to_pool _ _ _ _ _ P HF.out (RI.out.below (PS.out _ (And.left (by assumption))).below)).mono ?_; rintro e wa ⟨fa', pa', la', va', rfl, ra, ba⟩; obtain ⟨xa7, xk7, xb7, xl7, xc7, xm7, xd7, xn7, rfl, rfl, rfl, rfl⟩ := ra.form) | (go_at_call 13; refine (eq_pool _ _ _ _ _ _ _ _ _ _ _ _ _ P HF.out ((PS.out _ (And.left (by assumption))).at (.head _)).1 (Nat.le_refl _) ((PS.out _ (And.left (by assumption))).at (.head _)).2.toQ ra.toQ).mono ?_; rintro e w7 ⟨rfl, b7⟩))
    rename_i h7
    have s7 := hidIt (PS.out _ h7.1)
    have z7 : w6.heap.size ≤ w7.heap.size := by have := b7.size; have := ba.size; simp at *; omega
    clear PD PG PC PS h6 h7 ra ba b7
    go_wp2
    go_ret
    exact ⟨rfl, s7.out.below⟩
  · go_enter Try.func3, Try.ntmps3
    go_wp2_with fail
    refine (sz_pool P.a _ _ _ _ P.fr.length _ P.ps.length _ P.L.length _ P.lv.length _ _ (by omega) (by omega) (by omega) (by omega)).mono ?_
    rintro e w1 ⟨⟨z, rfl, -, hz⟩, b1⟩
    obtain rfl := hz hs
    go_wp2
    go_ret
    exact ⟨rfl, ((Below.refl _ _).alloc (Nat.le_refl _) _).trans (b1.mono (by simp <;> omega))⟩

end Go.Proofs.Ytdcnakpkmgepgaa
