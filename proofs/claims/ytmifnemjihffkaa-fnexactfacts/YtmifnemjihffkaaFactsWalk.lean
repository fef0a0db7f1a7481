/- The walk of the law of Facts. -/
import Derived.Test.YtmifnemjihffkaaRows
import Derived.WalkKit
import Derived.ProofKit
import Derived.OpenShut
import Derived.ShutString
import Derived.Test.YtmifnemjihffkaaFactsFns
import Derived.Test.YtmifnemjihffkaaCwLaw
import Derived.Test.YtmifnemjihffkaaCrewHeld
namespace Go.Proofs.Ytmifnemjihffkaa
open Go.ChangeShapes Go.WideShapes Go.ChangeAt Go.RowKit
set_option linter.unusedVariables false

set_option maxHeartbeats 3200000 in
set_option maxRecDepth 100000 in
theorem walk_Facts (C : Cw) (vm vt : Value) (w : World) (r0 : CwIn w vm vt C) (l0 : CwLim C) (wf0 : CwWf C) (hL : CwFit C → C.m.length + szThs C.ts ≤ 1048576 → (factsL C).length ≤ 1048576) :
    Calls Try.prog 3 #[.agg #[.int .i64 C.what, .int .i64 C.size, vm, vt, .int .i64 C.clock]] w fun e w' => e = .returned (.bool true) ∧ Below w.heap.size w w' := by
  have RI := hidIt r0
  have LI := hidIt l0
  have WF := hidIt wf0
  obtain ⟨pa, pc, rfl, -⟩ := r0.m.form
  obtain ⟨la, lc, rfl, -⟩ := r0.ts.form
  clear r0 l0 wf0
  by_cases hs : C.m.length + szThs C.ts ≤ 1048576
  · have FT := hidIt (cw_fit C hs)
    have HE := hidIt (cw_end C hs)
    have HS := hidIt (fun p l W h => spec_facts W p l C h FT.out hs)
    have HI := hidIt (fun p l W h => impl_facts W p l C h FT.out hs)
    have hl := Nat.le_trans (hL FT.out hs) (show 1048576 ≤ 4194304 by omega)
    clear hL
    generalize factsL C = B at HS HI hl
    have s0 := hidIt ((Sv.start w).box5 (.int .i64 C.what) (.int .i64 C.size) (.slice pa C.m.length pc) (.slice la C.ts.length lc) (.int .i64 C.clock) 27)
    go_enter Try.func3, Try.ntmps3
    go_wp2_with fail
    refine (sz_crew pa la C.m.length pc lc C.what C.size C.clock C.ts _ LI.out.1 LI.out.2.1 LI.out.2.2 (RI.out.ts.below s0.out.below)).mono ?_
    rintro e w1 ⟨rfl, b1⟩
    rw [show szR 1048576 (C.m.length + szThs C.ts) = 1048576 - ((C.m.length + szThs C.ts : Nat) : Int) from if_neg (by omega)]
    have hz0 : (0 : Int) ≤ 1048576 - ((C.m.length + szThs C.ts : Nat) : Int) := by omega
    generalize (1048576 : Int) - ((C.m.length + szThs C.ts : Nat) : Int) = zz at hz0
    have s1 := hidIt (s0.out.grow b1)
    have z1 := b1.size
    simp at z1
    obtain ⟨c0, c1, c2, c3, c4⟩ := s1.out.get5 (b := w.heap.size) (x0 := .int .i64 C.what) (x1 := .int .i64 C.size) (x2 := .slice pa C.m.length pc) (x3 := .slice la C.ts.length lc) (x4 := .int .i64 C.clock) (by simp) (by simp) (by simp) (by simp) (by simp)
    clear b1 s0 hs
    go_wp2_with fail
    refine (to_crew _ _ _ C FT.out (RI.out.below s1.out.below)).mono ?_
    rintro e w2 ⟨p2, l2, rfl, f2, o2, n2, g2, b2⟩
    have s2 := hidIt (s1.out.grow b2)
    have z2 := b2.size
    have R2 := hidIt o2.rd
    obtain ⟨a2, k2, rfl, -⟩ := o2.rd.m.form
    obtain ⟨a2', k2', rfl, -⟩ := o2.rd.ts.form
    clear o2 n2 g2 b2 c0 c1 c2 c3 c4 s1
    go_wp2_with fail
    refine (HS.out _ _ _ R2.out).mono ?_
    rintro e w3 ⟨v3, rfl, f3, o3, n3, g3, b3⟩
    have s3 := hidIt ((s2.out.grow b3).row (Nat.le_refl _) (FactsO.within (fun g hg => ⟨g3 g hg, o3.lt g hg⟩)) o3)
    obtain ⟨a3, k3, rfl, -⟩ := o3.rd.form
    have z3 := b3.size
    clear b3 s2 R2 o3 n3 g3
    obtain ⟨c0, c1, c2, c3, c4⟩ := s3.out.get5 (b := w.heap.size) (x0 := .int .i64 C.what) (x1 := .int .i64 C.size) (x2 := .slice pa C.m.length pc) (x3 := .slice la C.ts.length lc) (x4 := .int .i64 C.clock) (by simp) (by simp) (by simp) (by simp) (by simp)
    go_wp2_with fail
    refine (to_crew _ _ _ C FT.out (RI.out.below s3.out.below)).mono ?_
    rintro e w4 ⟨p4, l4, rfl, f4, o4, n4, g4, b4⟩
    have W4 := hidIt (show Within w3.heap.size w4.heap.size f4 from fun g hg => ⟨g4 g hg, o4.lt g hg⟩)
    have N4 := hidIt n4
    have s4 := hidIt ((s3.out.grow b4).row (Nat.le_refl _) (CwO.within W4.out) o4)
    have z4 := b4.size
    obtain ⟨a4, k4, rfl, -⟩ := o4.rd.m.form
    obtain ⟨a4', k4', rfl, -⟩ := o4.rd.ts.form
    clear o4 n4 g4 b4 c0 c1 c2 c3 c4 s3
    have t4 := hidIt (s4.out.box5 (.int .i64 C.what) (.int .i64 C.size) (.slice a4 C.m.length k4) (.slice a4' C.ts.length k4') (.int .i64 C.clock) 34)
    clear s4
    go_wp2_with fail
    refine (HI.out _ _ _ (t4.out.at (.head _)).2.rd).mono ?_
    rintro e w5 ⟨v5, rfl, f5, o5, n5, g5, b5⟩
    have W5 := hidIt (show Within (w4.heap.size + 1) w5.heap.size f5 from fun g hg => ⟨by have := g5 g hg; simp at this; exact this, o5.lt g hg⟩)
    have s5 := hidIt ((t4.out.grow b5).row (Nat.le_refl _) (FactsO.within W5.out) o5)
    obtain ⟨a5, k5, rfl, -⟩ := o5.rd.form
    have z5 := b5.size
    simp at z5
    clear b5 t4 o5 n5 g5
    go_wp2_with fail
    refine (eq_facts _ _ _ B hl (s5.out.at (.head _)).2.rd (s5.out.at (.tail _ (.tail _ (.head _)))).2.rd).mono ?_
    rintro e w6 ⟨rfl, b6⟩
    have s6 := hidIt (s5.out.grow b6)
    have z6 := b6.size
    clear b6 s5
    go_wp2_with fail
    obtain ⟨P, p0, pd, pg, ps'⟩ := s6.out.pack
    have PD := hidIt pd
    have PG := hidIt pg
    have PS := hidIt ps'
    have PC := hidIt (fun W (h : P W) => (⟨(ps' W h).get (by simp), (ps' W h).get (by simp), (ps' W h).get (by simp), (ps' W h).get (by simp), (ps' W h).get (by simp), (ps' W h).get (by simp), (ps' W h).get (by simp), (ps' W h).get (by simp), (ps' W h).get (by simp), (ps' W h).get (by simp)⟩ : W.cell? ⟨w.heap.size, 0, none⟩ = some (.int .i64 C.what) ∧ W.cell? ⟨w.heap.size, 1, none⟩ = some (.int .i64 C.size) ∧ W.cell? ⟨w.heap.size, 2, none⟩ = some (.slice pa C.m.length pc) ∧ W.cell? ⟨w.heap.size, 3, none⟩ = some (.slice la C.ts.length lc) ∧ W.cell? ⟨w.heap.size, 4, none⟩ = some (.int .i64 C.clock) ∧ W.cell? ⟨w4.heap.size, 0, none⟩ = some (.int .i64 C.what) ∧ W.cell? ⟨w4.heap.size, 1, none⟩ = some (.int .i64 C.size) ∧ W.cell? ⟨w4.heap.size, 2, none⟩ = some (.slice a4 C.m.length k4) ∧ W.cell? ⟨w4.heap.size, 3, none⟩ = some (.slice a4' C.ts.length k4') ∧ W.cell? ⟨w4.heap.size, 4, none⟩ = some (.int .i64 C.clock)))
    have h6 := and_mk PC.out p0
    clear pd pg ps' p0 s6
    go_region_held3 (fun W => P W ∧ W.cell? ⟨w.heap.size, 0, none⟩ = some (.int .i64 C.what) ∧ W.cell? ⟨w.heap.size, 1, none⟩ = some (.int .i64 C.size) ∧ W.cell? ⟨w.heap.size, 2, none⟩ = some (.slice pa C.m.length pc) ∧ W.cell? ⟨w.heap.size, 3, none⟩ = some (.slice la C.ts.length lc) ∧ W.cell? ⟨w.heap.size, 4, none⟩ = some (.int .i64 C.clock) ∧ W.cell? ⟨w4.heap.size, 0, none⟩ = some (.int .i64 C.what) ∧ W.cell? ⟨w4.heap.size, 1, none⟩ = some (.int .i64 C.size) ∧ W.cell? ⟨w4.heap.size, 2, none⟩ = some (.slice a4 C.m.length k4) ∧ W.cell? ⟨w4.heap.size, 3, none⟩ = some (.slice a4' C.ts.length k4') ∧ W.cell? ⟨w4.heap.size, 4, none⟩ = some (.int .i64 C.clock))
      (first | exact and_mk PC.out (PD.out _ (And.left (by assumption))) | exact and_mk PC.out (PG.out _ _ (And.left (by assumption)) (by assumption)))
      (first | (go_at_call 10; refine (to_crew _ _ _ C FT.out (RI.out.below (PS.out _ (And.left (by assumption))).below)).mono ?_; rintro e wa ⟨pa', la', rfl, fa, oa, na, ga, ba⟩; have ra := oa.rd; obtain ⟨aa, ca, rfl, -⟩ := oa.rd.m.form; obtain ⟨ab, cb, rfl, -⟩ := oa.rd.ts.form; clear oa na ga) | (go_at_call 13; refine (eq_crew _ _ _ _ _ C FT.out ((PS.out _ (And.left (by assumption))).at (.tail _ (.head _))).2.rd ra).mono ?_; rintro e w7 ⟨rfl, b7⟩))
    rename_i h7
    have s7 := hidIt (PS.out _ h7.1).front1
    have z7 : w6.heap.size ≤ w7.heap.size := by have := b7.size; have := ba.size; simp at *; omega
    clear PD PG PC PS h6 h7 ra ba b7
    obtain ⟨c0, c1, c2, c3, c4⟩ := s7.out.get5 (b := w4.heap.size) (x0 := .int .i64 C.what) (x1 := .int .i64 C.size) (x2 := .slice a4 C.m.length k4) (x3 := .slice a4' C.ts.length k4') (x4 := .int .i64 C.clock) (by simp) (by simp) (by simp) (by simp) (by simp)
    go_wp2_with fail
    refine (mark_crew _ _ _ C f4 1 FT.out (by omega) HE.out (s7.out.at (.head _)).2 N4.out).mono ?_
    rintro e w8 ⟨rfl, r8, kp8⟩
    have o8 := kp8.toOut W4.out
    have s8 := hidIt (s7.out.mark1 o8 (CwO.within W4.out) r8 (by omega) (by intro c h; simp at h; rcases h with rfl | rfl | rfl | rfl | rfl | rfl | rfl | rfl | rfl | rfl <;> simp <;> omega) (by intro r h; simp at h; rcases h with rfl | rfl <;> simp <;> omega))
    have z8 := o8.size
    have HE0 := hidIt (show (0 : Int) ≤ ((endM 1 C : Nat) : Int) by omega)
    have he0 := HE0.out
    generalize ((endM 1 C : Nat) : Int) = kk at he0
    clear r8 kp8 o8 s7 c0 c1 c2 c3 c4
    go_wp2_with fail
    refine (eq_facts _ _ _ B hl (s8.out.at (.tail _ (.head _))).2.rd (s8.out.at (.tail _ (.tail _ (.head _)))).2.rd).mono ?_
    rintro e w9 ⟨rfl, b9⟩
    have s9 := hidIt (s8.out.grow b9).front1
    have z9 := b9.size
    clear b9 s8
    go_wp2_with fail
    refine (mark_facts _ _ B f5 1 hl (by omega) (s9.out.at (.head _)).2).mono ?_
    rintro e w10 ⟨rfl, r10, kp10⟩
    have o10 := kp10.toOut W5.out
    have s10 := hidIt (s9.out.mark1 o10 (FactsO.within W5.out) r10 (by omega) (by intro c h; simp at h; rcases h with rfl | rfl | rfl | rfl | rfl | rfl | rfl | rfl | rfl | rfl <;> simp <;> omega) (by intro r h; simp at h; rcases h with rfl | rfl <;> simp <;> omega))
    have z10 := o10.size
    clear r10 kp10 o10 s9
    go_wp2_with fail
    refine (held_facts _ _ B.length 1 f5 hl (by omega) (s10.out.at (.head _)).2).mono ?_
    rintro e w10 ⟨rfl, rfl⟩
    obtain ⟨c0, c1, c2, c3, c4⟩ := s10.out.get5 (b := w.heap.size) (x0 := .int .i64 C.what) (x1 := .int .i64 C.size) (x2 := .slice pa C.m.length pc) (x3 := .slice la C.ts.length lc) (x4 := .int .i64 C.clock) (by simp) (by simp) (by simp) (by simp) (by simp)
    go_wp2_with fail
    refine (to_crew _ _ _ C FT.out (RI.out.below s10.out.below)).mono ?_
    rintro e w12 ⟨p12, l12, rfl, f12, o12, n12, g12, b12⟩
    have s12 := hidIt (s10.out.grow b12)
    have R12 := hidIt o12.rd
    obtain ⟨a12, k12, rfl, -⟩ := o12.rd.m.form
    obtain ⟨a12', k12', rfl, -⟩ := o12.rd.ts.form
    clear o12 n12 g12 b12 c0 c1 c2 c3 c4 s10
    go_wp2_with fail
    refine (HI.out _ _ _ R12.out).mono ?_
    rintro e w13 ⟨v13, rfl, f13, o13, n13, g13, b13⟩
    have s13 := hidIt (s12.out.grow b13)
    have R13 := hidIt o13.rd
    obtain ⟨a13, k13, rfl, -⟩ := o13.rd.form
    clear b13 s12 R12 o13 n13 g13
    go_wp2_with fail
    refine (eq_facts _ _ _ B hl R13.out (s13.out.at (.tail _ (.tail _ (.head _)))).2.rd).mono ?_
    rintro e w14 ⟨rfl, b14⟩
    have s14 := hidIt (s13.out.grow b14)
    clear b14 s13
    go_wp2_with fail
    refine (held_facts _ _ B.length 1 f5 hl (by omega) (s14.out.at (.head _)).2).mono ?_
    rintro e w15 ⟨rfl, rfl⟩
    go_wp2
    go_ret
    exact ⟨rfl, s14.out.below⟩
  · go_enter Try.func3, Try.ntmps3
    go_wp2_with fail
    refine (sz_crew pa la C.m.length pc lc C.what C.size C.clock C.ts _ LI.out.1 LI.out.2.1 LI.out.2.2 (RI.out.ts.below ((Below.refl _ _).alloc (Nat.le_refl _) _))).mono ?_
    rintro e w1 ⟨rfl, b1⟩
    rw [show szR 1048576 (C.m.length + szThs C.ts) = -1 from if_pos (by omega)]
    clear hs
    go_wp2
    go_ret
    exact ⟨rfl, ((Below.refl _ _).alloc (Nat.le_refl _) _).trans (b1.mono (by simp <;> omega))⟩

end Go.Proofs.Ytmifnemjihffkaa
