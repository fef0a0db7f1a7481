/- The walk of the law of CrewOk. -/
import Derived.Test.YtehgacidfepomaaRows
import Derived.WalkKit
import Derived.ProofKit
import Derived.OpenShut
import Derived.ShutString
import Derived.Test.YtehgacidfepomaaCrewOkFns
import Derived.Test.YtehgacidfepomaaCwLaw
namespace Go.Proofs.Ytehgacidfepomaa
open Go.ChangeShapes Go.WideShapes Go.ChangeAt Go.RowKit
set_option linter.unusedVariables false

set_option maxHeartbeats 1600000 in
set_option maxRecDepth 100000 in
theorem walk_CrewOk (C : Cw) (vm vt : Value) (w : World) (r0 : CwIn w vm vt C) (l0 : CwLim C) (wf0 : CwWf C) :
    Calls Try.prog 4 #[.agg #[.int .i64 C.what, .int .i64 C.size, vm, vt, .int .i64 C.clock]] w fun e w' => e = .returned (.bool true) ∧ Below w.heap.size w w' := by
  have RI := hidIt r0
  have LI := hidIt l0
  have WF := hidIt wf0
  obtain ⟨pa, pc, rfl, -⟩ := r0.m.form
  obtain ⟨la, lc, rfl, -⟩ := r0.ts.form
  clear r0 l0 wf0
  by_cases hs : C.m.length + szThs C.ts ≤ 1048576
  · have FT := hidIt (cw_fit C hs)
    have HS := hidIt (fun p l W h => spec_crewok W p l C h FT.out WF.out)
    have HI := hidIt (fun p l W h => impl_crewok W p l C h FT.out WF.out)
    generalize crewOkB C = B at HS HI
    have s0 := hidIt ((Sv.start w).box5 (.int .i64 C.what) (.int .i64 C.size) (.slice pa C.m.length pc) (.slice la C.ts.length lc) (.int .i64 C.clock) 40)
    go_enter Try.func4, Try.ntmps4
    go_wp2_with fail
    refine (sz_crew pa la C.m.length pc lc C.what C.size C.clock C.ts _ LI.out.1 LI.out.2.1 LI.out.2.2 (RI.out.ts.below s0.out.below)).mono ?_
    rintro e w1 ⟨rfl, b1⟩
    rw [show szR 1048576 (C.m.length + szThs C.ts) = 1048576 - ((C.m.length + szThs C.ts : Nat) : Int) from if_neg (by omega)]
    have hz0 : (0 : Int) ≤ 1048576 - ((C.m.length + szThs C.ts : Nat) : Int) := by omega
    generalize (1048576 : Int) - ((C.m.length + szThs C.ts : Nat) : Int) = zz at hz0
    have s1 := hidIt (s0.out.grow b1)
    have z1 := b1.size
    simp at z1
    obtain ⟨c0, c1, c2, c3, c4⟩ := s1.out.get5 (b := w.heap.size) (x0 := .int .i64 C.what) (x1 := .int .i64 C.size) (x2 := .slice pa C.m.length pc) (x3 := .slice la C.ts.length lc) (x4 := .int .i64 C.clock) (by simp) (by simp) (by simp) (by simp) (by simp)
    clear b1 s0 hs
    go_wp2_with fail
    refine (to_crew _ _ _ C FT.out (RI.out.below s1.out.below)).mono ?_
    rintro e w2 ⟨p2, l2, rfl, f2, o2, n2, g2, b2⟩
    have s2 := hidIt (s1.out.grow b2)
    have z2 := b2.size
    have R2 := hidIt o2.rd
    obtain ⟨a2, k2, rfl, -⟩ := o2.rd.m.form
    obtain ⟨a2', k2', rfl, -⟩ := o2.rd.ts.form
    clear o2 n2 g2 b2 c0 c1 c2 c3 c4 s1
    go_wp2_with fail
    refine (HS.out _ _ _ R2.out).mono ?_
    rintro e w3 ⟨rfl, b3⟩
    have s3 := hidIt (s2.out.grow b3)
    have z3 := b3.size
    clear b3 s2 R2
    obtain ⟨c0, c1, c2, c3, c4⟩ := s3.out.get5 (b := w.heap.size) (x0 := .int .i64 C.what) (x1 := .int .i64 C.size) (x2 := .slice pa C.m.length pc) (x3 := .slice la C.ts.length lc) (x4 := .int .i64 C.clock) (by simp) (by simp) (by simp) (by simp) (by simp)
    go_wp2_with fail
    refine (to_crew _ _ _ C FT.out (RI.out.below s3.out.below)).mono ?_
    rintro e w4 ⟨p4, l4, rfl, f4, o4, n4, g4, b4⟩
    have s4 := hidIt ((s3.out.grow b4).row (Nat.le_refl _) (CwO.within (fun g hg => ⟨g4 g hg, o4.lt g hg⟩)) o4)
    have z4 := b4.size
    obtain ⟨a4, k4, rfl, -⟩ := o4.rd.m.form
    obtain ⟨a4', k4', rfl, -⟩ := o4.rd.ts.form
    clear o4 n4 g4 b4 c0 c1 c2 c3 c4 s3
    have t4 := hidIt (s4.out.box5 (.int .i64 C.what) (.int .i64 C.size) (.slice a4 C.m.length k4) (.slice a4' C.ts.length k4') (.int .i64 C.clock) 29)
    clear s4
    go_wp2_with fail
    refine (HI.out _ _ _ (t4.out.at (.head _)).2.rd).mono ?_
    rintro e w5 ⟨rfl, b5⟩
    have s5 := hidIt (t4.out.grow b5)
    clear b5 t4
    go_wp2_with fail
    obtain ⟨P, p0, pd, pg, ps'⟩ := s5.out.pack
    have PD := hidIt pd
    have PG := hidIt pg
    have PS := hidIt ps'
    have PC := hidIt (fun W (h : P W) => (⟨(ps' W h).get (by simp), (ps' W h).get (by simp), (ps' W h).get (by simp), (ps' W h).get (by simp), (ps' W h).get (by simp), (ps' W h).get (by simp), (ps' W h).get (by simp), (ps' W h).get (by simp), (ps' W h).get (by simp), (ps' W h).get (by simp)⟩ : W.cell? ⟨w.heap.size, 0, none⟩ = some (.int .i64 C.what) ∧ W.cell? ⟨w.heap.size, 1, none⟩ = some (.int .i64 C.size) ∧ W.cell? ⟨w.heap.size, 2, none⟩ = some (.slice pa C.m.length pc) ∧ W.cell? ⟨w.heap.size, 3, none⟩ = some (.slice la C.ts.length lc) ∧ W.cell? ⟨w.heap.size, 4, none⟩ = some (.int .i64 C.clock) ∧ W.cell? ⟨w4.heap.size, 0, none⟩ = some (.int .i64 C.what) ∧ W.cell? ⟨w4.heap.size, 1, none⟩ = some (.int .i64 C.size) ∧ W.cell? ⟨w4.heap.size, 2, none⟩ = some (.slice a4 C.m.length k4) ∧ W.cell? ⟨w4.heap.size, 3, none⟩ = some (.slice a4' C.ts.length k4') ∧ W.cell? ⟨w4.heap.size, 4, none⟩ = some (.int .i64 C.clock)))
    have h6 := and_mk PC.out p0
    clear pd pg ps' p0 s5
    go_region_held3 (fun W => P W ∧ W.cell? ⟨w.heap.size, 0, none⟩ = some (.int .i64 C.what) ∧ W.cell? ⟨w.heap.size, 1, none⟩ = some (.int .i64 C.size) ∧ W.cell? ⟨w.heap.size, 2, none⟩ = some (.slice pa C.m.length pc) ∧ W.cell? ⟨w.heap.size, 3, none⟩ = some (.slice la C.ts.length lc) ∧ W.cell? ⟨w.heap.size, 4, none⟩ = some (.int .i64 C.clock) ∧ W.cell? ⟨w4.heap.size, 0, none⟩ = some (.int .i64 C.what) ∧ W.cell? ⟨w4.heap.size, 1, none⟩ = some (.int .i64 C.size) ∧ W.cell? ⟨w4.heap.size, 2, none⟩ = some (.slice a4 C.m.length k4) ∧ W.cell? ⟨w4.heap.size, 3, none⟩ = some (.slice a4' C.ts.length k4') ∧ W.cell? ⟨w4.heap.size, 4, none⟩ = some (.int .i64 C.clock))
      (first | exact and_mk PC.out (PD.out _ (And.left (by assumption))) | exact and_mk PC.out (PG.out _ _ (And.left (by assumption)) (by assumption)))
      (first | (go_at_call 18; refine (to_crew _ _ _ C FT.out (RI.out.below (PS.out _ (And.left (by assumption))).below)).mono ?_; rintro e wa ⟨pa', la', rfl, fa, oa, na, ga, ba⟩; have ra := oa.rd; obtain ⟨aa, ca, rfl, -⟩ := oa.rd.m.form; obtain ⟨ab, cb, rfl, -⟩ := oa.rd.ts.form; clear oa na ga) | (go_at_call 11; refine (eq_crew _ _ _ _ _ C FT.out ((PS.out _ (And.left (by assumption))).at (.head _)).2.rd ra).mono ?_; rintro e w7 ⟨rfl, b7⟩))
    rename_i h7
    go_wp2
    go_ret
    exact ⟨rfl, (PS.out _ h7.1).below⟩
  · go_enter Try.func4, Try.ntmps4
    go_wp2_with fail
    refine (sz_crew pa la C.m.length pc lc C.what C.size C.clock C.ts _ LI.out.1 LI.out.2.1 LI.out.2.2 (RI.out.ts.below ((Below.refl _ _).alloc (Nat.le_refl _) _))).mono ?_
    rintro e w1 ⟨rfl, b1⟩
    rw [show szR 1048576 (C.m.length + szThs C.ts) = -1 from if_pos (by omega)]
    clear hs
    go_wp2
    go_ret
    exact ⟨rfl, ((Below.refl _ _).alloc (Nat.le_refl _) _).trans (b1.mono (by simp <;> omega))⟩

end Go.Proofs.Ytehgacidfepomaa
