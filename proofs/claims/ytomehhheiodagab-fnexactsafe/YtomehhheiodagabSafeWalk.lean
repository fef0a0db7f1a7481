/- The walk of the law of Safe. -/
import Derived.Test.YtomehhheiodagabRows
import Derived.WalkKit
import Derived.ProofKit
import Derived.OpenShut
import Derived.ShutString
import Derived.Test.YtomehhheiodagabSafeFns
import Derived.Test.YtomehhheiodagabAgesFns
namespace Go.Proofs.Ytomehhheiodagab
open Go.ChangeShapes Go.WideShapes Go.ChangeAt Go.RowKit
set_option linter.unusedVariables false

set_option maxHeartbeats 1600000 in
set_option maxRecDepth 100000 in
theorem walk_Safe (a : Int) (p l : Value) (ps : List Int) (L : List (Int × Int)) (x : Int) (w : World) (r0 : AIn w p l ps L) (n0 : ps.length ≤ maxLen) (k0 : L.length ≤ maxLen) :
    Calls Try.prog 4 #[.agg #[.int .i64 a, p, l], .int .i64 x] w fun e w' => e = .returned (.bool true) ∧ Below w.heap.size w w' := by
  have RI := hidIt r0
  obtain ⟨pa, pc, la, lc, rfl, rfl, -⟩ := r0.form
  clear r0
  unfold maxLen at n0 k0
  by_cases hs : ps.length + L.length ≤ 1048576
  · have HS := hidIt (fun p l W => spec_safe W a p l ps L x (by omega) (by omega))
    have HI := hidIt (fun p l W => impl_safe W a p l ps L x)
    generalize safeB a ps L x = B at HS HI
    have s0 := hidIt ((Sv.start w).box3 (.int .i64 a) (.slice pa ps.length pc) (.slice la L.length lc) 25)
    go_enter Try.func4, Try.ntmps4
    go_wp2_with fail
    refine (sz_ages a pa la ps.length pc L.length lc _ (by omega) (by omega)).mono ?_
    rintro e w1 ⟨rfl, b1⟩
    rw [if_pos hs]
    have s1 := hidIt (s0.out.grow b1)
    have z1 := b1.size
    simp at z1
    obtain ⟨c1, c1', c1''⟩ := s1.out.get3 (b := w.heap.size) (x0 := .int .i64 a) (x1 := .slice pa ps.length pc) (x2 := .slice la L.length lc) (by simp) (by simp) (by simp)
    clear b1 s0
    go_wp2_with fail
    refine (to_ages _ a _ _ ps L (by omega) (by omega) (RI.out.below s1.out.below)).mono ?_
    rintro e w2 ⟨p2, l2, rfl, r2, b2⟩
    have s2 := hidIt (s1.out.grow b2)
    have z2 := b2.size
    have R2 := hidIt (r2.ain (Nat.le_refl _))
    obtain ⟨a2, k2, a2', k2', rfl, rfl, -⟩ := r2.form
    clear r2 b2 c1 c1' c1'' s1
    go_wp2_with fail
    refine (HS.out _ _ _ R2.out).mono ?_
    rintro e w3 ⟨rfl, b3⟩
    have s3 := hidIt (s2.out.grow b3)
    have z3 := b3.size
    clear b3 s2 R2
    obtain ⟨c3, c3', c3''⟩ := s3.out.get3 (b := w.heap.size) (x0 := .int .i64 a) (x1 := .slice pa ps.length pc) (x2 := .slice la L.length lc) (by simp) (by simp) (by simp)
    go_wp2_with fail
    refine (to_ages _ a _ _ ps L (by omega) (by omega) (RI.out.below s3.out.below)).mono ?_
    rintro e w4 ⟨p4, l4, rfl, r4, b4⟩
    have s4 := hidIt ((s3.out.grow b4).row (Nat.le_refl _) (AR.loc _ _ _ _ _ _) r4)
    have z4 := b4.size
    obtain ⟨a4, k4, a4', k4', rfl, rfl, -⟩ := r4.form
    clear r4 b4 c3 c3' c3'' s3
    have t4 := hidIt (s4.out.box3 (.int .i64 a) (.slice a4 ps.length k4) (.slice a4' L.length k4') 29)
    clear s4
    go_wp2_with fail
    refine (HI.out _ _ _ ((t4.out.at (.head _)).2.ain (t4.out.at (.head _)).1)).mono ?_
    rintro e w5 ⟨rfl, b5⟩
    have s5 := hidIt (t4.out.grow b5)
    clear b5 t4
    go_wp2_with fail
    obtain ⟨P, p0, pd, pg, ps'⟩ := s5.out.pack
    have PD := hidIt pd
    have PG := hidIt pg
    have PS := hidIt ps'
    have PC := hidIt (fun W (h : P W) => (⟨(ps' W h).get (by simp), (ps' W h).get (by simp), (ps' W h).get (by simp), (ps' W h).get (by simp), (ps' W h).get (by simp), (ps' W h).get (by simp)⟩ : W.cell? ⟨w.heap.size, 0, none⟩ = some (.int .i64 a) ∧ W.cell? ⟨w.heap.size, 1, none⟩ = some (.slice pa ps.length pc) ∧ W.cell? ⟨w.heap.size, 2, none⟩ = some (.slice la L.length lc) ∧ W.cell? ⟨w4.heap.size, 0, none⟩ = some (.int .i64 a) ∧ W.cell? ⟨w4.heap.size, 1, none⟩ = some (.slice a4 ps.length k4) ∧ W.cell? ⟨w4.heap.size, 2, none⟩ = some (.slice a4' L.length k4')))
    have h6 := and_mk PC.out p0
    clear pd pg ps' p0 s5
    go_region_held3 (fun W => P W ∧ W.cell? ⟨w.heap.size, 0, none⟩ = some (.int .i64 a) ∧ W.cell? ⟨w.heap.size, 1, none⟩ = some (.slice pa ps.length pc) ∧ W.cell? ⟨w.heap.size, 2, none⟩ = some (.slice la L.length lc) ∧ W.cell? ⟨w4.heap.size, 0, none⟩ = some (.int .i64 a) ∧ W.cell? ⟨w4.heap.size, 1, none⟩ = some (.slice a4 ps.length k4) ∧ W.cell? ⟨w4.heap.size, 2, none⟩ = some (.slice a4' L.length k4'))
      (first | exact and_mk PC.out (PD.out _ (And.left (by assumption))) | exact and_mk PC.out (PG.out _ _ (And.left (by assumption)) (by assumption)))
      (first | (go_at_call 7; refine (to_ages _ a _ _ ps L (by omega) (by omega) (RI.out.below (PS.out _ (And.left (by assumption))).below)).mono ?_; rintro e wa ⟨pa', la', rfl, ra, ba⟩; obtain ⟨aa, ca, ab, cb, rfl, rfl, -⟩ := ra.form) | (go_at_call 9; refine (eq_ages _ _ _ _ _ a _ _ _ _ ps L (by omega) (by omega) ((PS.out _ (And.left (by assumption))).at (.head _)).1 (Nat.le_refl _) ((PS.out _ (And.left (by assumption))).at (.head _)).2 ra).mono ?_; rintro e w7 ⟨rfl, b7⟩))
    rename_i h7
    go_wp2
    go_ret
    exact ⟨rfl, (PS.out _ h7.1).below⟩
  · go_enter Try.func4, Try.ntmps4
    go_wp2_with fail
    refine (sz_ages a pa la ps.length pc L.length lc _ (by omega) (by omega)).mono ?_
    rintro e w1 ⟨rfl, b1⟩
    rw [if_neg hs]
    go_wp2
    go_ret
    exact ⟨rfl, ((Below.refl _ _).alloc (Nat.le_refl _) _).trans (b1.mono (by simp <;> omega))⟩

end Go.Proofs.Ytomehhheiodagab
