/- The walk of the law of StApply. -/
import Derived.Test.YtmifnemjihffkaaRows
import Derived.WalkKit
import Derived.ProofKit
import Derived.OpenShut
import Derived.ShutString
import Derived.Test.YtmifnemjihffkaaStAppImpl
import Derived.Test.YtmifnemjihffkaaCrewHeld
import Derived.Test.YtmifnemjihffkaaFcLaw
import Derived.Deep.RegionHeld3
import Derived.Deep.DeepCutAuto
import Derived.Deep.CutBlock
namespace Go.Proofs.Ytmifnemjihffkaa
open Go.ChangeShapes Go.WideShapes Go.ChangeAt Go.RowKit
set_option linter.unusedVariables false

set_option maxHeartbeats 1600000 in
set_option maxRecDepth 100000 in
theorem walk_StApply (v : Value) (xs : List Int) (f : Fc) (w : World) (r0 : IntsIn w v xs) (n0 : xs.length ≤ 9223372036854775807) :
    Calls Try.prog 4 #[v, .agg #[.int .i64 f.th, .int .i64 f.k, .int .i64 f.a, .int .i64 f.r, .int .i64 f.v, .int .i64 f.t, .int .i64 f.b, .int .i64 f.e]] w fun e w' => e = .returned (.bool true) ∧ Below w.heap.size w w' := by
  have RI := hidIt r0
  obtain ⟨pa, pc, rfl, -⟩ := r0.form
  clear r0
  by_cases hs : xs.length ≤ 1048576
  · have hn : xs.length ≤ 4194304 := by omega
    have HS := hidIt (fun v W h hc => spec_stapply v xs f W hn h hc)
    have HI := hidIt (fun v W h hc => impl_stapply v xs f W hn h hc)
    have hl : (stAppL xs f).length ≤ 4194304 := Nat.le_trans (stAppL_len xs f) (by omega)
    unfold StAns at HS HI
    generalize stAppL xs f = L at HS HI hl
    generalize stAppB xs f = B at HS HI
    have hs' : (xs.length : Int) ≤ 1048576 := by omega
    have s0 := hidIt ((Sv.start w).box8 (.int .i64 f.th) (.int .i64 f.k) (.int .i64 f.a) (.int .i64 f.r) (.int .i64 f.v) (.int .i64 f.t) (.int .i64 f.b) (.int .i64 f.e) 42)
    go_enter Try.func4, Try.ntmps4
    go_wp2_with fail
    have zz3 : True := trivial
    obtain ⟨P, p0, pd, pg, ps'⟩ := s0.out.pack
    have PD := hidIt pd
    have PG := hidIt pg
    have PS := hidIt ps'
    have PC := hidIt (fun W (h : P W) => (⟨(ps' W h).get (by simp), (ps' W h).get (by simp), (ps' W h).get (by simp), (ps' W h).get (by simp), (ps' W h).get (by simp), (ps' W h).get (by simp), (ps' W h).get (by simp), (ps' W h).get (by simp)⟩ : W.cell? ⟨w.heap.size, 0, none⟩ = some (.int .i64 f.th) ∧ W.cell? ⟨w.heap.size, 1, none⟩ = some (.int .i64 f.k) ∧ W.cell? ⟨w.heap.size, 2, none⟩ = some (.int .i64 f.a) ∧ W.cell? ⟨w.heap.size, 3, none⟩ = some (.int .i64 f.r) ∧ W.cell? ⟨w.heap.size, 4, none⟩ = some (.int .i64 f.v) ∧ W.cell? ⟨w.heap.size, 5, none⟩ = some (.int .i64 f.t) ∧ W.cell? ⟨w.heap.size, 6, none⟩ = some (.int .i64 f.b) ∧ W.cell? ⟨w.heap.size, 7, none⟩ = some (.int .i64 f.e)))
    have h6 := and_mk PC.out p0
    clear pd pg ps' p0
    go_upto_region 3 with fail
    go_cut [5, 6] from 18 to 25 (fun x5 x6 wc => x6 = .bool B ∧ GotInts w [(w.heap.size, 0, .int .i64 f.th), (w.heap.size, 1, .int .i64 f.k), (w.heap.size, 2, .int .i64 f.a), (w.heap.size, 3, .int .i64 f.r), (w.heap.size, 4, .int .i64 f.v), (w.heap.size, 5, .int .i64 f.t), (w.heap.size, 6, .int .i64 f.b), (w.heap.size, 7, .int .i64 f.e)] [] (w.alloc (.cells #[.int .i64 f.th, .int .i64 f.k, .int .i64 f.a, .int .i64 f.r, .int .i64 f.v, .int .i64 f.t, .int .i64 f.b, .int .i64 f.e] 42)).heap.size L x5 wc)
    case first =>
      go_region_held3 (fun W => P W ∧ W.cell? ⟨w.heap.size, 0, none⟩ = some (.int .i64 f.th) ∧ W.cell? ⟨w.heap.size, 1, none⟩ = some (.int .i64 f.k) ∧ W.cell? ⟨w.heap.size, 2, none⟩ = some (.int .i64 f.a) ∧ W.cell? ⟨w.heap.size, 3, none⟩ = some (.int .i64 f.r) ∧ W.cell? ⟨w.heap.size, 4, none⟩ = some (.int .i64 f.v) ∧ W.cell? ⟨w.heap.size, 5, none⟩ = some (.int .i64 f.t) ∧ W.cell? ⟨w.heap.size, 6, none⟩ = some (.int .i64 f.b) ∧ W.cell? ⟨w.heap.size, 7, none⟩ = some (.int .i64 f.e))
        (first | exact and_mk PC.out (PD.out _ (And.left (by assumption))) | exact and_mk PC.out (PG.out _ _ (And.left (by assumption)) (by assumption)))
        (first | (go_at_call 18; refine (to_intsC _ _ xs hn (RI.out.below (PS.out _ (And.left (by assumption))).below)).mono ?_; rintro e wa ⟨va, rfl, ca, fa, oa, nda, ga, ba⟩; have ra := oa.rd; obtain ⟨aa, ka, rfl, -⟩ := oa.rd.form; clear oa nda ga) | (go_at_call 19; refine (to_fact f _).mono ?_; rintro e wb ⟨rfl, bb⟩) | (go_at_call 17; (first | refine (HS.out _ _ (ra.below bb) ca).mono ?_ | refine (HS.out _ _ ra ca).mono ?_); rintro e w3 ⟨v3, rfl, f3, o3, nd3, g3, b3⟩; obtain ⟨a3, k3, rfl, -⟩ := o3.rd.form))
      all_goals
        go_wp2_with fail
        go_meet
        have za := ba.size
        have zb := bb.size
        simp at za zb
        exact ⟨rfl, gotInts_of (PS.out _ (And.left (by assumption))) o3 g3 (by first | omega | (simp <;> omega)) b3⟩
    case rest =>
    rename World => w3
    obtain ⟨rfl, a3, k3, f3, rfl, s3', o3, i3, z3⟩ := hcut
    clear PD PG PC PS h6 zz3
    have s3 := hidIt (s3'.row (Nat.le_refl _) (IntsO.within i3) o3)
    simp at z3
    clear s3' o3 i3 s0
    go_wp2_with fail
    refine (to_intsC _ _ xs hn (RI.out.below s3.out.below)).mono ?_
    rintro e w4 ⟨v4, rfl, c4, f4, o4, nd4, g4, b4⟩
    have z4 := b4.size
    have I4 := hidIt (show Within w3.heap.size w4.heap.size f4 from fun g hg => ⟨g4 g hg, o4.lt g hg⟩)
    have s4 := hidIt ((s3.out.grow b4).row (Nat.le_refl _) (IntsO.within I4.out) o4)
    have C4 := hidIt c4
    obtain ⟨a4, k4, rfl, -⟩ := o4.rd.form
    clear o4 nd4 g4 b4 s3 c4
    have cc : w4.cell? ⟨w.heap.size, 0, none⟩ = some (.int .i64 f.th) ∧ w4.cell? ⟨w.heap.size, 1, none⟩ = some (.int .i64 f.k) ∧ w4.cell? ⟨w.heap.size, 2, none⟩ = some (.int .i64 f.a) ∧ w4.cell? ⟨w.heap.size, 3, none⟩ = some (.int .i64 f.r) ∧ w4.cell? ⟨w.heap.size, 4, none⟩ = some (.int .i64 f.v) ∧ w4.cell? ⟨w.heap.size, 5, none⟩ = some (.int .i64 f.t) ∧ w4.cell? ⟨w.heap.size, 6, none⟩ = some (.int .i64 f.b) ∧ w4.cell? ⟨w.heap.size, 7, none⟩ = some (.int .i64 f.e) := ⟨s4.out.get (by simp), s4.out.get (by simp), s4.out.get (by simp), s4.out.get (by simp), s4.out.get (by simp), s4.out.get (by simp), s4.out.get (by simp), s4.out.get (by simp)⟩
    go_wp2_with fail
    refine (to_fact f _).mono ?_
    rintro e w5 ⟨rfl, b5⟩
    have s5 := hidIt (s4.out.grow b5)
    have z5 := b5.size
    clear b5 s4 cc
    go_wp2_with fail
    refine (HI.out _ _ (s5.out.at (.head _)).2.rd C4.out).mono ?_
    rintro e w6 ⟨v6, rfl, f6, o6, nd6, g6, b6⟩
    have z6 := b6.size
    have I6 := hidIt (show Within w5.heap.size w6.heap.size f6 from fun g hg => ⟨g6 g hg, o6.lt g hg⟩)
    have s6 := hidIt ((s5.out.grow b6).row (Nat.le_refl _) (IntsO.within I6.out) o6)
    obtain ⟨a6, k6, rfl, -⟩ := o6.rd.form
    clear o6 nd6 g6 b6 s5
    go_wp2_with fail
    refine (eq_ints _ _ _ L hl (s6.out.at (.head _)).2.rd (s6.out.at (.tail _ (.tail _ (.head _)))).2.rd).mono ?_
    rintro e w7 ⟨rfl, b7⟩
    have s7 := hidIt (s6.out.grow b7)
    have z7 := b7.size
    clear b7 s6
    go_wp2_with fail
    refine (to_ints _ _ xs hn (RI.out.below s7.out.below)).mono ?_
    rintro e w8 ⟨v8, rfl, f8, o8, nd8, g8, b8⟩
    have s8 := hidIt (s7.out.grow b8)
    have z8 := b8.size
    have R8 := hidIt o8.rd
    obtain ⟨a8, k8, rfl, -⟩ := o8.rd.form
    clear o8 nd8 g8 b8 s7
    go_wp2_with fail
    refine (eq_ints _ _ _ xs hn (s8.out.at (.tail _ (.head _))).2.rd R8.out).mono ?_
    rintro e w9 ⟨rfl, b9⟩
    have s9 := hidIt (s8.out.grow b9).front1
    have z9 := b9.size
    clear b9 s8 R8
    go_wp2_with fail
    refine (mark_ints _ _ xs f4 1 hn (by omega) (s9.out.at (.head _)).2).mono ?_
    rintro e w10 ⟨rfl, r10, k10⟩
    have s10 := hidIt (s9.out.mark1 (k10.toOut I4.out) (IntsO.within I4.out) r10 (by omega) (by simp <;> omega) (by simp <;> omega))
    have z10 := k10.size
    clear r10 k10 s9
    go_wp2_with fail
    refine (eq_ints _ _ _ L hl (s10.out.at (.tail _ (.head _))).2.rd (s10.out.at (.tail _ (.tail _ (.head _)))).2.rd).mono ?_
    rintro e w11 ⟨rfl, b11⟩
    have s11 := hidIt (s10.out.grow b11).front1
    have z11 := b11.size
    clear b11 s10
    go_wp2_with fail
    refine (mark_ints _ _ L f6 1 hl (by omega) (s11.out.at (.head _)).2).mono ?_
    rintro e w12 ⟨rfl, r12, k12⟩
    have s12 := hidIt (s11.out.mark1 (k12.toOut I6.out) (IntsO.within I6.out) r12 (by omega) (by simp <;> omega) (by simp <;> omega))
    have z12 := k12.size
    clear r12 k12 s11
    go_wp2_with fail
    refine (held_ints _ _ L.length 1 f6 hl (by omega) (s12.out.at (.head _)).2).mono ?_
    rintro e w12 ⟨rfl, rfl⟩
    have zz22 : True := trivial
    obtain ⟨P, p0, pd, pg, ps'⟩ := s12.out.pack
    have PD := hidIt pd
    have PG := hidIt pg
    have PS := hidIt ps'
    have PC := hidIt (fun W (h : P W) => (⟨(ps' W h).get (by simp), (ps' W h).get (by simp), (ps' W h).get (by simp), (ps' W h).get (by simp), (ps' W h).get (by simp), (ps' W h).get (by simp), (ps' W h).get (by simp), (ps' W h).get (by simp)⟩ : W.cell? ⟨w.heap.size, 0, none⟩ = some (.int .i64 f.th) ∧ W.cell? ⟨w.heap.size, 1, none⟩ = some (.int .i64 f.k) ∧ W.cell? ⟨w.heap.size, 2, none⟩ = some (.int .i64 f.a) ∧ W.cell? ⟨w.heap.size, 3, none⟩ = some (.int .i64 f.r) ∧ W.cell? ⟨w.heap.size, 4, none⟩ = some (.int .i64 f.v) ∧ W.cell? ⟨w.heap.size, 5, none⟩ = some (.int .i64 f.t) ∧ W.cell? ⟨w.heap.size, 6, none⟩ = some (.int .i64 f.b) ∧ W.cell? ⟨w.heap.size, 7, none⟩ = some (.int .i64 f.e)))
    have h6 := and_mk PC.out p0
    clear pd pg ps' p0
    go_upto_region 22 with fail
    go_cut [13, 14] from 76 to 83 (fun x5 x6 wc => x6 = .bool B ∧ GotInts w [(w.heap.size, 0, .int .i64 f.th), (w.heap.size, 1, .int .i64 f.k), (w.heap.size, 2, .int .i64 f.a), (w.heap.size, 3, .int .i64 f.r), (w.heap.size, 4, .int .i64 f.v), (w.heap.size, 5, .int .i64 f.t), (w.heap.size, 6, .int .i64 f.b), (w.heap.size, 7, .int .i64 f.e)] [(w5.heap.size, w6.heap.size, fun W => IntsO W (.slice a6 L.length k6) (mkInts 1 L.length) f6), (w3.heap.size, w4.heap.size, fun W => IntsO W (.slice a4 xs.length k4) (mkInts 1 xs.length) f4), ((w.alloc (.cells #[.int .i64 f.th, .int .i64 f.k, .int .i64 f.a, .int .i64 f.r, .int .i64 f.v, .int .i64 f.t, .int .i64 f.b, .int .i64 f.e] 42)).heap.size, w3.heap.size, fun W => IntsO W (.slice a3 L.length k3) L f3)] (w12).heap.size L x5 wc)
    case first =>
      go_region_held3 (fun W => P W ∧ W.cell? ⟨w.heap.size, 0, none⟩ = some (.int .i64 f.th) ∧ W.cell? ⟨w.heap.size, 1, none⟩ = some (.int .i64 f.k) ∧ W.cell? ⟨w.heap.size, 2, none⟩ = some (.int .i64 f.a) ∧ W.cell? ⟨w.heap.size, 3, none⟩ = some (.int .i64 f.r) ∧ W.cell? ⟨w.heap.size, 4, none⟩ = some (.int .i64 f.v) ∧ W.cell? ⟨w.heap.size, 5, none⟩ = some (.int .i64 f.t) ∧ W.cell? ⟨w.heap.size, 6, none⟩ = some (.int .i64 f.b) ∧ W.cell? ⟨w.heap.size, 7, none⟩ = some (.int .i64 f.e))
        (first | exact and_mk PC.out (PD.out _ (And.left (by assumption))) | exact and_mk PC.out (PG.out _ _ (And.left (by assumption)) (by assumption)))
        (first | (go_at_call 18; refine (to_intsC _ _ xs hn (RI.out.below (PS.out _ (And.left (by assumption))).below)).mono ?_; rintro e wa ⟨va, rfl, ca, fa, oa, nda, ga, ba⟩; have ra := oa.rd; obtain ⟨aa, ka, rfl, -⟩ := oa.rd.form; clear oa nda ga) | (go_at_call 19; refine (to_fact f _).mono ?_; rintro e wb ⟨rfl, bb⟩) | (go_at_call 20; (first | refine (HI.out _ _ (ra.below bb) ca).mono ?_ | refine (HI.out _ _ ra ca).mono ?_); rintro e w3 ⟨v3, rfl, f3, o3, nd3, g3, b3⟩; obtain ⟨a3, k3, rfl, -⟩ := o3.rd.form))
      all_goals
        go_wp2_with fail
        go_meet
        have za := ba.size
        have zb := bb.size
        simp at za zb
        exact ⟨rfl, gotInts_of (PS.out _ (And.left (by assumption))) o3 g3 (by first | omega | (simp <;> omega)) b3⟩
    case rest =>
    rename World => w16
    obtain ⟨rfl, a16, k16, f16, rfl, s16', o16, i16, z16⟩ := hcut
    clear PD PG PC PS h6 zz22
    have R16 := hidIt o16.rd
    have s16 := hidIt s16'
    clear s16' o16 i16 s12
    go_wp2_with fail
    refine (eq_ints _ _ _ L hl R16.out (s16.out.at (.tail _ (.tail _ (.head _)))).2.rd).mono ?_
    rintro e w17 ⟨rfl, b17⟩
    have s17 := hidIt (s16.out.grow b17)
    clear b17 s16 R16
    go_wp2_with fail
    refine (held_ints _ _ L.length 1 f6 hl (by omega) (s17.out.at (.head _)).2).mono ?_
    rintro e w17 ⟨rfl, rfl⟩
    go_wp2
    go_ret
    exact ⟨rfl, s17.out.below⟩
  · have hs' : (1048576 : Int) < (xs.length : Int) := by omega
    go_enter Try.func4, Try.ntmps4
    go_wp2
    go_ret
    exact ⟨rfl, (Below.refl _ _).alloc (Nat.le_refl _) _⟩

end Go.Proofs.Ytmifnemjihffkaa
