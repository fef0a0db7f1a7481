/- The walk of the law of CrewNew. -/
import Derived.Test.YtpfofjcfaelocaaRows
import Derived.WalkKit
import Derived.ProofKit
import Derived.OpenShut
import Derived.ShutString
import Derived.Test.YtpfofjcfaelocaaCrewNewLaw
import Derived.Deep.RegionHeld3
namespace Go.Proofs.Ytpfofjcfaelocaa
open Go.ChangeShapes Go.WideShapes Go.ChangeAt Go.RowKit
set_option linter.unusedVariables false

set_option maxHeartbeats 1600000 in
set_option maxRecDepth 100000 in
theorem walk_CrewNew (what size : Int) (full : Bool) (vt : Value) (ts : List Th) (w : World) (r0 : ThsIn w vt ts) (n0 : ts.length ≤ 9223372036854775807) (l0 : TsLim ts) :
    Calls Try.prog 3 #[.int .i64 what, .int .i64 size, .bool full, vt] w fun e w' => e = .returned (.bool true) ∧ Below w.heap.size w w' := by
  have RI := hidIt r0
  have LI := hidIt l0
  obtain ⟨ta, tc, rfl, -⟩ := r0.form
  clear r0 l0
  by_cases hs : szThs ts ≤ 1048576
  · have hn : ts.length ≤ 4194304 := by unfold szThs at hs; omega
    have FT := hidIt (arg_fit ts hs)
    have ET := hidIt (arg_end ts hs)
    have FC := hidIt (made_fit what size full ts hs)
    have EC := hidIt (made_end what size full ts hs)
    have HS := hidIt (fun v W h => spec_crewnew what size full v ts W hn FT.out h)
    have HI := hidIt (fun v W h => impl_crewnew what size full v ts W hn FT.out h)
    generalize cwNewC what size full ts = C at HS HI FC EC
    generalize cnOkB what size ts = B at HS HI
    obtain ⟨ze, hze, hz0⟩ : ∃ z : Int, ((endM 1 C : Nat) : Int) = z ∧ 0 ≤ z := ⟨_, rfl, by omega⟩
    obtain ⟨zt, hzt, ht0⟩ : ∃ z : Int, ((oT ts 1 ts.length : Nat) : Int) = z ∧ 0 ≤ z := ⟨_, rfl, by omega⟩
    have ZE := hidIt hze
    have ZT := hidIt hzt
    clear hze hzt
    go_enter Try.func3, Try.ntmps3
    go_wp2_with fail
    refine (sz_ths _ ts 1048576 _ n0 LI.out (by omega) (by omega) RI.out).mono ?_
    rintro e w1 ⟨rfl, b1⟩
    rw [show szR 1048576 (szThs ts) = 1048576 - ((szThs ts : Nat) : Int) from if_neg (by omega)]
    have hzz : (0 : Int) ≤ 1048576 - ((szThs ts : Nat) : Int) := by omega
    generalize (1048576 : Int) - ((szThs ts : Nat) : Int) = zz at hzz
    have s1 := hidIt ((Sv.start w).grow b1)
    have z1 := b1.size
    clear b1 hs
    go_wp2_with fail
    refine (to_ths _ _ ts hn FT.out (RI.out.below s1.out.below)).mono ?_
    rintro e w2 ⟨v2, rfl, f2, o2, nd2, g2, b2⟩
    have s2 := hidIt (s1.out.grow b2)
    have z2 := b2.size
    have R2 := hidIt o2.rd
    obtain ⟨a2, k2, rfl, -⟩ := o2.rd.form
    clear o2 nd2 g2 b2 s1
    go_wp2_with fail
    refine (HS.out _ _ R2.out).mono ?_
    rintro e w3 ⟨p3, l3, rfl, f3, o3, nd3, g3, b3⟩
    have s3 := hidIt ((s2.out.grow b3).row (Nat.le_refl _) (CwO.within (fun g hg => ⟨g3 g hg, o3.lt g hg⟩)) o3)
    have z3 := b3.size
    obtain ⟨a3, k3, rfl, -⟩ := o3.rd.m.form
    obtain ⟨b3', j3, rfl, -⟩ := o3.rd.ts.form
    clear o3 nd3 g3 b3 s2 R2
    have t3 := hidIt (s3.out.box5 (.int .i64 C.what) (.int .i64 C.size) (.slice a3 C.m.length k3) (.slice b3' C.ts.length j3) (.int .i64 C.clock) 29)
    clear s3
    go_wp2_with fail
    refine (to_ths _ _ ts hn FT.out (RI.out.below t3.out.below)).mono ?_
    rintro e w4 ⟨v4, rfl, f4, o4, nd4, g4, b4⟩
    have z4 := b4.size
    simp at z4
    have N4 := hidIt nd4
    have I4 := hidIt (show Within (w3.heap.size + 1) w4.heap.size f4 from fun g hg => ⟨by simpa using g4 g hg, o4.lt g hg⟩)
    have s4 := hidIt ((t3.out.grow b4).row (Nat.le_refl _) (ThsO.within I4.out) o4)
    obtain ⟨a4, k4, rfl, -⟩ := o4.rd.form
    clear o4 nd4 g4 b4 t3
    go_wp2_with fail
    refine (HI.out _ _ (s4.out.at (.head _)).2.rd).mono ?_
    rintro e w5 ⟨p5, l5, rfl, f5, o5, nd5, g5, b5⟩
    have z5 := b5.size
    have N5 := hidIt nd5
    have I5 := hidIt (show Within w4.heap.size w5.heap.size f5 from fun g hg => ⟨g5 g hg, o5.lt g hg⟩)
    have s5 := hidIt ((s4.out.grow b5).row (Nat.le_refl _) (CwO.within I5.out) o5)
    obtain ⟨a5, k5, rfl, -⟩ := o5.rd.m.form
    obtain ⟨b5', j5, rfl, -⟩ := o5.rd.ts.form
    clear o5 nd5 g5 b5 s4
    have t5 := hidIt (s5.out.box5 (.int .i64 C.what) (.int .i64 C.size) (.slice a5 C.m.length k5) (.slice b5' C.ts.length j5) (.int .i64 C.clock) 29)
    obtain ⟨c50, c51, c52, c53, c54⟩ := t5.out.get5 (b := w3.heap.size) (x0 := .int .i64 C.what) (x1 := .int .i64 C.size) (x2 := .slice a3 C.m.length k3) (x3 := .slice b3' C.ts.length j3) (x4 := .int .i64 C.clock) (by simp) (by simp) (by simp) (by simp) (by simp)
    go_wp2_with fail
    refine (eq_crew _ _ _ _ _ C FC.out (t5.out.at (.head _)).2.rd (t5.out.at (.tail _ (.tail _ (.head _)))).2.rd).mono ?_
    rintro e w6 ⟨rfl, b6⟩
    have s6 := hidIt (t5.out.grow b6)
    have z6 := b6.size
    simp at z6
    clear b6 c50 c51 c52 c53 c54 t5 s5
    go_wp2_with fail
    refine (to_ths _ _ ts hn FT.out (RI.out.below s6.out.below)).mono ?_
    rintro e w7 ⟨v7, rfl, f7, o7, nd7, g7, b7⟩
    have s7 := hidIt (s6.out.grow b7)
    have z7 := b7.size
    have R7 := hidIt o7.rd
    obtain ⟨a7, k7, rfl, -⟩ := o7.rd.form
    clear o7 nd7 g7 b7 s6
    go_wp2_with fail
    refine (eq_ths _ _ _ ts hn FT.out (s7.out.at (.tail _ (.head _))).2.rd R7.out).mono ?_
    rintro e w8 ⟨rfl, b8⟩
    have s8 := hidIt (s7.out.grow b8).front1
    have z8 := b8.size
    clear b8 s7 R7
    go_wp2_with fail
    refine (mark_ths _ _ ts f4 1 hn FT.out ET.out (s8.out.at (.head _)).2 N4.out).mono ?_
    rintro e w9 ⟨he, r9, k9⟩
    rw [ZT.out] at he
    subst he
    have s9 := hidIt (s8.out.mark1 (k9.toOut I4.out) (ThsO.within I4.out) r9 (by omega) (by simp <;> omega) (by simp <;> omega))
    have z9 := k9.size
    clear r9 k9 s8
    obtain ⟨c90, c91, c92, c93, c94⟩ := s9.out.get5 (b := w3.heap.size) (x0 := .int .i64 C.what) (x1 := .int .i64 C.size) (x2 := .slice a3 C.m.length k3) (x3 := .slice b3' C.ts.length j3) (x4 := .int .i64 C.clock) (by simp) (by simp) (by simp) (by simp) (by simp)
    obtain ⟨d90, d91, d92, d93, d94⟩ := s9.out.get5 (b := w5.heap.size) (x0 := .int .i64 C.what) (x1 := .int .i64 C.size) (x2 := .slice a5 C.m.length k5) (x3 := .slice b5' C.ts.length j5) (x4 := .int .i64 C.clock) (by simp) (by simp) (by simp) (by simp) (by simp)
    go_wp2_with fail
    refine (eq_crew _ _ _ _ _ C FC.out (s9.out.at (.tail _ (.head _))).2.rd (s9.out.at (.tail _ (.tail _ (.head _)))).2.rd).mono ?_
    rintro e w10 ⟨rfl, b10⟩
    have s10 := hidIt (s9.out.grow b10).front1
    have z10 := b10.size
    clear b10 c90 c91 c92 c93 c94 d90 d91 d92 d93 d94 s9
    obtain ⟨c100, c101, c102, c103, c104⟩ := s10.out.get5 (b := w5.heap.size) (x0 := .int .i64 C.what) (x1 := .int .i64 C.size) (x2 := .slice a5 C.m.length k5) (x3 := .slice b5' C.ts.length j5) (x4 := .int .i64 C.clock) (by simp) (by simp) (by simp) (by simp) (by simp)
    go_wp2_with fail
    refine (mark_crew _ _ _ C f5 1 FC.out (by omega) EC.out (s10.out.at (.head _)).2 N5.out).mono ?_
    rintro e w11 ⟨he, r11, k11⟩
    rw [ZE.out] at he
    subst he
    have s11 := hidIt (s10.out.mark1 (k11.toOut I5.out) (CwO.within I5.out) r11 (by omega) (by simp <;> omega) (by simp <;> omega))
    have z11 := k11.size
    clear r11 k11 c100 c101 c102 c103 c104 s10
    obtain ⟨c110, c111, c112, c113, c114⟩ := s11.out.get5 (b := w5.heap.size) (x0 := .int .i64 C.what) (x1 := .int .i64 C.size) (x2 := .slice a5 C.m.length k5) (x3 := .slice b5' C.ts.length j5) (x4 := .int .i64 C.clock) (by simp) (by simp) (by simp) (by simp) (by simp)
    go_wp2_with fail
    refine (held_crew _ _ _ C f5 1 FC.out (by omega) EC.out (s11.out.at (.head _)).2).mono ?_
    rintro e w12 ⟨he, b12⟩
    rw [ZE.out] at he
    subst he
    have s12 := hidIt (s11.out.grow b12)
    have z12 := b12.size
    clear b12 c110 c111 c112 c113 c114 s11
    go_wp2_with fail
    refine (to_ths _ _ ts hn FT.out (RI.out.below s12.out.below)).mono ?_
    rintro e w13 ⟨v13, rfl, f13, o13, nd13, g13, b13⟩
    have s13 := hidIt (s12.out.grow b13)
    have z13 := b13.size
    have R13 := hidIt o13.rd
    obtain ⟨a13, k13, rfl, -⟩ := o13.rd.form
    clear o13 nd13 g13 b13 s12
    go_wp2_with fail
    refine (HI.out _ _ R13.out).mono ?_
    rintro e w14 ⟨p14, l14, rfl, f14, o14, nd14, g14, b14⟩
    have s14 := hidIt ((s13.out.grow b14).row (Nat.le_refl _) (CwO.within (fun g hg => ⟨g14 g hg, o14.lt g hg⟩)) o14)
    have z14 := b14.size
    obtain ⟨a14, k14, rfl, -⟩ := o14.rd.m.form
    obtain ⟨b14', j14, rfl, -⟩ := o14.rd.ts.form
    clear o14 nd14 g14 b14 s13 R13
    have t14 := hidIt (s14.out.box5 (.int .i64 C.what) (.int .i64 C.size) (.slice a14 C.m.length k14) (.slice b14' C.ts.length j14) (.int .i64 C.clock) 29)
    obtain ⟨c140, c141, c142, c143, c144⟩ := t14.out.get5 (b := w3.heap.size) (x0 := .int .i64 C.what) (x1 := .int .i64 C.size) (x2 := .slice a3 C.m.length k3) (x3 := .slice b3' C.ts.length j3) (x4 := .int .i64 C.clock) (by simp) (by simp) (by simp) (by simp) (by simp)
    go_wp2_with fail
    refine (eq_crew _ _ _ _ _ C FC.out (t14.out.at (.head _)).2.rd (t14.out.at (.tail _ (.tail _ (.tail _ (.head _))))).2.rd).mono ?_
    rintro e w15 ⟨rfl, b15⟩
    have s15 := hidIt (t14.out.grow b15)
    clear b15 c140 c141 c142 c143 c144 t14 s14
    obtain ⟨c150, c151, c152, c153, c154⟩ := s15.out.get5 (b := w5.heap.size) (x0 := .int .i64 C.what) (x1 := .int .i64 C.size) (x2 := .slice a5 C.m.length k5) (x3 := .slice b5' C.ts.length j5) (x4 := .int .i64 C.clock) (by simp) (by simp) (by simp) (by simp) (by simp)
    go_wp2_with fail
    refine (held_crew _ _ _ C f5 1 FC.out (by omega) EC.out (s15.out.at (.tail _ (.head _))).2).mono ?_
    rintro e w16 ⟨he, b16⟩
    rw [ZE.out] at he
    subst he
    go_wp2
    go_ret
    exact ⟨rfl, (s15.out.grow b16).below⟩
  · go_enter Try.func3, Try.ntmps3
    go_wp2_with fail
    refine (sz_ths _ ts 1048576 _ n0 LI.out (by omega) (by omega) RI.out).mono ?_
    rintro e w1 ⟨rfl, b1⟩
    rw [show szR 1048576 (szThs ts) = -1 from if_pos (by omega)]
    clear hs
    go_wp2
    go_ret
    exact ⟨rfl, b1⟩

end Go.Proofs.Ytpfofjcfaelocaa
