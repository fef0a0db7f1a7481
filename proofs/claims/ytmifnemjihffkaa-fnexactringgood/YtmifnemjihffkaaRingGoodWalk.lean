/- The walk of the law of RingGood. -/
import Derived.Test.YtmifnemjihffkaaRows
import Derived.WalkKit
import Derived.ProofKit
import Derived.OpenShut
import Derived.ShutString
import Derived.Test.YtmifnemjihffkaaRgSpec
import Derived.Test.YtmifnemjihffkaaRgImpl
import Derived.Test.YtmifnemjihffkaaFcLaw
import Derived.Test.YtmifnemjihffkaaCrewHeld
namespace Go.Proofs.Ytmifnemjihffkaa
open Go.ChangeShapes Go.WideShapes Go.ChangeAt Go.RowKit
set_option linter.unusedVariables false

set_option maxHeartbeats 1600000 in
set_option maxRecDepth 100000 in
theorem walk_RingGood (v vl : Value) (L : List Fc) (xs : List Int) (w : World) (r0 : FactsIn w v L) (n0 : L.length ≤ 9223372036854775807) (r1 : IntsIn w vl xs) (n1 : xs.length ≤ 9223372036854775807) :
    Calls Try.prog 6 #[v, vl] w fun e w' => e = .returned (.bool true) ∧ Below w.heap.size w w' := by
  have RF := hidIt r0
  have RI := hidIt r1
  obtain ⟨pa, pc, rfl, -⟩ := r0.form
  obtain ⟨ia, ic, rfl, -⟩ := r1.form
  clear r0 r1
  by_cases hi : xs.length ≤ 1048576
  · have hi' : (xs.length : Int) ≤ 1048576 := by omega
    by_cases hs : L.length ≤ 1048576
    · have hn : L.length ≤ 4194304 := by omega
      have hm : xs.length ≤ 4194304 := by omega
      have HS := hidIt (fun v vl W h k => spec_ringgood v vl L xs W hn hm h k)
      have HI := hidIt (fun v vl W h k => impl_ringgood v vl L xs W hn hm h k)
      generalize rgB L xs = B at HS HI
      go_enter Try.func6, Try.ntmps6
      go_wp2_with fail
      refine (sz_facts pa L.length pc 1048576 _ n0 (by omega) (by omega)).mono ?_
      rintro e w0 ⟨rfl, hw0⟩
      have hw0 := hw0.symm
      subst hw0
      rw [if_neg (show ¬ (1048576 : Int) < (L.length : Int) by omega)]
      have hzz : (0 : Int) ≤ 1048576 - (L.length : Int) := by omega
      generalize (1048576 : Int) - (L.length : Int) = zz at hzz
      clear hs
      go_wp2_with fail
      refine (to_facts _ _ L hn RF.out).mono ?_
      rintro e w1 ⟨v1, rfl, f1, o1, -, -, b1⟩
      have B1 := hidIt b1
      have R1 := hidIt o1.rd
      obtain ⟨a1, k1, rfl, -⟩ := o1.rd.form
      clear o1 b1
      go_wp2_with fail
      refine (to_ints _ _ xs hm (RI.out.below B1.out)).mono ?_
      rintro e w2 ⟨v2, rfl, f2, o2, -, -, b2⟩
      have B2 := hidIt (below_step B1.out b2)
      have R1' := hidIt (R1.out.below b2)
      have R2 := hidIt o2.rd
      obtain ⟨a2, k2, rfl, -⟩ := o2.rd.form
      clear o2 b2 R1 B1
      go_wp2_with fail
      refine (HS.out _ _ _ R1'.out R2.out).mono ?_
      rintro e w3 ⟨rfl, b3⟩
      have B3 := hidIt (below_step B2.out b3)
      clear b3 R1' R2 B2
      go_wp2_with fail
      refine (to_facts _ _ L hn (RF.out.below B3.out)).mono ?_
      rintro e w4 ⟨v4, rfl, f4, o4, -, -, b4⟩
      have B4 := hidIt (below_step B3.out b4)
      have R4 := hidIt o4.rd
      obtain ⟨a4, k4, rfl, -⟩ := o4.rd.form
      clear o4 b4 B3
      go_wp2_with fail
      refine (to_ints _ _ xs hm (RI.out.below B4.out)).mono ?_
      rintro e w5 ⟨v5, rfl, f5, o5, -, -, b5⟩
      have B5 := hidIt (below_step B4.out b5)
      have R4a := hidIt (R4.out.below b5)
      have R5 := hidIt o5.rd
      obtain ⟨a5, k5, rfl, -⟩ := o5.rd.form
      clear o5 b5 R4 B4
      go_wp2_with fail
      refine (HI.out _ _ _ R4a.out R5.out).mono ?_
      rintro e w6 ⟨rfl, b6⟩
      have B6 := hidIt (below_step B5.out b6)
      have R4b := hidIt (R4a.out.below b6)
      have R5b := hidIt (R5.out.below b6)
      clear b6 R4a R5 B5
      go_wp2_with fail
      refine (to_facts _ _ L hn (RF.out.below B6.out)).mono ?_
      rintro e w7 ⟨v7, rfl, f7, o7, -, -, b7⟩
      have B7 := hidIt (below_step B6.out b7)
      have R7 := hidIt o7.rd
      have R4c := hidIt (R4b.out.below b7)
      have R5c := hidIt (R5b.out.below b7)
      obtain ⟨a7, k7, rfl, -⟩ := o7.rd.form
      clear o7 b7 R4b R5b B6
      go_wp2_with fail
      refine (eq_facts _ _ _ L hn R4c.out R7.out).mono ?_
      rintro e w8 ⟨rfl, b8⟩
      have B8 := hidIt (below_step B7.out b8)
      have R5d := hidIt (R5c.out.below b8)
      clear b8 R4c R7 R5c B7
      go_wp2_with fail
      refine (to_ints _ _ xs hm (RI.out.below B8.out)).mono ?_
      rintro e w9 ⟨v9, rfl, f9, o9, -, -, b9⟩
      have B9 := hidIt (below_step B8.out b9)
      have R9 := hidIt o9.rd
      have R5e := hidIt (R5d.out.below b9)
      obtain ⟨a9, k9, rfl, -⟩ := o9.rd.form
      clear o9 b9 R5d B8
      go_wp2_with fail
      refine (eq_ints _ _ _ xs hm R5e.out R9.out).mono ?_
      rintro e w10 ⟨rfl, b10⟩
      have B10 := hidIt (below_step B9.out b10)
      clear b10
      go_wp2
      go_ret
      exact ⟨rfl, B10.out⟩
    · go_enter Try.func6, Try.ntmps6
      go_wp2_with fail
      refine (sz_facts pa L.length pc 1048576 _ n0 (by omega) (by omega)).mono ?_
      rintro e w0 ⟨rfl, hw0⟩
      have hw0 := hw0.symm
      subst hw0
      rw [if_pos (show (1048576 : Int) < (L.length : Int) by omega)]
      clear hs
      go_wp2
      go_ret
      exact ⟨rfl, Below.refl _ _⟩
  · have hi' : (1048576 : Int) < (xs.length : Int) := by omega
    go_enter Try.func6, Try.ntmps6
    go_wp2
    go_ret
    exact ⟨rfl, Below.refl _ _⟩

end Go.Proofs.Ytmifnemjihffkaa
