/- The walk of the law of ItemOk. -/
import Derived.Test.YtijmjpjclhgaoaaRows
import Derived.WalkKit
import Derived.ProofKit
import Derived.OpenShut
import Derived.ShutString
import Derived.Test.YtijmjpjclhgaoaaItemFns
namespace Go.Proofs.Ytijmjpjclhgaoaa
open Go.ChangeShapes Go.WideShapes Go.ChangeAt Go.RowKit
set_option linter.unusedVariables false

set_option maxRecDepth 100000 in
theorem walk_ItemOk (c : It) (w : World) (hl : ItLim c) :
    Calls Try.prog 3 #[.agg #[.string c.k, .string c.v, .int .i64 c.f]] w fun e w' => e = .returned (.bool true) ∧ Below w.heap.size w w' := by
  by_cases hs : ((szIt c : Nat) : Int) ≤ 1048576
  · have hs2 : c.k.size ≤ 1048576 ∧ c.v.size ≤ 1048576 := by unfold szIt at hs; omega
    have HS := hidIt (fun W => spec_itemok c W hs2.1 hs2.2)
    have HI := hidIt (fun W => impl_itemok c W)
    generalize itB c = B at HS HI
    go_enter Try.func3, Try.ntmps3
    go_wp2_with fail
    refine (sz_item c _ _ hl (by omega) (by omega)).mono ?_
    rintro e w1 ⟨rfl, b1⟩
    rw [if_pos hs]
    have X := hidIt ((Bx.new w #[.string c.k, .string c.v, .int .i64 c.f] 23).below b1)
    have z1 := b1.size
    have B1 := hidIt (((Below.refl w.heap.size w).alloc (Nat.le_refl _) (.cells #[.string c.k, .string c.v, .int .i64 c.f] 23)).trans (b1.mono (by simp)))
    clear b1
    simp at z1
    have y0 := X.out.2.1 0
    have y1 := X.out.2.1 1
    have y2 := X.out.2.1 2
    simp at y0 y1 y2
    go_wp2_with fail
    clear y0 y1 y2
    refine (to_item c _).mono ?_
    rintro e wa1 ⟨rfl, ba⟩
    have za1 := ba.size
    have Xa1 := hidIt (X.out.below ba)
    have Ba1 := hidIt (B1.out.trans (ba.mono (by omega)))
    clear ba X
    go_wp2_with fail
    refine (HS.out _).mono ?_
    rintro e wb1 ⟨rfl, bb⟩
    have zb1 := bb.size
    have Xb1 := hidIt (Xa1.out.below bb)
    have Bb1 := hidIt (Ba1.out.trans (bb.mono (by omega)))
    clear bb Xa1
    have y0 := Xb1.out.2.1 0
    have y1 := Xb1.out.2.1 1
    have y2 := Xb1.out.2.1 2
    simp at y0 y1 y2
    go_wp2_with fail
    clear y0 y1 y2
    refine (to_item c _).mono ?_
    rintro e wa2 ⟨rfl, ba⟩
    have za2 := ba.size
    have Xa2 := hidIt (Xb1.out.below ba)
    have Ba2 := hidIt (Bb1.out.trans (ba.mono (by omega)))
    clear ba Xb1
    go_wp2_with fail
    refine (HI.out _).mono ?_
    rintro e wb2 ⟨rfl, bb⟩
    have zb2 := bb.size
    have Xb2 := hidIt (Xa2.out.below bb)
    have Bb2 := hidIt (Ba2.out.trans (bb.mono (by omega)))
    clear bb Xa2
    go_wp2
    go_ret
    exact ⟨rfl, Bb2.out⟩
  · go_enter Try.func3, Try.ntmps3
    go_wp2_with fail
    refine (sz_item c _ _ hl (by omega) (by omega)).mono ?_
    rintro e w1 ⟨rfl, b1⟩
    rw [if_neg (by omega)]
    go_wp2
    go_ret
    exact ⟨rfl, ((Below.refl _ _).alloc (Nat.le_refl _) _).trans (b1.mono (by simp <;> omega))⟩

end Go.Proofs.Ytijmjpjclhgaoaa
