/- A step of a stack's call by the program, where it says true. -/
import Derived.Test.YtabcmnoadoebpaaRows
import Derived.WalkKit
import Derived.ProofKit
import Derived.OpenShut
import Derived.ShutString
import Derived.Test.YtabcmnoadoebpaaStStepImpl
import Derived.Test.YtabcmnoadoebpaaStOnePlain
namespace Go.Proofs.Ytabcmnoadoebpaa
open Go.ChangeShapes Go.WideShapes Go.ChangeAt Go.RowKit
set_option linter.unusedVariables false

theorem impl_ststep_some (n : Int) (c co : Cl) (lo hi : Nat) (v : Value) (xs L : List Int) (w : World) (hn : xs.length ≤ 4194304) (hh : hi ≤ w.heap.size) (r : Row w lo hi v (ints xs)) (hwf : ∀ z ∈ xs, -9223372036854775808 ≤ z ∧ z ≤ 9223372036854775807) (l : -9223372036854775808 ≤ c.w) (u : c.w ≤ 9223372036854775807) (hs : iStep n xs c = some (L, co)) :
    Calls Try.prog 14 #[.int .i64 n, .agg #[v], .agg #[.int .i64 c.k, .int .i64 c.a, .int .i64 c.x, .int .i64 c.pc, .int .i64 c.p, .int .i64 c.c, .int .i64 c.w, .int .i64 c.r, .int .i64 c.v, .bool c.d]] w fun e w' => ∃ v', e = .returned (.tuple #[.agg #[v'], .agg #[.int .i64 co.k, .int .i64 co.a, .int .i64 co.x, .int .i64 co.pc, .int .i64 co.p, .int .i64 co.c, .int .i64 co.w, .int .i64 co.r, .int .i64 co.v, .bool co.d], .bool true]) ∧ Row w' w.heap.size w'.heap.size v' (ints L) ∧ Below w.heap.size w w' := by
  unfold iStep at hs
  cases hac : iAct n c with
  | none => rw [hac] at hs; cases hs
  | some ac =>
    rw [hac] at hs
    simp only at hs
    split at hs
    · rename_i hc
      simp only [Option.some.injEq, Prod.mk.injEq] at hs
      obtain ⟨rfl, rfl⟩ := hs
      obtain ⟨hd, p1, p2⟩ := iAct_some hac
      obtain ⟨k, a, x, pc, p, cc, cw, r', v', d⟩ := c
      simp only at hd p1 p2 l u
      subst hd
      have hT := told_bd hwf hc.2
      have e1 : doT xs ac.k ac.t ac.a ac.b = actTold (xs.getD ac.t.toNat 0) ac.k ac.a := by unfold doT; rw [if_pos hc.2]
      have e2 : doL xs ac.k ac.t ac.a ac.b = memDo xs ac.k ac.t ac.a ac.b := by unfold doL; rw [if_pos hc.2]
      refine impl_ststep_yes n k a x pc p cc cw r' v' (actTold (xs.getD ac.t.toNat 0) ac.k ac.a) ac _ lo hi v xs _ w hh r hc.1 (fun W => ?_) (fun lo hi v W hW rW => ?_) (fun W => ?_)
      · exact impl_stact n k a x pc p cc cw r' v' false W l u (some ac) hac
      · have := impl_do lo hi v xs ac.k ac.t ac.a ac.b W hn hW rW
        rw [e1, e2, hc.2] at this
        exact this
      · exact impl_told k a x pc p cc cw r' v' _ W l u hT.1 hT.2 p1 p2 _ rfl
    · cases hs

end Go.Proofs.Ytabcmnoadoebpaa
