/- For all pools and every number the law FnExactGiveUp answers true: GiveUp of the program answers as its model, every field; it writes into no argument, its answer is memory of its own, and a second call leaves it alone. No condition. -/
import Derived.Test.YtdcnakpkmgepgaaRows
import Derived.WalkKit
import Derived.ProofKit
import Derived.OpenShut
import Derived.ShutString
import Derived.ChangeOld
import Derived.Below
import Derived.Test.YtdcnakpkmgepgaaGiveAll
import Derived.Test.YtdcnakpkmgepgaaRBaseB
namespace Go.Proofs.Ytdcnakpkmgepgaa.fnExactGiveUp
open Go.ChangeShapes Go.WideShapes Go.ChangeAt Go.RowKit
set_option linter.unusedVariables false

theorem own : ownKnob Try.prog.godebug = none := by kernel_rfl
theorem laidOut : laidOutB Try.prog = true := by kernel_rfl


theorem walk (P0 : Pl) (pf0 : Value) (pp0 : Value) (pl0 : Value) (pv0 : Value) (a1 : Int) (w : World) (r0 : PlIn w pf0 pp0 pl0 pv0 P0) (n0 : P0.fr.length ≤ maxLen) (k0 : P0.ps.length ≤ maxLen) (m0 : P0.L.length ≤ maxLen) (q0 : P0.lv.length ≤ maxLen) (wf0 : PlWf P0) (w1 : (Lit.int .i64 a1).wf = true) :
    Calls Try.prog 6 #[.agg #[pf0, .int .i64 P0.a, pp0, pl0, pv0], .int .i64 a1] w fun e w' => e = .returned (.bool true) ∧ Below w.heap.size w w' := by
  exact walk_GiveUp P0 pf0 pp0 pl0 pv0 a1 w1 w r0 n0 k0 m0 q0 wf0

set_option maxHeartbeats 1600000 in
set_option maxRecDepth 100000 in
theorem lifted (os : Os) (started : os.Started) (H : Type) (enc : TypeId × Value → H) :
    ReturnsInHanded {} Try.checked os 6 .any (Rows.fnExactGiveUpSpec.pre6 enc Try.prog Try.f6 Rows.fnExactGiveUpRow.domain false) (Rows.fnExactGiveUpSpec.post enc Try.prog Try.f6 false true false false) := by
  refine returnsInHanded_of_change (C := Try.checked) own started (by kernel_rfl) Try.func6
    (ChangeSpec.witness6 (enc := enc) (C := Try.checked) false ⟨#[], #[.agg #[.slice none 0 0, .int .i64 0, .slice none 0 0, .slice none 0 0, .slice none 0 0], .int .i64 0], []⟩ 8 (by kernel_rfl) (by kernel_rfl) (by kernel_rfl) (by kernel_rfl)) ?_
  intro W base args ds gs before hval0 hW hcnd _
  have hval : ∀ (j : Nat) t v, Try.f6.params[j]? = some t → args[j]? = some v → Value.okWide Try.prog W .any base t v := hval0
  have hW' := hW
  obtain ⟨p, q, hA0, hV, rfl, hfz, hnd⟩ := hW
  have hA : DataW.TrodAll enc Try.prog W 0 (fun _ => true) true Try.f6.params.toList args.toList ds p := hA0
  rw [Try.params6] at hA hval
  obtain ⟨v0, vs0, d0, ds0, p0, q0, hargs, rfl, rfl, h0, s0⟩ := trodAll_cons hA
  obtain ⟨v1, vs1, d1, ds1, p1, q1, rfl, rfl, rfl, h1, s1⟩ := trodAll_cons s0
  obtain ⟨rfl, rfl, rfl⟩ := trodAll_nil s1
  obtain rfl : args = #[v0, v1] := by cases args; simp_all
  obtain ⟨rfl, rfl⟩ := trodVars_none hV
  have lt0 : ∀ x ∈ p0, x.block < W.heap.size := by obtain ⟨m, hm⟩ := h0; exact DataW.trod_lt m _ _ _ hm
  obtain ⟨P0, pf0, pp0, pl0, pv0, rfl, r0, n0, k0, m0, q0, wf0⟩ := open_Pool (hval 0 27 v0 rfl rfl) h0
  have lt1 : ∀ x ∈ p1, x.block < W.heap.size := by obtain ⟨m, hm⟩ := h1; exact DataW.trod_lt m _ _ _ hm
  obtain ⟨a1, rfl, w1⟩ := open_Int (hval 1 3 v1 rfl rfl) h1
  clear hA0 hval0
  refine (walk P0 pf0 pp0 pl0 pv0 a1 W r0 n0 k0 m0 q0 wf0 w1).mono fun e W' ⟨he, bel⟩ => ?_
  subst he
  exact ⟨_, rfl, _, _, _, [], _, [], hW', trodAll_mk1 (shut_bool Try.underlying4 _), (trodAll_cons_mk (Below.trod laidOut (by kernel_rfl) (of_decide_eq_true (by kernel_rfl)) h0 bel lt0) (trodAll_cons_mk (Below.trod laidOut (by kernel_rfl) (of_decide_eq_true (by kernel_rfl)) h1 bel lt1) trodAll_mk0)), rfl, bel.frame _, fun h => by cases h⟩

theorem over : Rows.fnExactGiveUpRow.holds Try.pinned (OpenSpec.ofChange Rows.fnExactGiveUpSpec) :=
  OpenClaim.holds_of_wide 6 Try.f6 rfl rfl rfl rfl rfl rfl rfl ⟨rfl, rfl, rfl, rfl, rfl⟩ rfl rfl rfl rfl rfl (by kernel_rfl) Try.func6 (by kernel_rfl)
    (of_decide_eq_true (by kernel_rfl)) (by unfold Func.isWrapper; first | (rw [if_pos (by decide +kernel)]; kernel_rfl) | (rw [if_neg (by decide +kernel)]; exact ⟨rfl, rfl⟩))
    (fun os started H enc _ => lifted os started H enc)

theorem proved : Rows.FnExactGiveUpSaid := over
end Go.Proofs.Ytdcnakpkmgepgaa.fnExactGiveUp
namespace Go.Proofs.Ytdcnakpkmgepgaa
theorem fnExactGiveUp_holds : Rows.FnExactGiveUpSaid := fnExactGiveUp.proved
#print axioms fnExactGiveUp_holds
end Go.Proofs.Ytdcnakpkmgepgaa
