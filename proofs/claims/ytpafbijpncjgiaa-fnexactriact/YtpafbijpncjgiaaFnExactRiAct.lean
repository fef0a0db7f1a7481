/- For every int and every call the law FnExactRiAct answers true: RiAct of the program answers as its model, field by field. No condition. -/
import Derived.Test.YtpafbijpncjgiaaRows
import Derived.WalkKit
import Derived.ProofKit
import Derived.OpenShut
import Derived.ShutString
import Derived.ChangeOld
import Derived.Below
import Derived.Test.YtpafbijpncjgiaaRiActSpec
import Derived.Test.YtpafbijpncjgiaaRiActFns
import Derived.Test.YtpafbijpncjgiaaRiActWalk
import Derived.Test.YtpafbijpncjgiaaOpenMem
namespace Go.Proofs.Ytpafbijpncjgiaa.fnExactRiAct
open Go.ChangeShapes Go.WideShapes Go.ChangeAt Go.RowKit
set_option linter.unusedVariables false

theorem own : ownKnob Try.prog.godebug = none := by kernel_rfl
theorem laidOut : laidOutB Try.prog = true := by kernel_rfl


theorem walk (a0 : Int) (ck1 : Int) (ca1 : Int) (cx1 : Int) (cpc1 : Int) (cp1 : Int) (cc1 : Int) (cw1 : Int) (cr1 : Int) (cv1 : Int) (cd1 : Bool) (w : World) (w0 : (Lit.int .i64 a0).wf = true) (wc1 : ∀ z ∈ [ck1, ca1, cx1, cpc1, cp1, cc1, cw1, cr1, cv1], (Lit.int .i64 z).wf = true) :
    Calls Try.prog 6 #[.int .i64 a0, .agg #[.int .i64 ck1, .int .i64 ca1, .int .i64 cx1, .int .i64 cpc1, .int .i64 cp1, .int .i64 cc1, .int .i64 cw1, .int .i64 cr1, .int .i64 cv1, .bool cd1]] w fun e w' => e = .returned (.bool true) ∧ Below w.heap.size w w' := by
  exact walk_RiAct a0 ⟨ck1, ca1, cx1, cpc1, cp1, cc1, cw1, cr1, cv1, cd1⟩ w _ _ (fun W => spec_riact a0 _ W) (fun W => impl_riact a0 _ W)

set_option maxRecDepth 100000 in
theorem lifted (os : Os) (started : os.Started) (H : Type) (enc : TypeId × Value → H) :
    ReturnsInHanded {} Try.checked os 6 .any (Rows.fnExactRiActSpec.pre6 enc Try.prog Try.f6 Rows.fnExactRiActRow.domain false) (Rows.fnExactRiActSpec.post enc Try.prog Try.f6 false true false false) := by
  refine returnsInHanded_of_change (C := Try.checked) own started (by kernel_rfl) Try.func6
    (ChangeSpec.witness6 (enc := enc) (C := Try.checked) false ⟨#[], #[.int .i64 0, .agg #[.int .i64 0, .int .i64 0, .int .i64 0, .int .i64 0, .int .i64 0, .int .i64 0, .int .i64 0, .int .i64 0, .int .i64 0, .bool false]], []⟩ 8 (by kernel_rfl) (by kernel_rfl) (by kernel_rfl) (by kernel_rfl)) ?_
  intro W base args ds gs before hval0 hW hcnd _
  have hval : ∀ (j : Nat) t v, Try.f6.params[j]? = some t → args[j]? = some v → Value.okWide Try.prog W .any base t v := hval0
  have hW' := hW
  obtain ⟨p, q, hA0, hV, rfl, hfz, hnd⟩ := hW
  have hA : DataW.TrodAll enc Try.prog W 0 (fun _ => true) true Try.f6.params.toList args.toList ds p := hA0
  rw [Try.params6] at hA hval
  obtain ⟨v0, vs0, d0, ds0, p0, q0, hargs, rfl, rfl, h0, s0⟩ := trodAll_cons hA
  obtain ⟨v1, vs1, d1, ds1, p1, q1, rfl, rfl, rfl, h1, s1⟩ := trodAll_cons s0
  obtain ⟨rfl, rfl, rfl⟩ := trodAll_nil s1
  obtain rfl : args = #[v0, v1] := by cases args; simp_all
  obtain ⟨rfl, rfl⟩ := trodVars_none hV
  have lt0 : ∀ x ∈ p0, x.block < W.heap.size := by obtain ⟨m, hm⟩ := h0; exact DataW.trod_lt m _ _ _ hm
  obtain ⟨a0, rfl, w0⟩ := open_Int (hval 0 3 v0 rfl rfl) h0
  have lt1 : ∀ x ∈ p1, x.block < W.heap.size := by obtain ⟨m, hm⟩ := h1; exact DataW.trod_lt m _ _ _ hm
  obtain ⟨ck1, ca1, cx1, cpc1, cp1, cc1, cw1, cr1, cv1, cd1, rfl, wc1⟩ := open_Call (hval 1 43 v1 rfl rfl) h1
  clear hA0 hval0
  refine (walk a0 ck1 ca1 cx1 cpc1 cp1 cc1 cw1 cr1 cv1 cd1 W w0 wc1).mono fun e W' ⟨he, bel⟩ => ?_
  subst he
  exact ⟨_, rfl, _, _, _, [], _, [], hW', trodAll_mk1 (shut_bool Try.underlying4 _), (trodAll_cons_mk (Below.trod laidOut (by kernel_rfl) (of_decide_eq_true (by kernel_rfl)) h0 bel lt0) (trodAll_cons_mk (Below.trod laidOut (by kernel_rfl) (of_decide_eq_true (by kernel_rfl)) h1 bel lt1) trodAll_mk0)), rfl, bel.frame _, fun h => by cases h⟩

theorem over : Rows.fnExactRiActRow.holds Try.pinned (OpenSpec.ofChange Rows.fnExactRiActSpec) :=
  OpenClaim.holds_of_wide 6 Try.f6 rfl rfl rfl rfl rfl rfl rfl ⟨rfl, rfl, rfl, rfl, rfl⟩ rfl rfl rfl rfl rfl (by kernel_rfl) Try.func6 (by kernel_rfl)
    (of_decide_eq_true (by kernel_rfl)) (by unfold Func.isWrapper; first | (rw [if_pos (by decide +kernel)]; kernel_rfl) | (rw [if_neg (by decide +kernel)]; exact ⟨rfl, rfl⟩))
    (fun os started H enc _ => lifted os started H enc)

theorem proved : Rows.FnExactRiActSaid := over
end Go.Proofs.Ytpafbijpncjgiaa.fnExactRiAct
namespace Go.Proofs.Ytpafbijpncjgiaa
theorem fnExactRiAct_holds : Rows.FnExactRiActSaid := fnExactRiAct.proved
#print axioms fnExactRiAct_holds
end Go.Proofs.Ytpafbijpncjgiaa
