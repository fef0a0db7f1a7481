/- For all crews the law FnExactFacts answers true: Facts of the program answers as its model, leaves its argument alone, and its answer owns its memory. No condition. -/
import Derived.Test.YtmifnemjihffkaaRows
import Derived.WalkKit
import Derived.ProofKit
import Derived.OpenShut
import Derived.ShutString
import Derived.ChangeOld
import Derived.Below
import Derived.Test.YtmifnemjihffkaaFactsWalk
import Derived.Test.YtmifnemjihffkaaOpenCrew
namespace Go.Proofs.Ytmifnemjihffkaa.fnExactFacts
open Go.ChangeShapes Go.WideShapes Go.ChangeAt Go.RowKit
set_option linter.unusedVariables false

theorem own : ownKnob Try.prog.godebug = none := by kernel_rfl
theorem laidOut : laidOutB Try.prog = true := by kernel_rfl


theorem walk (C0 : Cw) (vm0 : Value) (vt0 : Value) (w : World) (r0 : CwIn w vm0 vt0 C0) (l0 : CwLim C0) (wf0 : CwWf C0) :
    Calls Try.prog 3 #[.agg #[.int .i64 C0.what, .int .i64 C0.size, vm0, vt0, .int .i64 C0.clock]] w fun e w' => e = .returned (.bool true) ∧ Below w.heap.size w w' := by
  exact walk_Facts C0 vm0 vt0 w r0 l0 wf0 (fun h => factsL_small C0 h)

set_option maxHeartbeats 1600000 in
set_option maxRecDepth 100000 in
theorem lifted (os : Os) (started : os.Started) (H : Type) (enc : TypeId × Value → H) :
    ReturnsInHanded {} Try.checked os 3 .any (Rows.fnExactFactsSpec.pre6 enc Try.prog Try.f3 Rows.fnExactFactsRow.domain false) (Rows.fnExactFactsSpec.post enc Try.prog Try.f3 false true false false) := by
  refine returnsInHanded_of_change (C := Try.checked) own started (by kernel_rfl) Try.func3
    (ChangeSpec.witness6 (enc := enc) (C := Try.checked) false ⟨#[], #[.agg #[.int .i64 0, .int .i64 0, .slice none 0 0, .slice none 0 0, .int .i64 0]], []⟩ 8 (by kernel_rfl) (by kernel_rfl) (by kernel_rfl) (by kernel_rfl)) ?_
  intro W base args ds gs before hval0 hW hcnd _
  have hval : ∀ (j : Nat) t v, Try.f3.params[j]? = some t → args[j]? = some v → Value.okWide Try.prog W .any base t v := hval0
  have hW' := hW
  obtain ⟨p, q, hA0, hV, rfl, hfz, hnd⟩ := hW
  have hA : DataW.TrodAll enc Try.prog W 0 (fun _ => true) true Try.f3.params.toList args.toList ds p := hA0
  rw [Try.params3] at hA hval
  obtain ⟨v0, vs0, d0, ds0, p0, q0, hargs, rfl, rfl, h0, s0⟩ := trodAll_cons hA
  obtain ⟨rfl, rfl, rfl⟩ := trodAll_nil s0
  obtain rfl : args = #[v0] := by cases args; simp_all
  obtain ⟨rfl, rfl⟩ := trodVars_none hV
  have lt0 : ∀ x ∈ p0, x.block < W.heap.size := by obtain ⟨m, hm⟩ := h0; exact DataW.trod_lt m _ _ _ hm
  obtain ⟨C0, vm0, vt0, rfl, r0, l0, wf0⟩ := open_Crew (hval 0 27 v0 rfl rfl) h0
  clear hA0 hval0
  refine (walk C0 vm0 vt0 W r0 l0 wf0).mono fun e W' ⟨he, bel⟩ => ?_
  subst he
  exact ⟨_, rfl, _, _, _, [], _, [], hW', trodAll_mk1 (shut_bool Try.underlying4 _), (trodAll_cons_mk (Below.trod laidOut (by kernel_rfl) (of_decide_eq_true (by kernel_rfl)) h0 bel lt0) trodAll_mk0), rfl, bel.frame _, fun h => by cases h⟩

theorem over : Rows.fnExactFactsRow.holds Try.pinned (OpenSpec.ofChange Rows.fnExactFactsSpec) :=
  OpenClaim.holds_of_wide 3 Try.f3 rfl rfl rfl rfl rfl rfl rfl ⟨rfl, rfl, rfl, rfl, rfl⟩ rfl rfl rfl rfl rfl (by kernel_rfl) Try.func3 (by kernel_rfl)
    (of_decide_eq_true (by kernel_rfl)) (by unfold Func.isWrapper; first | (rw [if_pos (by decide +kernel)]; kernel_rfl) | (rw [if_neg (by decide +kernel)]; exact ⟨rfl, rfl⟩))
    (fun os started H enc _ => lifted os started H enc)

theorem proved : Rows.FnExactFactsSaid := over
end Go.Proofs.Ytmifnemjihffkaa.fnExactFacts
namespace Go.Proofs.Ytmifnemjihffkaa
theorem fnExactFacts_holds : Rows.FnExactFactsSaid := fnExactFacts.proved
#print axioms fnExactFacts_holds
end Go.Proofs.Ytmifnemjihffkaa
