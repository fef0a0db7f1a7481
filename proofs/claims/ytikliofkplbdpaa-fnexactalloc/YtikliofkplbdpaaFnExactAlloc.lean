/- For all pools the law FnExactAlloc answers true: Alloc of the program answers as its model, every field; it writes into no argument, its answer is memory of its own, and a second call leaves it alone. No condition. -/
import Derived.Test.YtikliofkplbdpaaRows
import Derived.WalkKit
import Derived.ProofKit
import Derived.OpenShut
import Derived.ShutString
import Derived.ChangeOld
import Derived.Below
import Derived.Test.YtikliofkplbdpaaAllocAll
namespace Go.Proofs.Ytikliofkplbdpaa.fnExactAlloc
open Go.ChangeShapes Go.WideShapes Go.ChangeAt Go.RowKit
set_option linter.unusedVariables false

theorem own : ownKnob Try.prog.godebug = none := by kernel_rfl
theorem laidOut : laidOutB Try.prog = true := by kernel_rfl


theorem walk (P0 : Pl) (pf0 : Value) (pp0 : Value) (pl0 : Value) (pv0 : Value) (w : World) (r0 : PlIn w pf0 pp0 pl0 pv0 P0) (n0 : P0.fr.length ≤ maxLen) (k0 : P0.ps.length ≤ maxLen) (m0 : P0.L.length ≤ maxLen) (q0 : P0.lv.length ≤ maxLen) (wf0 : PlWf P0) :
    Calls Try.prog 3 #[.agg #[pf0, .int .i64 P0.a, pp0, pl0, pv0]] w fun e w' => e = .returned (.bool true) ∧ Below w.heap.size w w' := by
  exact walk_Alloc P0 pf0 pp0 pl0 pv0 w r0 n0 k0 m0 q0 wf0

set_option maxHeartbeats 1600000 in
set_option maxRecDepth 100000 in
theorem lifted (os : Os) (started : os.Started) (H : Type) (enc : TypeId × Value → H) :
    ReturnsInHanded {} Try.checked os 3 .any (Rows.fnExactAllocSpec.pre6 enc Try.prog Try.f3 Rows.fnExactAllocRow.domain false) (Rows.fnExactAllocSpec.post enc Try.prog Try.f3 false true false false) := by
  refine returnsInHanded_of_change (C := Try.checked) own started (by kernel_rfl) Try.func3
    (ChangeSpec.witness6 (enc := enc) (C := Try.checked) false ⟨#[], #[.agg #[.slice none 0 0, .int .i64 0, .slice none 0 0, .slice none 0 0, .slice none 0 0]], []⟩ 8 (by kernel_rfl) (by kernel_rfl) (by kernel_rfl) (by kernel_rfl)) ?_
  intro W base args ds gs before hval0 hW hcnd _
  have hval : ∀ (j : Nat) t v, Try.f3.params[j]? = some t → args[j]? = some v → Value.okWide Try.prog W .any base t v := hval0
  have hW' := hW
  obtain ⟨p, q, hA0, hV, rfl, hfz, hnd⟩ := hW
  have hA : DataW.TrodAll enc Try.prog W 0 (fun _ => true) true Try.f3.params.toList args.toList ds p := hA0
  rw [Try.params3] at hA hval
  obtain ⟨v0, vs0, d0, ds0, p0, q0, hargs, rfl, rfl, h0, s0⟩ := trodAll_cons hA
  obtain ⟨rfl, rfl, rfl⟩ := trodAll_nil s0
  obtain rfl : args = #[v0] := by cases args; simp_all
  obtain ⟨rfl, rfl⟩ := trodVars_none hV
  have lt0 : ∀ x ∈ p0, x.block < W.heap.size := by obtain ⟨m, hm⟩ := h0; exact DataW.trod_lt m _ _ _ hm
  obtain ⟨P0, pf0, pp0, pl0, pv0, rfl, r0, n0, k0, m0, q0, wf0⟩ := open_Pool (hval 0 27 v0 rfl rfl) h0
  clear hA0 hval0
  refine (walk P0 pf0 pp0 pl0 pv0 W r0 n0 k0 m0 q0 wf0).mono fun e W' ⟨he, bel⟩ => ?_
  subst he
  exact ⟨_, rfl, _, _, _, [], _, [], hW', trodAll_mk1 (shut_bool Try.underlying4 _), (trodAll_cons_mk (Below.trod laidOut (by kernel_rfl) (of_decide_eq_true (by kernel_rfl)) h0 bel lt0) trodAll_mk0), rfl, bel.frame _, fun h => by cases h⟩

theorem over : Rows.fnExactAllocRow.holds Try.pinned (OpenSpec.ofChange Rows.fnExactAllocSpec) :=
  OpenClaim.holds_of_wide 3 Try.f3 rfl rfl rfl rfl rfl rfl rfl ⟨rfl, rfl, rfl, rfl, rfl⟩ rfl rfl rfl rfl rfl (by kernel_rfl) Try.func3 (by kernel_rfl)
    (of_decide_eq_true (by kernel_rfl)) (by unfold Func.isWrapper; first | (rw [if_pos (by decide +kernel)]; kernel_rfl) | (rw [if_neg (by decide +kernel)]; exact ⟨rfl, rfl⟩))
    (fun os started H enc _ => lifted os started H enc)

theorem proved : Rows.FnExactAllocSaid := over
end Go.Proofs.Ytikliofkplbdpaa.fnExactAlloc
namespace Go.Proofs.Ytikliofkplbdpaa
theorem fnExactAlloc_holds : Rows.FnExactAllocSaid := fnExactAlloc.proved
#print axioms fnExactAlloc_holds
end Go.Proofs.Ytikliofkplbdpaa
