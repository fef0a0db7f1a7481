/- For every int and every row of cells the law FnExactLiKeys answers true: LiKeys of the program answers as its model, it writes into no argument, its answer is memory of its own, and a second call leaves it alone. No condition. -/
import Derived.Test.YtomfdbglnedpcaaRows
import Derived.WalkKit
import Derived.ProofKit
import Derived.OpenShut
import Derived.ShutString
import Derived.ChangeOld
import Derived.Below
import Derived.Test.YtomfdbglnedpcaaLiKeysSpec
import Derived.Test.YtomfdbglnedpcaaLiKeysImpl
import Derived.Test.YtomfdbglnedpcaaLiKeysWalk
import Derived.Test.YtomfdbglnedpcaaOpenMem
namespace Go.Proofs.Ytomfdbglnedpcaa.fnExactLiKeys
open Go.ChangeShapes Go.WideShapes Go.ChangeAt Go.RowKit
set_option linter.unusedVariables false

theorem own : ownKnob Try.prog.godebug = none := by kernel_rfl
theorem laidOut : laidOutB Try.prog = true := by kernel_rfl


theorem walk (a0 : Int) (m1 : Value) (xs1 : List Int) (w : World) (w0 : (Lit.int .i64 a0).wf = true) (r1 : InRow w m1 xs1) (n1 : xs1.length ≤ maxLen) (f1 : ∀ z ∈ xs1, (Lit.int .i64 z).wf = true) :
    Calls Try.prog 8 #[.int .i64 a0, .agg #[m1]] w fun e w' => e = .returned (.bool true) ∧ Below w.heap.size w w' := by
  have hwf : ∀ z ∈ xs1, -9223372036854775808 ≤ z ∧ z ≤ 9223372036854775807 := fun z hz => by have := f1 z hz; simp [Lit.wf, IntKind.min, IntKind.max, IntKind.signed, IntKind.bits] at this; omega
  exact walk_LiKeys a0 m1 xs1 (liKeys a0 xs1) w r1 n1 (by have := liKeys_len a0 xs1; omega) (fun hn lo hi v W hh r => spec_likeys a0 lo hi v xs1 W (by omega) hwf hh r) (fun hn lo hi v W hh r => impl_likeys a0 lo hi v xs1 W hwf hh r)

set_option maxRecDepth 100000 in
theorem lifted (os : Os) (started : os.Started) (H : Type) (enc : TypeId × Value → H) :
    ReturnsInHanded {} Try.checked os 8 .any (Rows.fnExactLiKeysSpec.pre6 enc Try.prog Try.f8 Rows.fnExactLiKeysRow.domain false) (Rows.fnExactLiKeysSpec.post enc Try.prog Try.f8 false true false false) := by
  refine returnsInHanded_of_change (C := Try.checked) own started (by kernel_rfl) Try.func8
    (ChangeSpec.witness6 (enc := enc) (C := Try.checked) false ⟨#[], #[.int .i64 0, .agg #[.slice none 0 0]], []⟩ 8 (by kernel_rfl) (by kernel_rfl) (by kernel_rfl) (by kernel_rfl)) ?_
  intro W base args ds gs before hval0 hW hcnd _
  have hval : ∀ (j : Nat) t v, Try.f8.params[j]? = some t → args[j]? = some v → Value.okWide Try.prog W .any base t v := hval0
  have hW' := hW
  obtain ⟨p, q, hA0, hV, rfl, hfz, hnd⟩ := hW
  have hA : DataW.TrodAll enc Try.prog W 0 (fun _ => true) true Try.f8.params.toList args.toList ds p := hA0
  rw [Try.params8] at hA hval
  obtain ⟨v0, vs0, d0, ds0, p0, q0, hargs, rfl, rfl, h0, s0⟩ := trodAll_cons hA
  obtain ⟨v1, vs1, d1, ds1, p1, q1, rfl, rfl, rfl, h1, s1⟩ := trodAll_cons s0
  obtain ⟨rfl, rfl, rfl⟩ := trodAll_nil s1
  obtain rfl : args = #[v0, v1] := by cases args; simp_all
  obtain ⟨rfl, rfl⟩ := trodVars_none hV
  have lt0 : ∀ x ∈ p0, x.block < W.heap.size := by obtain ⟨m, hm⟩ := h0; exact DataW.trod_lt m _ _ _ hm
  obtain ⟨a0, rfl, w0⟩ := open_Int (hval 0 3 v0 rfl rfl) h0
  have lt1 : ∀ x ∈ p1, x.block < W.heap.size := by obtain ⟨m, hm⟩ := h1; exact DataW.trod_lt m _ _ _ hm
  obtain ⟨m1, xs1, rfl, r1, n1, f1⟩ := open_Mem (hval 1 24 v1 rfl rfl) h1
  clear hA0 hval0
  refine (walk a0 m1 xs1 W w0 r1 n1 f1).mono fun e W' ⟨he, bel⟩ => ?_
  subst he
  exact ⟨_, rfl, _, _, _, [], _, [], hW', trodAll_mk1 (shut_bool Try.underlying4 _), (trodAll_cons_mk (Below.trod laidOut (by kernel_rfl) (of_decide_eq_true (by kernel_rfl)) h0 bel lt0) (trodAll_cons_mk (Below.trod laidOut (by kernel_rfl) (of_decide_eq_true (by kernel_rfl)) h1 bel lt1) trodAll_mk0)), rfl, bel.frame _, fun h => by cases h⟩

theorem over : Rows.fnExactLiKeysRow.holds Try.pinned (OpenSpec.ofChange Rows.fnExactLiKeysSpec) :=
  OpenClaim.holds_of_wide 8 Try.f8 rfl rfl rfl rfl rfl rfl rfl ⟨rfl, rfl, rfl, rfl, rfl⟩ rfl rfl rfl rfl rfl (by kernel_rfl) Try.func8 (by kernel_rfl)
    (of_decide_eq_true (by kernel_rfl)) (by unfold Func.isWrapper; first | (rw [if_pos (by decide +kernel)]; kernel_rfl) | (rw [if_neg (by decide +kernel)]; exact ⟨rfl, rfl⟩))
    (fun os started H enc _ => lifted os started H enc)

theorem proved : Rows.FnExactLiKeysSaid := over
end Go.Proofs.Ytomfdbglnedpcaa.fnExactLiKeys
namespace Go.Proofs.Ytomfdbglnedpcaa
theorem fnExactLiKeys_holds : Rows.FnExactLiKeysSaid := fnExactLiKeys.proved
#print axioms fnExactLiKeys_holds
end Go.Proofs.Ytomfdbglnedpcaa
