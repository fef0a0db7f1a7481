/- For every int, every row of cells and every call the law FnExactRiStep answers true: RiStep of the program answers as its model, field by field, it writes into no argument, its answer is memory of its own, and a second call leaves it alone. No condition. -/
import Derived.Test.YtomfdbglnedpcaaRows
import Derived.WalkKit
import Derived.ProofKit
import Derived.OpenShut
import Derived.ShutString
import Derived.ChangeOld
import Derived.Below
import Derived.Test.YtomfdbglnedpcaaRiStepFns
import Derived.Test.YtomfdbglnedpcaaRiStepImpl
import Derived.Test.YtomfdbglnedpcaaRiStepWalk
import Derived.Test.YtomfdbglnedpcaaOpenMem
namespace Go.Proofs.Ytomfdbglnedpcaa.fnExactRiStep
open Go.ChangeShapes Go.WideShapes Go.ChangeAt Go.RowKit
set_option linter.unusedVariables false

theorem own : ownKnob Try.prog.godebug = none := by kernel_rfl
theorem laidOut : laidOutB Try.prog = true := by kernel_rfl

theorem riStepL_len (n : Int) (xs : List Int) (c : Cl) : (riStepL n xs c).length ≤ xs.length := by
  unfold riStepL memDo
  split <;> simp

theorem walk (a0 : Int) (m1 : Value) (xs1 : List Int) (ck2 : Int) (ca2 : Int) (cx2 : Int) (cpc2 : Int) (cp2 : Int) (cc2 : Int) (cw2 : Int) (cr2 : Int) (cv2 : Int) (cd2 : Bool) (w : World) (w0 : (Lit.int .i64 a0).wf = true) (r1 : InRow w m1 xs1) (n1 : xs1.length ≤ maxLen) (f1 : ∀ z ∈ xs1, (Lit.int .i64 z).wf = true) (wc2 : ∀ z ∈ [ck2, ca2, cx2, cpc2, cp2, cc2, cw2, cr2, cv2], (Lit.int .i64 z).wf = true) :
    Calls Try.prog 3 #[.int .i64 a0, .agg #[m1], .agg #[.int .i64 ck2, .int .i64 ca2, .int .i64 cx2, .int .i64 cpc2, .int .i64 cp2, .int .i64 cc2, .int .i64 cw2, .int .i64 cr2, .int .i64 cv2, .bool cd2]] w fun e w' => e = .returned (.bool true) ∧ Below w.heap.size w w' := by
  by_cases hs : xs1.length ≤ 1048576
  · exact walk_RiStep a0 ⟨ck2, ca2, cx2, cpc2, cp2, cc2, cw2, cr2, cv2, cd2⟩ m1 xs1 (riStepL a0 xs1 ⟨ck2, ca2, cx2, cpc2, cp2, cc2, cw2, cr2, cv2, cd2⟩) (riStepC a0 xs1 ⟨ck2, ca2, cx2, cpc2, cp2, cc2, cw2, cr2, cv2, cd2⟩) (riStepOk a0 xs1 ⟨ck2, ca2, cx2, cpc2, cp2, cc2, cw2, cr2, cv2, cd2⟩) w r1 n1 (by have := riStepL_len a0 xs1 ⟨ck2, ca2, cx2, cpc2, cp2, cc2, cw2, cr2, cv2, cd2⟩; omega) (fun hn lo hi v W hh r => spec_ristep a0 _ lo hi v xs1 W (by omega) hh r) (fun hn lo hi v W hh r => impl_ristep a0 _ lo hi v xs1 W (by omega) hh r)
  · exact walk_RiStep a0 ⟨ck2, ca2, cx2, cpc2, cp2, cc2, cw2, cr2, cv2, cd2⟩ m1 xs1 [] clZero false w r1 n1 (by simp) (fun hn => absurd hn hs) (fun hn => absurd hn hs)

set_option maxRecDepth 100000 in
theorem lifted (os : Os) (started : os.Started) (H : Type) (enc : TypeId × Value → H) :
    ReturnsInHanded {} Try.checked os 3 .any (Rows.fnExactRiStepSpec.pre6 enc Try.prog Try.f3 Rows.fnExactRiStepRow.domain false) (Rows.fnExactRiStepSpec.post enc Try.prog Try.f3 false true false false) := by
  refine returnsInHanded_of_change (C := Try.checked) own started (by kernel_rfl) Try.func3
    (ChangeSpec.witness6 (enc := enc) (C := Try.checked) false ⟨#[], #[.int .i64 0, .agg #[.slice none 0 0], .agg #[.int .i64 0, .int .i64 0, .int .i64 0, .int .i64 0, .int .i64 0, .int .i64 0, .int .i64 0, .int .i64 0, .int .i64 0, .bool false]], []⟩ 8 (by kernel_rfl) (by kernel_rfl) (by kernel_rfl) (by kernel_rfl)) ?_
  intro W base args ds gs before hval0 hW hcnd _
  have hval : ∀ (j : Nat) t v, Try.f3.params[j]? = some t → args[j]? = some v → Value.okWide Try.prog W .any base t v := hval0
  have hW' := hW
  obtain ⟨p, q, hA0, hV, rfl, hfz, hnd⟩ := hW
  have hA : DataW.TrodAll enc Try.prog W 0 (fun _ => true) true Try.f3.params.toList args.toList ds p := hA0
  rw [Try.params3] at hA hval
  obtain ⟨v0, vs0, d0, ds0, p0, q0, hargs, rfl, rfl, h0, s0⟩ := trodAll_cons hA
  obtain ⟨v1, vs1, d1, ds1, p1, q1, rfl, rfl, rfl, h1, s1⟩ := trodAll_cons s0
  obtain ⟨v2, vs2, d2, ds2, p2, q2, rfl, rfl, rfl, h2, s2⟩ := trodAll_cons s1
  obtain ⟨rfl, rfl, rfl⟩ := trodAll_nil s2
  obtain rfl : args = #[v0, v1, v2] := by cases args; simp_all
  obtain ⟨rfl, rfl⟩ := trodVars_none hV
  have lt0 : ∀ x ∈ p0, x.block < W.heap.size := by obtain ⟨m, hm⟩ := h0; exact DataW.trod_lt m _ _ _ hm
  obtain ⟨a0, rfl, w0⟩ := open_Int (hval 0 3 v0 rfl rfl) h0
  have lt1 : ∀ x ∈ p1, x.block < W.heap.size := by obtain ⟨m, hm⟩ := h1; exact DataW.trod_lt m _ _ _ hm
  obtain ⟨m1, xs1, rfl, r1, n1, f1⟩ := open_Mem (hval 1 24 v1 rfl rfl) h1
  have lt2 : ∀ x ∈ p2, x.block < W.heap.size := by obtain ⟨m, hm⟩ := h2; exact DataW.trod_lt m _ _ _ hm
  obtain ⟨ck2, ca2, cx2, cpc2, cp2, cc2, cw2, cr2, cv2, cd2, rfl, wc2⟩ := open_Call (hval 2 26 v2 rfl rfl) h2
  clear hA0 hval0
  refine (walk a0 m1 xs1 ck2 ca2 cx2 cpc2 cp2 cc2 cw2 cr2 cv2 cd2 W w0 r1 n1 f1 wc2).mono fun e W' ⟨he, bel⟩ => ?_
  subst he
  exact ⟨_, rfl, _, _, _, [], _, [], hW', trodAll_mk1 (shut_bool Try.underlying4 _), (trodAll_cons_mk (Below.trod laidOut (by kernel_rfl) (of_decide_eq_true (by kernel_rfl)) h0 bel lt0) (trodAll_cons_mk (Below.trod laidOut (by kernel_rfl) (of_decide_eq_true (by kernel_rfl)) h1 bel lt1) (trodAll_cons_mk (Below.trod laidOut (by kernel_rfl) (of_decide_eq_true (by kernel_rfl)) h2 bel lt2) trodAll_mk0))), rfl, bel.frame _, fun h => by cases h⟩

theorem over : Rows.fnExactRiStepRow.holds Try.pinned (OpenSpec.ofChange Rows.fnExactRiStepSpec) :=
  OpenClaim.holds_of_wide 3 Try.f3 rfl rfl rfl rfl rfl rfl rfl ⟨rfl, rfl, rfl, rfl, rfl⟩ rfl rfl rfl rfl rfl (by kernel_rfl) Try.func3 (by kernel_rfl)
    (of_decide_eq_true (by kernel_rfl)) (by unfold Func.isWrapper; first | (rw [if_pos (by decide +kernel)]; kernel_rfl) | (rw [if_neg (by decide +kernel)]; exact ⟨rfl, rfl⟩))
    (fun os started H enc _ => lifted os started H enc)

theorem proved : Rows.FnExactRiStepSaid := over
end Go.Proofs.Ytomfdbglnedpcaa.fnExactRiStep
namespace Go.Proofs.Ytomfdbglnedpcaa
theorem fnExactRiStep_holds : Rows.FnExactRiStepSaid := fnExactRiStep.proved
#print axioms fnExactRiStep_holds
end Go.Proofs.Ytomfdbglnedpcaa
