/- For every string the law FnExactLines answers true: Lines of the program answers as its model, its answer is memory of its own, and a second call leaves it alone. No condition. -/
import Derived.Test.YtjcbgegdccaoaagRows
import Derived.WalkKit
import Derived.ProofKit
import Derived.OpenShut
import Derived.ShutString
import Derived.Test.YtjcbgegdccaoaagLinesFns
import Derived.Test.YtjcbgegdccaoaagStrRows
namespace Go.Proofs.Ytjcbgegdccaoaag.fnExactLines
open Go.ChangeShapes Go.WideShapes Go.ChangeAt Go.RowKit
open Go.ChangeMaps (open_string shut_string)
set_option linter.unusedVariables false

theorem own : ownKnob Try.prog.godebug = none := by kernel_rfl


theorem walk (a0 : ByteArray) (w0 : a0.size ≤ maxLen) (w : World) :
    Calls Try.prog 7 #[.string a0] w fun e w' => e = .returned (.bool true) ∧ Below w.heap.size w w' := by
  by_cases hs : a0.size ≤ 1048576
  · have hl : (linesAll a0).length ≤ 1048577 := by have := linesAll_len a0; omega
    generalize hps : linesAll a0 = ps at hl
    have HP : Hid _ := hps
    clear hps
    go_enter Try.func7, Try.ntmps7
    go_wp2_with fail
    refine (spec_Lines a0 _ hs).mono ?_
    rintro e w1 ⟨v0, rfl, r0, b1⟩
    rw [HP.out] at r0
    go_wp2_with fail
    refine (impl_Lines a0 _ hs).mono ?_
    rintro e w2 ⟨v1, rfl, r1, b2⟩
    rw [HP.out] at r1
    have r0 := r0.below b2
    have s2 := b2.size
    go_wp2_with fail
    refine (eq_str _ _ _ _ _ _ _ ps (by omega) r1 r0).mono ?_
    rintro e w3 ⟨rfl, n3, rfl⟩
    go_wp2_with fail
    refine (mark_str _ _ _ _ ps 1 hl (by omega) (by omega) (Nat.le_refl _) (r1.drewN n3)).mono ?_
    rintro e w4 ⟨rfl, r4, b4⟩
    have r0 := (r0.drewN n3).below b4
    go_wp2_with fail
    refine (held_str _ _ _ _ ps.length 1 hl (by omega) (by omega) b4.size r4).mono ?_
    rintro e w5 ⟨rfl, b5⟩
    have r4 := r4.below (b5.mono b4.size)
    have s4 := b4.size
    have s5 := b5.size
    have r0 := r0.below (b5.mono (Nat.le_trans s2 s4))
    go_wp2_with fail
    refine (impl_Lines a0 _ hs).mono ?_
    rintro e w6 ⟨v2, rfl, r6, b6⟩
    rw [HP.out] at r6
    have r4 := r4.below (b6.mono (Nat.le_trans s4 s5))
    have r0 := r0.below (b6.mono (Nat.le_trans s2 (Nat.le_trans s4 s5)))
    have s6 := b6.size
    go_wp2_with fail
    refine (eq_str _ _ _ _ _ _ _ ps (by omega) r6 r0).mono ?_
    rintro e w7 ⟨rfl, n7, rfl⟩
    go_wp2_with fail
    refine (held_str (w6.drewN n7) _ _ _ ps.length 1 hl (by omega) (by omega) (Nat.le_trans s4 (Nat.le_trans s5 s6)) (r4.drewN n7)).mono ?_
    rintro e w8 ⟨rfl, b8⟩
    go_wp2
    go_ret
    have t2 : Below w.heap.size w w2 := b1.trans (b2.mono b1.size)
    have t4 : Below w.heap.size w w4 := (below_drewN t2 n3).trans (b4.mono b1.size)
    have t5 : Below w.heap.size w w5 := t4.trans (b5.mono t4.size)
    have t6 : Below w.heap.size w w6 := t5.trans (b6.mono t5.size)
    exact ⟨rfl, (below_drewN t6 n7).trans (b8.mono t6.size)⟩
  · go_enter Try.func7, Try.ntmps7
    go_wp2
    go_ret
    exact ⟨rfl, Below.refl _ _⟩

set_option maxRecDepth 100000 in
theorem lifted (os : Os) (started : os.Started) (H : Type) (enc : TypeId × Value → H) :
    ReturnsInHanded {} Try.checked os 7 .any (Rows.fnExactLinesSpec.pre6 enc Try.prog Try.f7 Rows.fnExactLinesRow.domain false) (Rows.fnExactLinesSpec.post enc Try.prog Try.f7 false true false false) := by
  refine returnsInHanded_of_change (C := Try.checked) own started (by kernel_rfl) Try.func7
    (ChangeSpec.witness6 (enc := enc) (C := Try.checked) false ⟨#[], #[.string ByteArray.empty], []⟩ 8 (by kernel_rfl) (by kernel_rfl) (by kernel_rfl) (by kernel_rfl)) ?_
  intro W base args ds gs before hval0 hW hcnd _
  have hval : ∀ (j : Nat) t v, Try.f7.params[j]? = some t → args[j]? = some v → Value.okWide Try.prog W .any base t v := hval0
  have hW' := hW
  obtain ⟨p, q, hA0, hV, rfl, hfz, hnd⟩ := hW
  have hA : DataW.TrodAll enc Try.prog W 0 (fun _ => true) true Try.f7.params.toList args.toList ds p := hA0
  rw [Try.params7] at hA hval
  obtain ⟨v0, vs0, d0, ds0, p0, q0, hargs, rfl, rfl, h0, r0⟩ := trodAll_cons hA
  obtain ⟨rfl, rfl, rfl⟩ := trodAll_nil r0
  obtain rfl : args = #[v0] := by cases args; simp_all
  obtain ⟨rfl, rfl⟩ := trodVars_none hV
  obtain ⟨a0, rfl, rfl, rfl, w0⟩ := open_string Try.underlying9 (hval 0 9 v0 rfl rfl) h0
  clear hA0 hval0
  simp only [List.append_nil] at hW'
  refine (walk a0 w0 W).mono fun e W' ⟨he, bel⟩ => ?_
  subst he
  exact ⟨_, rfl, _, _, _, [], [], [], hW', trodAll_mk1 (shut_bool Try.underlying4 _), (trodAll_cons_mk (shut_string Try.underlying9 w0) trodAll_mk0), rfl, bel.frame _, fun h => by cases h⟩

theorem over : Rows.fnExactLinesRow.holds Try.pinned (OpenSpec.ofChange Rows.fnExactLinesSpec) :=
  OpenClaim.holds_of_wide 7 Try.f7 rfl rfl rfl rfl rfl rfl rfl ⟨rfl, rfl, rfl, rfl, rfl⟩ rfl rfl rfl rfl rfl (by kernel_rfl) Try.func7 (by kernel_rfl)
    (of_decide_eq_true (by kernel_rfl)) (by unfold Func.isWrapper; first | (rw [if_pos (by decide +kernel)]; kernel_rfl) | (rw [if_neg (by decide +kernel)]; exact ⟨rfl, rfl⟩))
    (fun os started H enc _ => lifted os started H enc)

theorem proved : Rows.FnExactLinesSaid :=
  over
end Go.Proofs.Ytjcbgegdccaoaag.fnExactLines
namespace Go.Proofs.Ytjcbgegdccaoaag
theorem fnExactLines_holds : Rows.FnExactLinesSaid := fnExactLines.proved
#print axioms fnExactLines_holds
end Go.Proofs.Ytjcbgegdccaoaag
