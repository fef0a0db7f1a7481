/- Whether a pool is well, by the program. -/
import Derived.Test.YtdcnakpkmgepgaaRows
import Derived.WalkKit
import Derived.ProofKit
import Derived.OpenShut
import Derived.ShutString
import Derived.Test.YtdcnakpkmgepgaaImplStand
import Derived.Test.YtdcnakpkmgepgaaImplAgesOk
namespace Go.Proofs.Ytdcnakpkmgepgaa
open Go.ChangeShapes Go.WideShapes Go.ChangeAt Go.RowKit
set_option linter.unusedVariables false

theorem nat_wf {k : Nat} (h : k ≤ 16777216) : (Lit.int .i64 (k : Int)).wf = true := WalkArith.wf_i64 (by omega)
theorem field0 (x y : Int) (w : World) : (Instr.field 61 (.agg #[.int .i64 x, .int .i64 y]) 0).run Try.prog w = .ok (.int .i64 x) w := by kernel_rfl
theorem field1 (x y : Int) (w : World) : (Instr.field 61 (.agg #[.int .i64 x, .int .i64 y]) 1).run Try.prog w = .ok (.int .i64 y) w := by kernel_rfl
set_option maxHeartbeats 1600000 in
set_option maxRecDepth 100000 in
theorem impl_poolok (w : World) (f p l v : Value) (P : Pl) (hf : PlFit P) (hwf : PlWf P) (h : PlIn w f p l v P) :
    Calls Try.prog 12 #[.agg #[f, .int .i64 P.a, p, l, v]] w fun e w' => e = .returned (.bool (plOkB P)) ∧ Below w.heap.size w w' := by
  have H := hidIt h
  have HF := hidIt hf
  have HWF := hidIt hwf
  obtain ⟨fa, fc, pa, pc, la, lc, va, vc, rfl, rfl, rfl, rfl⟩ := h.form
  clear h hwf
  unfold PlFit at hf
  go_enter Try.func12, Try.ntmps12
  have hbig : Hid (∀ h : ¬ (allOf P).length ≤ 100, plOkB P = false) := hidIt (fun h => plOk_no2 h)
  have HN := hidIt (allOf_len P)
  by_cases h100 : P.fr.length + P.lv.length + P.L.length ≤ 100
  case neg =>
    have h100' : (100 : Int) < (P.fr.length : Int) + (P.lv.length : Int) + (P.L.length : Int) := by omega
    have HE := hidIt (hbig.out (by rw [HN.out]; exact h100))
    clear h100 hbig
    go_wp2
    go_ret
    exact ⟨ret_boolx HE.out.symm, (Below.refl _ _).alloc (Nat.le_refl _) _⟩
  have h100' : ¬ (100 : Int) < (P.fr.length : Int) + (P.lv.length : Int) + (P.L.length : Int) := by omega
  go_wp2_with fail
  generalize hW : World.alloc w _ = W0
  have X := Bx.new w #[.slice fa P.fr.length fc, .int .i64 P.a, .slice pa P.ps.length pc, .slice la P.L.length lc, .slice va P.lv.length vc] 34
  have bW : Below w.heap.size w W0 := by rw [← hW]; exact (Below.refl _ _).alloc (Nat.le_refl _) _
  have zW : W0.heap.size = w.heap.size + 1 := by rw [← hW]; simp
  rw [hW] at X
  clear hW
  have HX0 := hidIt X
  have BW := hidIt bW
  clear X bW
  refine (impl_agesok W0 P.a _ _ P.ps P.L (H.out.below BW.out).ag).mono ?_
  rintro e w1 ⟨rfl, b1⟩
  have HX := hidIt (HX0.out.below b1)
  have B1 := hidIt (bel_two BW.out b1)
  have z1 := b1.size
  clear b1 HX0
  cases hB : okB P.a P.ps P.L with
  | false =>
    have HE := hidIt (plOk_no1 (P := P) hB)
    go_wp2
    go_ret
    exact ⟨ret_boolx HE.out.symm, B1.out⟩
  | true =>
    have HB := hidIt hB
    have k4 := HX.out.2.1 4
    simp at k4
    go_wp2_with fail
    clear k4
    refine (impl_rises w1 _ P.lv (by omega) (H.out.below B1.out).lv).mono ?_
    rintro e w2 ⟨rfl, b2⟩
    have HX2 := hidIt (HX.out.below b2)
    have B2 := hidIt (bel_two B1.out b2)
    have z2 := b2.size
    clear b2 HX
    cases hR : riseB P.lv with
    | false =>
      have HE := hidIt (plOk_no3 (P := P) hR)
      go_wp2
      go_ret
      exact ⟨ret_boolx HE.out.symm, B2.out⟩
    | true =>
      have HR := hidIt hR
      have k0 := HX2.out.2.1 0
      have k1 := HX2.out.2.1 1
      have k2 := HX2.out.2.1 2
      have k3 := HX2.out.2.1 3
      have k4 := HX2.out.2.1 4
      simp at k0 k1 k2 k3 k4
      go_wp2_with fail
      clear k0 k1 k2 k3 k4
      refine (impl_standings w2 _ _ _ _ P HF.out HWF.out (H.out.below B2.out)).mono ?_
      rintro e w3 ⟨b, rfl, m3, hb3, b3⟩
      have M3 := hidIt m3
      have B3 := hidIt (bel_two B2.out b3)
      clear m3 b3 HX2
      go_wp2_with fail
      go_loopw [35] (fun i wr => ∃ k : Nat, k ≤ P.fr.length + P.lv.length + P.L.length ∧ i = .int .i64 k ∧ Hid (∀ j : Nat, j < k → (j : Int) ∈ allOf P) ∧ Below w3.heap.size w3 wr) (fun i _ => P.fr.length + P.lv.length + P.L.length - (intOf i).toNat)
      case atStart => exact ⟨0, Nat.zero_le _, rfl, hidIt (fun j h => by omega), Below.refl _ _⟩
      case round =>
        rename World => wr
        obtain ⟨k, hk, rfl, HR2, hbw⟩ := hrel
        by_cases hlt : k < P.fr.length + P.lv.length + P.L.length
        · have hlt' : (k : Int) < (P.fr.length : Int) + (P.lv.length : Int) + (P.L.length : Int) := by omega
          have HL := hidIt ((M3.out.below hbw).at (k : Int) (nat_wf (by omega)))
          by_cases hm : (k : Int) ∈ allOf P
          · obtain ⟨q, hq, hq0⟩ := stF_some P _ hm
            have hl : (Instr.lookup 58 (.map (some b)) (.int .i64 (k : Int)) false).run Try.prog wr = .ok (.agg #[.int .i64 q.1, .int .i64 q.2]) wr := by
              have := HL.out
              rw [hq] at this
              exact this
            have HR3 := hidIt (fun (j : Nat) (hj : j < k + 1) => show (j : Int) ∈ allOf P from by
              by_cases e : j = k
              · subst e; exact hm
              · exact HR2.out j (by omega))
            have hq1 : (q.1 == 0) = false := by simpa using hq0
            clear HR2 hm HL hq hq0
            generalize q.1 = q1 at hl hq1
            generalize q.2 = q2 at hl
            have hfd := field0 q1 q2
            go_wp2
            go_roundw
            case rel => exact ⟨k + 1, by omega, by go_num, HR3, hbw⟩
            case measure => simp [intOf]; omega
          · have hl : (Instr.lookup 58 (.map (some b)) (.int .i64 (k : Int)) false).run Try.prog wr = .ok (.agg #[.int .i64 0, .int .i64 0]) wr := by
              have := HL.out
              rw [stF_none P _ hm] at this
              exact this
            have HE := hidIt (plOk_no4 (P := P) (placesB_lack (by rw [HN.out]; exact hlt) hm))
            clear HR2 hm HL
            have hfd := field0 0 0
            go_wp2
            go_ret
            exact ⟨ret_boolx HE.out.symm, bel_two B3.out hbw⟩
        · have HE := hidIt (plOk_yes (P := P) HB.out (by rw [HN.out]; exact h100) HR.out (placesB_hold (fun j hj => HR2.out j (by rw [HN.out] at hj; omega))))
          have hlt2 : ¬ ((k : Int) < (P.fr.length : Int) + (P.lv.length : Int) + (P.L.length : Int)) := by omega
          clear HR2
          go_wp2
          go_ret
          exact ⟨ret_boolx HE.out.symm, bel_two B3.out hbw⟩

end Go.Proofs.Ytdcnakpkmgepgaa
