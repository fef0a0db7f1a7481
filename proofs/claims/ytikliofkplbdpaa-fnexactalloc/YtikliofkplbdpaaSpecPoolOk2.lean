/- Whether a pool is well, by the model, whole. -/
import Derived.Test.YtikliofkplbdpaaRows
import Derived.WalkKit
import Derived.ProofKit
import Derived.OpenShut
import Derived.ShutString
import Derived.Test.YtikliofkplbdpaaSpecPoolOk
namespace Go.Proofs.Ytikliofkplbdpaa
open Go.ChangeShapes Go.WideShapes Go.ChangeAt Go.RowKit
set_option linter.unusedVariables false

theorem own_taken {w : World} {base g c k : Nat} {xs : List Int} (h : w.ownsRow base 3 1 (.slice (some ⟨g, 0, none⟩) xs.length c) xs.length (ints xs)) : ∀ j (hj : j < (xs.take k).length), w.cell? ⟨g, j, none⟩ = some (.int .i64 (xs.take k)[j]) := by
  intro j hj
  simp at hj
  rcases own_cells2 h with ⟨h1, -⟩ | ⟨g', c', hv, -, -, -, -, -, hc, -⟩
  · cases h1
  · simp at hv
    obtain ⟨rfl, rfl⟩ := hv
    have := hc j (by simp; omega)
    rw [this]
    simp
set_option maxHeartbeats 1600000 in
set_option maxRecDepth 100000 in
theorem spec_poolok (w : World) (f p l v : Value) (P : Pl) (hf : PlFit P) (h : PlIn w f p l v P) :
    Calls Try.prog 13 #[.agg #[f, .int .i64 P.a, p, l, v]] w fun e w' => e = .returned (.bool (plOkB P)) ∧ Below w.heap.size w w' := by
  have H := hidIt h
  have HF := hidIt hf
  obtain ⟨fa, fc, pa, pc, la, lc, va, vc, rfl, rfl, rfl, rfl⟩ := h.form
  clear h
  unfold PlFit at hf
  go_enter Try.func13, Try.ntmps13
  go_wp2_with fail
  generalize hW : World.alloc w _ = W0
  have X := Bx.new w #[.slice fa P.fr.length fc, .int .i64 P.a, .slice pa P.ps.length pc, .slice la P.L.length lc, .slice va P.lv.length vc] 33
  have bW : Below w.heap.size w W0 := by rw [← hW]; exact (Below.refl _ _).alloc (Nat.le_refl _) _
  have zW : W0.heap.size = w.heap.size + 1 := by rw [← hW]; simp
  rw [hW] at X
  clear hW
  have HX0 := hidIt X
  have BW := hidIt bW
  clear X bW
  refine (spec_all W0 _ _ _ _ P HF.out (H.out.below BW.out)).mono ?_
  rintro e w1 ⟨v1, rfl, o1, b1⟩
  have HO := hidIt o1
  obtain ⟨oa, oc, hv⟩ := own_form o1
  subst hv
  clear o1
  have HX := hidIt (HX0.out.below b1)
  have B1 := hidIt (bel_two BW.out b1)
  have z1 := b1.size
  clear b1 HX0
  have k1 := HX.out.2.1 1
  have k2 := HX.out.2.1 2
  have k3 := HX.out.2.1 3
  simp at k1 k2 k3
  go_wp2_with fail
  clear k1 k2 k3
  refine (spec_agesok w1 P.a _ _ P.ps P.L (H.out.below B1.out).ag).mono ?_
  rintro e w2 ⟨rfl, b2⟩
  have HX2 := hidIt (HX.out.below b2)
  have B2 := hidIt (bel_two B1.out b2)
  have z2 := b2.size
  have HO2 := hidIt (own_grow2 HO.out b2)
  clear b2 HX HO
  cases hB : okB P.a P.ps P.L with
  | false =>
    have HE := hidIt (plOk_no1 (P := P) hB)
    go_wp2
    go_ret
    exact ⟨ret_boolx HE.out.symm, B2.out⟩
  | true =>
    by_cases h100 : (allOf P).length ≤ 100
    case neg =>
      have HE := hidIt (plOk_no2 (P := P) h100)
      have h100' : (100 : Int) < ((allOf P).length : Int) := by omega
      clear h100
      go_wp2
      go_ret
      exact ⟨ret_boolx HE.out.symm, B2.out⟩
    have HB := hidIt hB
    have h100' : ¬ (100 : Int) < ((allOf P).length : Int) := by omega
    have hk4 := HX2.out.2.1 4
    simp at hk4
    have hzl := HX2.out.1
    go_wp2_with fail
    go_loopw [4] (fun i wr => ∃ k : Nat, k ≤ P.lv.length ∧ i = .int .i64 ((k : Int) + 1) ∧ Hid (∀ j, 0 < j → j < k + 1 → ∀ hj : j < P.lv.length, P.lv[j - 1]'(by omega) < P.lv[j]) ∧ Below w2.heap.size w2 wr) (fun i _ => P.lv.length + 1 - (intOf i).toNat)
    case atStart => exact ⟨0, Nat.zero_le _, rfl, hidIt (fun j h1 h2 => by omega), Below.refl _ _⟩
    case round =>
      rename World => wr
      obtain ⟨k, hk, rfl, HR, hbw⟩ := hrel
      have hzz := hbw.size
      have hl0 : w.heap.size < wr.heap.size := by omega
      have hk4' := below_cell hbw hzl hk4
      by_cases hlt : k + 1 < P.lv.length
      · have hlt' : (k : Int) + 1 < (P.lv.length : Int) := by omega
        obtain ⟨⟨va', vc', hv, hp⟩, -⟩ := H.out.lv.below (bel_two B2.out hbw)
        simp at hv
        obtain ⟨rfl, rfl⟩ := hv
        rcases hp with hp | ⟨b, off, rfl, hb, hp⟩
        · rw [hp] at hlt; simp at hlt
        have cA := hp (k + 1) hlt
        have cB := hp k (by omega)
        have HXY := hidIt (fun (e : P.lv[k] < P.lv[k + 1]) => (fun j h1 h2 hj => by
          by_cases hj2 : j = k + 1
          · subst hj2; exact e
          · exact HR.out j h1 (by omega) hj : ∀ j, 0 < j → j < k + 1 + 1 → ∀ hj : j < P.lv.length, P.lv[j - 1]'(by omega) < P.lv[j]))
        have HXN := hidIt (fun (e : ¬ P.lv[k] < P.lv[k + 1]) => riseB_no (xs := P.lv) (j := k + 1) (by omega) hlt e)
        clear hp HR
        generalize P.lv[k] = x at cB HXY HXN
        generalize P.lv[k + 1] = y at cA HXY HXN
        have hw1 : IntKind.i64.wrap (k : Int) = (k : Int) := by unfold IntKind.wrap; simp [IntKind.bits, IntKind.signed]; omega
        by_cases hxy : x < y
        · have HN := hidIt (HXY.out hxy)
          have hxy' : ¬ y ≤ x := by omega
          clear HXY HXN hxy
          go_wp2
          go_quiet (fail)
          go_wp2
          go_roundw
          case rel => exact ⟨k + 1, by omega, by go_num, hidIt HN.out, below_drewN hbw _⟩
          case measure => simp [intOf]; omega
        · have HN := hidIt (plOk_no3 (P := P) (HXN.out hxy))
          have hxy' : y ≤ x := by omega
          clear HXY HXN hxy
          go_wp2
          go_quiet (fail)
          go_wp2
          go_ret
          exact ⟨ret_boolx HN.out.symm, below_drewN (bel_two B2.out hbw) _⟩
      · have HRI := hidIt (riseB_yes (xs := P.lv) (fun j h1 hj => HR.out j h1 (by omega) hj))
        have HNo := hidIt (fun (j : Nat) (hj : j < (allOf P).length) h => plOk_no4 (P := P) (placesB_no hj h))
        have HYes := hidIt (fun h => plOk_yes (P := P) HB.out h100 HRI.out (placesB_yes h))
        have HO3 := hidIt (own_grow2 HO2.out hbw)
        have B3 := hidIt (bel_two B2.out hbw)
        clear HR HRI HO2 B2 HX2 hk4 h100'
        have hxl : (allOf P).length ≤ 4194304 := by omega
        generalize allOf P = xs at HO3 HNo HYes h100 hxl ⊢
        have hlt2 : ¬ ((k : Int) + 1 < (P.lv.length : Int)) := by omega
        go_wp2
        go_loopw [39] (fun i wq => ∃ k : Nat, k ≤ xs.length ∧ i = .int .i64 k ∧ Hid (∀ j (hj : j < xs.length), j < k → (0 ≤ xs[j] ∧ xs[j] < (xs.length : Int) ∧ ¬ xs[j] ∈ xs.take j)) ∧ Below wr.heap.size wr wq) (fun i _ => xs.length - (intOf i).toNat)
        case atStart => exact ⟨0, Nat.zero_le _, rfl, hidIt (fun j _ h2 => by omega), Below.refl _ _⟩
        case round =>
          rename World => wq
          obtain ⟨q, hq, rfl, HR, hbq⟩ := hrel
          by_cases hlq : q < xs.length
          · have hlq' : (q : Int) < (xs.length : Int) := by omega
            have HO4 := hidIt (own_grow2 HO3.out hbq)
            rcases own_cells2 HO4.out with ⟨-, h0, -⟩ | ⟨g, cap, hv, -, -, hcap, -, -, hcl, -⟩
            · omega
            simp at hv
            obtain ⟨rfl, rfl⟩ := hv
            have c1 := hcl q (by simpa using hlq)
            rw [List.getElem_map] at c1
            have HNX := hidIt (HNo.out q hlq)
            have HYX := hidIt (fun (e : 0 ≤ xs[q] ∧ xs[q] < (xs.length : Int) ∧ ¬ xs[q] ∈ xs.take q) => (fun j hj hjq => by
              by_cases hj2 : j = q
              · subst hj2; exact e
              · exact HR.out j hj (by omega) : ∀ j (hj : j < xs.length), j < q + 1 → (0 ≤ xs[j] ∧ xs[j] < (xs.length : Int) ∧ ¬ xs[j] ∈ xs.take j)))
            clear HR
            generalize xs[q] = x at c1 HNX HYX
            have hqc : (q : Int) ≤ (oc : Int) := by omega
            clear hcl
            by_cases h0 : x < 0
            · have HE := hidIt (HNX.out (fun h => by omega))
              clear HNX HYX
              go_wp2
              go_ret
              exact ⟨ret_boolx HE.out.symm, bel_two B3.out hbq⟩
            · by_cases h1 : (xs.length : Int) ≤ x
              · have HE := hidIt (HNX.out (fun h => by omega))
                clear HNX HYX
                go_wp2
                go_ret
                exact ⟨ret_boolx HE.out.symm, bel_two B3.out hbq⟩
              · have hhas := spec_has_some g oc (xs.take q) x wq (by simp; omega) (own_taken HO4.out)
                rw [show (xs.take q).length = q by simp; omega] at hhas
                have HH := hidIt hhas
                clear hhas HO4
                have h1' : x < (xs.length : Int) := by omega
                have h0' : 0 ≤ x := by omega
                clear h0 h1
                by_cases hm : x ∈ xs.take q
                · have HE := hidIt (HNX.out (fun h => h.2.2 hm))
                  have hb1 : hasN (xs.take q) x = true := decide_eq_true hm
                  clear HNX HYX hm
                  go_wp2_with (go_at_call 33; refine HH.out.mono ?_; rintro e wq ⟨rfl, rfl⟩; rw [hb1])
                  go_ret
                  exact ⟨ret_boolx HE.out.symm, bel_two B3.out hbq⟩
                · have HE := hidIt (HYX.out ⟨h0', h1', hm⟩)
                  have hb1 : hasN (xs.take q) x = false := decide_eq_false hm
                  clear HNX HYX hm
                  go_wp2_with (go_at_call 33; refine HH.out.mono ?_; rintro e wq ⟨rfl, rfl⟩; rw [hb1])
                  go_roundw
                  case rel => exact ⟨q + 1, by omega, by go_num, hidIt HE.out, hbq⟩
                  case measure => simp [intOf]; omega
          · have HE := hidIt (HYes.out (fun j hj => HR.out j hj (by omega)))
            clear HR
            go_wp2
            go_ret
            exact ⟨ret_boolx HE.out.symm, bel_two B3.out hbq⟩

end Go.Proofs.Ytikliofkplbdpaa
