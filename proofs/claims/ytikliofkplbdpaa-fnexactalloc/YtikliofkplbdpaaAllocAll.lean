/- Contracts of functions of the program and of its model, and plain lemmas: several texts in one. -/
import Derived.Test.YtikliofkplbdpaaRows
import Derived.WalkKit
import Derived.ProofKit
import Derived.OpenShut
import Derived.ShutString
import Derived.Test.YtikliofkplbdpaaPoolOkPlain
import Derived.Test.YtikliofkplbdpaaPoolRows
import Derived.Test.YtikliofkplbdpaaSpecPoolOk
import Derived.Maps.OwnOps
import Derived.Test.YtikliofkplbdpaaImplAgesOk
import Derived.Test.YtikliofkplbdpaaSpecPoolOk2
import Derived.Test.YtikliofkplbdpaaSpecAgesOk
import Derived.Test.YtikliofkplbdpaaSpecCopy
import Derived.Test.YtikliofkplbdpaaCellRow
import Derived.Test.YtikliofkplbdpaaAgesFns
import Derived.Deep.LoopGhost
import Derived.Deep.RegionHeld3
import Derived.Test.YtikliofkplbdpaaSrcPlain
import Derived.Maps.RangeWalk
import Derived.Sort.OwnSortedInts
import Derived.Test.YtikliofkplbdpaaShelf
import Derived.Shelf.Slices.In.SortNone
import Derived.Test.YtikliofkplbdpaaPoolCopy
import Derived.Test.YtikliofkplbdpaaPoolAns
import Derived.Test.YtikliofkplbdpaaPoolCopyC
import Derived.Test.YtikliofkplbdpaaImplCopy
import Derived.Test.YtikliofkplbdpaaConcatFns
import Derived.Test.YtikliofkplbdpaaThCopy
import Derived.Test.YtikliofkplbdpaaPoolAges
import Derived.Test.YtikliofkplbdpaaOpenMem
import Derived.Test.YtikliofkplbdpaaAgePlain
import Derived.Deep.SlicePairs
import Derived.Test.YtikliofkplbdpaaOpenCrew
import Derived.Test.YtikliofkplbdpaaPoolPlain

namespace Go.Proofs.Ytikliofkplbdpaa
open Go.ChangeShapes Go.WideShapes Go.ChangeAt Go.RowKit
set_option linter.unusedVariables false

theorem putAll_step (U : List (Int × (Int × Int))) (g : Int → Option (Int × Int)) (k : Nat) (hk : k < U.length) : putAll (U.take (k + 1)) g = updF (putAll (U.take k) g) U[k].1 U[k].2 := by
  rw [List.take_succ_eq_append_getElem hk, putAll_snoc]
theorem putAll_full (U : List (Int × (Int × Int))) (g : Int → Option (Int × Int)) (k : Nat) (hk : k = U.length) : putAll (U.take k) g = putAll U g := by
  rw [List.take_of_length_le (by omega)]
def uFr (xs : List Int) : List (Int × (Int × Int)) := xs.map fun z => (z, (1, 0))
def uLv (xs : List Int) : List (Int × (Int × Int)) := xs.map fun z => (z, (2, 0))
def uLi (L : List (Int × Int)) : List (Int × (Int × Int)) := L.map fun q => (q.1, (3, q.2))
theorem uFr_len (xs : List Int) : (uFr xs).length = xs.length := by simp [uFr]
theorem uLv_len (xs : List Int) : (uLv xs).length = xs.length := by simp [uLv]
theorem uLi_len (xs : List (Int × Int)) : (uLi xs).length = xs.length := by simp [uLi]
theorem stF_eq (P : Pl) : stF P = putAll (uLi P.L) (putAll (uLv P.lv) (putAll (uFr P.fr) (fun _ => none))) := by
  show putAll (uFr P.fr ++ (uLv P.lv ++ uLi P.L)) _ = _
  rw [putAll_app, putAll_app]
set_option maxHeartbeats 1600000 in
set_option maxRecDepth 100000 in
theorem impl_standings (w : World) (f p l v : Value) (P : Pl) (hf : PlFit P) (hwf : PlWf P) (h : PlIn w f p l v P) :
    Calls Try.prog 21 #[.agg #[f, .int .i64 P.a, p, l, v]] w fun e w' => ∃ b, e = .returned (.map (some b)) ∧ MapF w' b (P.fr.length + P.lv.length + P.L.length) (stF P) ∧ w.heap.size ≤ b ∧ Below w.heap.size w w' := by
  have hmm := @run_makeMap Try.prog
  have H := hidIt h
  obtain ⟨fa, fc, pa, pc, la, lc, va, vc, rfl, rfl, rfl, rfl⟩ := h.form
  clear h
  obtain ⟨wf1, wf2, wf3⟩ := hwf
  have WF1 := hidIt wf1
  have WF2 := hidIt wf2
  have WF3 := hidIt wf3
  clear wf1 wf2 wf3
  unfold PlFit at hf
  go_enter Try.func21, Try.ntmps21
  go_wp2_with fail
  generalize hW : World.alloc w _ = W0
  have X := Bx.new w #[.slice fa P.fr.length fc, .int .i64 P.a, .slice pa P.ps.length pc, .slice la P.L.length lc, .slice va P.lv.length vc] 33
  have bW : Below w.heap.size w W0 := by rw [← hW]; exact (Below.refl _ _).alloc (Nat.le_refl _) _
  have zW : W0.heap.size = w.heap.size + 1 := by rw [← hW]; simp
  rw [hW] at X
  clear hW
  have HX := hidIt X
  have BW := hidIt bW
  have k0 := HX.out.2.1 0
  have k3 := HX.out.2.1 3
  have k4 := HX.out.2.1 4
  simp at k0 k3 k4
  have hl0 := HX.out.1
  clear X bW
  generalize hW1 : World.alloc W0 _ = W1
  have MM := hidIt (show MapF W1 (w.heap.size + 1) 0 (fun _ => none) from by rw [← hW1, ← zW]; exact MapF.made W0)
  have BW1 := hidIt (show Below W0.heap.size W0 W1 from by rw [← hW1]; exact (Below.refl _ _).alloc (Nat.le_refl _) _)
  clear hW1
  have z1 := BW1.out.size
  have k0' := below_cell BW1.out hl0 k0
  go_wp2_with fail
  go_loopw [14] (fun i wr => ∃ k : Nat, k ≤ P.fr.length ∧ i = .int .i64 k ∧ Hid (MapF wr (w.heap.size + 1) k (putAll ((uFr P.fr).take k) (fun _ => none))) ∧ Below W0.heap.size W0 wr) (fun i _ => P.fr.length - (intOf i).toNat)
  case atStart => exact ⟨0, Nat.zero_le _, rfl, MM, BW1.out⟩
  case round =>
    rename World => wr
    obtain ⟨k, hk, rfl, HM, hbw⟩ := hrel
    by_cases hlt : k < P.fr.length
    · have hlt' : (k : Int) < (P.fr.length : Int) := by omega
      obtain ⟨⟨fa', fc', hv, hp⟩, -⟩ := H.out.fr.below (bel_two BW.out hbw)
      simp at hv
      obtain ⟨rfl, rfl⟩ := hv
      rcases hp with hp | ⟨b, off, rfl, hb, hp⟩
      · rw [hp] at hlt; simp at hlt
      have cA := hp k hlt
      have HZ := hidIt (WF1.out _ (List.getElem_mem hlt))
      have HS := hidIt (show putAll ((uFr P.fr).take (k + 1)) (fun _ => none) = updF (putAll ((uFr P.fr).take k) (fun _ => none)) P.fr[k] (1, 0) from by rw [putAll_step _ _ k (by rw [uFr_len]; exact hlt)]; simp [uFr])
      clear hp
      generalize P.fr[k] = z at cA HZ HS
      go_wp2_with (first | (at_mapUpdate; refine wpList_put _ rfl rfl _ _ _ rfl (w.heap.size + 1) k _ rfl HM.out (by unfold maxLen; omega) z (1, 0) rfl rfl HZ.out ?_; intro w1 m1 g1) | go_in)
      have hb1 : Below W0.heap.size W0 w1 := bel_grown hbw g1 (fun j hj => by cases hj; omega)
      have M1 := hidIt m1
      clear m1 g1
      go_roundw
      case rel => exact ⟨k + 1, by omega, by go_num, hidIt (by rw [HS.out]; exact M1.out), hb1⟩
      case measure => simp [intOf]; omega
    · obtain rfl : k = P.fr.length := by omega
      have HM2 := hidIt (show MapF wr (w.heap.size + 1) P.fr.length (putAll (uFr P.fr) (fun _ => none)) from by rw [← putAll_full (uFr P.fr) (fun _ => none) P.fr.length (uFr_len _).symm]; exact HM.out)
      have HB2 := hidIt hbw
      have k4' := below_cell hbw hl0 k4
      clear HM MM k0'
      generalize hg1 : putAll (uFr P.fr) (fun _ => none) = G1 at HM2
      have HG1 := hidIt hg1
      clear hg1
      have hlw : w.heap.size < wr.heap.size := by have := hbw.size; omega
      go_wp2_with fail
      go_loopw [25] (fun i wq => ∃ k : Nat, k ≤ P.lv.length ∧ i = .int .i64 k ∧ Hid (MapF wq (w.heap.size + 1) (P.fr.length + k) (putAll ((uLv P.lv).take k) G1)) ∧ Below W0.heap.size W0 wq) (fun i _ => P.lv.length - (intOf i).toNat)
      case atStart => exact ⟨0, Nat.zero_le _, rfl, HM2, HB2.out⟩
      case round =>
        rename World => wq
        clear hbw
        obtain ⟨k, hk, rfl, HM, hbw⟩ := hrel
        by_cases hlt : k < P.lv.length
        · have hlt' : (k : Int) < (P.lv.length : Int) := by omega
          obtain ⟨⟨va', vc', hv, hp⟩, -⟩ := H.out.lv.below (bel_two BW.out hbw)
          simp at hv
          obtain ⟨rfl, rfl⟩ := hv
          rcases hp with hp | ⟨b, off, rfl, hb, hp⟩
          · rw [hp] at hlt; simp at hlt
          have cA := hp k hlt
          have HZ := hidIt (WF3.out _ (List.getElem_mem hlt))
          have HS := hidIt (show putAll ((uLv P.lv).take (k + 1)) G1 = updF (putAll ((uLv P.lv).take k) G1) P.lv[k] (2, 0) from by rw [putAll_step _ _ k (by rw [uLv_len]; exact hlt)]; simp [uLv])
          clear hp
          generalize P.lv[k] = z at cA HZ HS
          go_wp2_with (first | (at_mapUpdate; refine wpList_put _ rfl rfl _ _ _ rfl (w.heap.size + 1) (P.fr.length + k) _ rfl HM.out (by unfold maxLen; omega) z (2, 0) rfl rfl HZ.out ?_; intro w1 m1 g1) | go_in)
          have hb1 : Below W0.heap.size W0 w1 := bel_grown hbw g1 (fun j hj => by cases hj; omega)
          have M1 := hidIt m1
          clear m1 g1
          go_roundw
          case rel => exact ⟨k + 1, by omega, by go_num, hidIt (by rw [HS.out]; exact M1.out), hb1⟩
          case measure => simp [intOf]; omega
        · obtain rfl : k = P.lv.length := by omega
          have HM3 := hidIt (show MapF wq (w.heap.size + 1) (P.fr.length + P.lv.length) (putAll (uLv P.lv) G1) from by rw [← putAll_full (uLv P.lv) G1 P.lv.length (uLv_len _).symm]; exact HM.out)
          have HB3 := hidIt hbw
          have k3' := below_cell hbw hl0 k3
          clear HM HM2 k4'
          generalize hg2 : putAll (uLv P.lv) G1 = G2 at HM3
          have HG2 := hidIt hg2
          clear hg2
          have hlq : w.heap.size < wq.heap.size := by have := hbw.size; omega
          go_wp2_with fail
          go_loopw [37] (fun i wx => ∃ k : Nat, k ≤ P.L.length ∧ i = .int .i64 k ∧ Hid (MapF wx (w.heap.size + 1) (P.fr.length + P.lv.length + k) (putAll ((uLi P.L).take k) G2)) ∧ Below W0.heap.size W0 wx) (fun i _ => P.L.length - (intOf i).toNat)
          case atStart => exact ⟨0, Nat.zero_le _, rfl, HM3, HB3.out⟩
          case round =>
            rename World => wx
            clear hbw
            obtain ⟨k, hk, rfl, HM0, hbw⟩ := hrel
            by_cases hlt : k < P.L.length
            · have hlt' : (k : Int) < (P.L.length : Int) := by omega
              obtain ⟨la', lc', hv, -, hp⟩ := H.out.ag.limbo.below (bel_two BW.out hbw)
              simp at hv
              obtain ⟨rfl, rfl⟩ := hv
              rcases hp with hp | ⟨b, off, rfl, hb, hp⟩
              · rw [hp] at hlt; simp at hlt
              have cA := (hp k hlt).1
              have cB := (hp k hlt).2
              have HZ := hidIt (WF2.out _ (List.getElem_mem hlt))
              have HS := hidIt (show putAll ((uLi P.L).take (k + 1)) G2 = updF (putAll ((uLi P.L).take k) G2) P.L[k].1 (3, P.L[k].2) from by rw [putAll_step _ _ k (by rw [uLi_len]; exact hlt)]; simp [uLi])
              clear hp
              generalize P.L[k].1 = z at cA HZ HS
              generalize P.L[k].2 = y at cB HS
              have HM := hidIt (HM0.out.alloc (.cells #[.int .i64 z, .int .i64 y] 65))
              have hbx := hidIt (bel_al hbw (.cells #[.int .i64 z, .int .i64 y] 65))
              clear HM0
              go_wp2_with (first | (at_mapUpdate; refine wpList_put _ rfl rfl _ _ _ rfl (w.heap.size + 1) (P.fr.length + P.lv.length + k) _ rfl HM.out (by unfold maxLen; omega) z (3, y) rfl rfl HZ.out ?_; intro w1 m1 g1) | go_in)
              have hb1 : Below W0.heap.size W0 w1 := bel_grown hbx.out g1 (fun j hj => by cases hj; omega)
              have M1 := hidIt m1
              clear m1 g1
              go_roundw
              case rel => exact ⟨k + 1, by omega, by go_num, hidIt (by rw [HS.out]; exact M1.out), hb1⟩
              case measure => simp [intOf]; omega
            · obtain rfl : k = P.L.length := by omega
              have HM4 := hidIt (show MapF wx (w.heap.size + 1) (P.fr.length + P.lv.length + P.L.length) (stF P) from by rw [stF_eq, HG1.out, HG2.out, ← putAll_full (uLi P.L) G2 P.L.length (uLi_len _).symm]; exact HM0.out)
              clear HM0 HM3
              go_wp2
              go_ret
              exact ⟨_, rfl, HM4.out, by omega, bel_two BW.out hbw⟩
set_option maxHeartbeats 1600000 in
set_option maxRecDepth 100000 in
theorem impl_rises (w : World) (v : Value) (xs : List Int) (hn : xs.length ≤ 4194304) (h : IntsIn w v xs) :
    Calls Try.prog 37 #[v] w fun e w' => e = .returned (.bool (riseB xs)) ∧ Below w.heap.size w w' := by
  have H := hidIt h
  obtain ⟨va, vc, rfl, -⟩ := h.form
  clear h
  go_enter Try.func37, Try.ntmps37
  go_wp2
  go_loopw [3] (fun i wr => ∃ k : Nat, k ≤ xs.length ∧ i = .int .i64 ((k : Int) + 1) ∧ Hid (∀ j, 0 < j → j < k + 1 → ∀ hj : j < xs.length, xs[j - 1]'(by omega) < xs[j]) ∧ Below w.heap.size w wr) (fun i _ => xs.length + 1 - (intOf i).toNat)
  case atStart => exact ⟨0, Nat.zero_le _, rfl, hidIt (fun j h1 h2 => by omega), Below.refl _ _⟩
  case round =>
    rename World => wr
    obtain ⟨k, hk, rfl, HR, hbw⟩ := hrel
    by_cases hlt : k + 1 < xs.length
    · have hlt' : (k : Int) + 1 < (xs.length : Int) := by omega
      obtain ⟨⟨va', vc', hv, hp⟩, -⟩ := H.out.below hbw
      simp at hv
      obtain ⟨rfl, rfl⟩ := hv
      rcases hp with hp | ⟨b, off, rfl, hb, hp⟩
      · rw [hp] at hlt; simp at hlt
      have cA := hp (k + 1) hlt
      have cB := hp k (by omega)
      have HXY := hidIt (fun (e : xs[k] < xs[k + 1]) => (fun j h1 h2 hj => by
        by_cases hj2 : j = k + 1
        · subst hj2; exact e
        · exact HR.out j h1 (by omega) hj : ∀ j, 0 < j → j < k + 1 + 1 → ∀ hj : j < xs.length, xs[j - 1]'(by omega) < xs[j]))
      have HXN := hidIt (fun (e : ¬ xs[k] < xs[k + 1]) => riseB_no (xs := xs) (j := k + 1) (by omega) hlt e)
      clear hp HR
      generalize xs[k] = x at cB HXY HXN
      generalize xs[k + 1] = y at cA HXY HXN
      have hw1 : IntKind.i64.wrap (k : Int) = (k : Int) := by unfold IntKind.wrap; simp [IntKind.bits, IntKind.signed]; omega
      by_cases hxy : x < y
      · have HN := hidIt (HXY.out hxy)
        have hxy' : ¬ y ≤ x := by omega
        clear HXY HXN hxy
        go_wp2
        go_quiet (fail)
        go_wp2
        go_roundw
        case rel => exact ⟨k + 1, by omega, by go_num, hidIt HN.out, below_drewN hbw _⟩
        case measure => simp [intOf]; omega
      · have HN := hidIt (HXN.out hxy)
        have hxy' : y ≤ x := by omega
        clear HXY HXN hxy
        go_wp2
        go_quiet (fail)
        go_wp2
        go_ret
        exact ⟨ret_boolx HN.out.symm, below_drewN hbw _⟩
    · have HRI := hidIt (riseB_yes (xs := xs) (fun j h1 hj => HR.out j h1 (by omega) hj))
      have hlt2 : ¬ ((k : Int) + 1 < (xs.length : Int)) := by omega
      clear HR
      go_wp2
      go_ret
      exact ⟨ret_boolx HRI.out.symm, hbw⟩

end Go.Proofs.Ytikliofkplbdpaa

namespace Go.Proofs.Ytikliofkplbdpaa
open Go.ChangeShapes Go.WideShapes Go.ChangeAt Go.RowKit
set_option linter.unusedVariables false

theorem nat_wf {k : Nat} (h : k ≤ 16777216) : (Lit.int .i64 (k : Int)).wf = true := WalkArith.wf_i64 (by omega)
theorem field0 (x y : Int) (w : World) : (Instr.field 53 (.agg #[.int .i64 x, .int .i64 y]) 0).run Try.prog w = .ok (.int .i64 x) w := by kernel_rfl
theorem field1 (x y : Int) (w : World) : (Instr.field 53 (.agg #[.int .i64 x, .int .i64 y]) 1).run Try.prog w = .ok (.int .i64 y) w := by kernel_rfl
set_option maxHeartbeats 1600000 in
set_option maxRecDepth 100000 in
theorem impl_poolok (w : World) (f p l v : Value) (P : Pl) (hf : PlFit P) (hwf : PlWf P) (h : PlIn w f p l v P) :
    Calls Try.prog 18 #[.agg #[f, .int .i64 P.a, p, l, v]] w fun e w' => e = .returned (.bool (plOkB P)) ∧ Below w.heap.size w w' := by
  have H := hidIt h
  have HF := hidIt hf
  have HWF := hidIt hwf
  obtain ⟨fa, fc, pa, pc, la, lc, va, vc, rfl, rfl, rfl, rfl⟩ := h.form
  clear h hwf
  unfold PlFit at hf
  go_enter Try.func18, Try.ntmps18
  have hbig : Hid (∀ h : ¬ (allOf P).length ≤ 100, plOkB P = false) := hidIt (fun h => plOk_no2 h)
  have HN := hidIt (allOf_len P)
  by_cases h100 : P.fr.length + P.lv.length + P.L.length ≤ 100
  case neg =>
    have h100' : (100 : Int) < (P.fr.length : Int) + (P.lv.length : Int) + (P.L.length : Int) := by omega
    have HE := hidIt (hbig.out (by rw [HN.out]; exact h100))
    clear h100 hbig
    go_wp2
    go_ret
    exact ⟨ret_boolx HE.out.symm, (Below.refl _ _).alloc (Nat.le_refl _) _⟩
  have h100' : ¬ (100 : Int) < (P.fr.length : Int) + (P.lv.length : Int) + (P.L.length : Int) := by omega
  go_wp2_with fail
  generalize hW : World.alloc w _ = W0
  have X := Bx.new w #[.slice fa P.fr.length fc, .int .i64 P.a, .slice pa P.ps.length pc, .slice la P.L.length lc, .slice va P.lv.length vc] 33
  have bW : Below w.heap.size w W0 := by rw [← hW]; exact (Below.refl _ _).alloc (Nat.le_refl _) _
  have zW : W0.heap.size = w.heap.size + 1 := by rw [← hW]; simp
  rw [hW] at X
  clear hW
  have HX0 := hidIt X
  have BW := hidIt bW
  clear X bW
  refine (impl_agesok W0 P.a _ _ P.ps P.L (H.out.below BW.out).ag).mono ?_
  rintro e w1 ⟨rfl, b1⟩
  have HX := hidIt (HX0.out.below b1)
  have B1 := hidIt (bel_two BW.out b1)
  have z1 := b1.size
  clear b1 HX0
  cases hB : okB P.a P.ps P.L with
  | false =>
    have HE := hidIt (plOk_no1 (P := P) hB)
    go_wp2
    go_ret
    exact ⟨ret_boolx HE.out.symm, B1.out⟩
  | true =>
    have HB := hidIt hB
    have k4 := HX.out.2.1 4
    simp at k4
    go_wp2_with fail
    clear k4
    refine (impl_rises w1 _ P.lv (by omega) (H.out.below B1.out).lv).mono ?_
    rintro e w2 ⟨rfl, b2⟩
    have HX2 := hidIt (HX.out.below b2)
    have B2 := hidIt (bel_two B1.out b2)
    have z2 := b2.size
    clear b2 HX
    cases hR : riseB P.lv with
    | false =>
      have HE := hidIt (plOk_no3 (P := P) hR)
      go_wp2
      go_ret
      exact ⟨ret_boolx HE.out.symm, B2.out⟩
    | true =>
      have HR := hidIt hR
      have k0 := HX2.out.2.1 0
      have k1 := HX2.out.2.1 1
      have k2 := HX2.out.2.1 2
      have k3 := HX2.out.2.1 3
      have k4 := HX2.out.2.1 4
      simp at k0 k1 k2 k3 k4
      go_wp2_with fail
      clear k0 k1 k2 k3 k4
      refine (impl_standings w2 _ _ _ _ P HF.out HWF.out (H.out.below B2.out)).mono ?_
      rintro e w3 ⟨b, rfl, m3, hb3, b3⟩
      have M3 := hidIt m3
      have B3 := hidIt (bel_two B2.out b3)
      clear m3 b3 HX2
      go_wp2_with fail
      go_loopw [35] (fun i wr => ∃ k : Nat, k ≤ P.fr.length + P.lv.length + P.L.length ∧ i = .int .i64 k ∧ Hid (∀ j : Nat, j < k → (j : Int) ∈ allOf P) ∧ Below w3.heap.size w3 wr) (fun i _ => P.fr.length + P.lv.length + P.L.length - (intOf i).toNat)
      case atStart => exact ⟨0, Nat.zero_le _, rfl, hidIt (fun j h => by omega), Below.refl _ _⟩
      case round =>
        rename World => wr
        obtain ⟨k, hk, rfl, HR2, hbw⟩ := hrel
        by_cases hlt : k < P.fr.length + P.lv.length + P.L.length
        · have hlt' : (k : Int) < (P.fr.length : Int) + (P.lv.length : Int) + (P.L.length : Int) := by omega
          have HL := hidIt ((M3.out.below hbw).at (k : Int) (nat_wf (by omega)))
          by_cases hm : (k : Int) ∈ allOf P
          · obtain ⟨q, hq, hq0⟩ := stF_some P _ hm
            have hl : (Instr.lookup 50 (.map (some b)) (.int .i64 (k : Int)) false).run Try.prog wr = .ok (.agg #[.int .i64 q.1, .int .i64 q.2]) wr := by
              have := HL.out
              rw [hq] at this
              exact this
            have HR3 := hidIt (fun (j : Nat) (hj : j < k + 1) => show (j : Int) ∈ allOf P from by
              by_cases e : j = k
              · subst e; exact hm
              · exact HR2.out j (by omega))
            have hq1 : (q.1 == 0) = false := by simpa using hq0
            clear HR2 hm HL hq hq0
            generalize q.1 = q1 at hl hq1
            generalize q.2 = q2 at hl
            have hfd := field0 q1 q2
            go_wp2
            go_roundw
            case rel => exact ⟨k + 1, by omega, by go_num, HR3, hbw⟩
            case measure => simp [intOf]; omega
          · have hl : (Instr.lookup 50 (.map (some b)) (.int .i64 (k : Int)) false).run Try.prog wr = .ok (.agg #[.int .i64 0, .int .i64 0]) wr := by
              have := HL.out
              rw [stF_none P _ hm] at this
              exact this
            have HE := hidIt (plOk_no4 (P := P) (placesB_lack (by rw [HN.out]; exact hlt) hm))
            clear HR2 hm HL
            have hfd := field0 0 0
            go_wp2
            go_ret
            exact ⟨ret_boolx HE.out.symm, bel_two B3.out hbw⟩
        · have HE := hidIt (plOk_yes (P := P) HB.out (by rw [HN.out]; exact h100) HR.out (placesB_hold (fun j hj => HR2.out j (by rw [HN.out] at hj; omega))))
          have hlt2 : ¬ ((k : Int) < (P.fr.length : Int) + (P.lv.length : Int) + (P.L.length : Int)) := by omega
          clear HR2
          go_wp2
          go_ret
          exact ⟨ret_boolx HE.out.symm, bel_two B3.out hbw⟩

end Go.Proofs.Ytikliofkplbdpaa

namespace Go.Proofs.Ytikliofkplbdpaa
open Go.ChangeShapes Go.WideShapes Go.ChangeAt Go.RowKit
set_option linter.unusedVariables false

theorem plOk_both : True := trivial

end Go.Proofs.Ytikliofkplbdpaa

namespace Go.Proofs.Ytikliofkplbdpaa
open Go.ChangeShapes Go.WideShapes Go.ChangeAt Go.RowKit
set_option linter.unusedVariables false

def setOk (a : Int) (ps : List Int) (L : List (Int × Int)) (h : Int) (pinned : Bool) : Bool := okB a ps L && decide (0 ≤ h ∧ h < (ps.length : Int)) && ((ps.getD h.toNat 0 != -1) == pinned)
def setA (B : Bool) (a : Int) : Int := if B = true then a else 0
def setP (B : Bool) (ps : List Int) (h y : Int) : List Int := if B = true then ps.set h.toNat y else []
def setLm (B : Bool) (L : List (Int × Int)) : List (Int × Int) := if B = true then L else []
theorem AR.put {W : World} {lo hi g c : Nat} {l : Value} {ps : List Int} {L : List (Int × Int)} (h : AR lo hi (.slice (some ⟨g, 0, none⟩) ps.length c) l ps L W) (hz : hi ≤ W.heap.size) (i : Nat) (hi' : i < ps.length) (y : Int) : AR lo hi (.slice (some ⟨g, 0, none⟩) ps.length c) l (ps.set i y) L (W.setCell ⟨g, i, none⟩ (.int .i64 y)) := by
  refine ⟨h.pins.put i hi' y, h.limbo.grown hz (q := some g) ⟨rfl, rfl, rfl, by simp, fun k _ hk => Below.heap_setCell _ _ _ _ (fun e => hk (by rw [e]))⟩ (fun hx k hk e => ?_), by have := h.apart; simpa using this⟩
  cases hk
  exact h.apart (by omega) (ne_nil_pos hx) e.symm
theorem AR.set_out {W : World} {lo hi : Nat} {p l : Value} {ps : List Int} {L : List (Int × Int)} (h : AR lo hi p l ps L W) {b o : Nat} {v : Value} (hb : b < lo ∨ hi ≤ b) : AR lo hi p l ps L (W.setCell ⟨b, o, none⟩ v) :=
  AR.loc lo hi p l ps L W _ h (fun k k1 k2 => Below.heap_setCell _ _ _ _ (by show k ≠ b; omega))
theorem AR.alloc {W : World} {lo hi : Nat} {p l : Value} {ps : List Int} {L : List (Int × Int)} (h : AR lo hi p l ps L W) (hz : hi ≤ W.heap.size) (o : Obj) : AR lo hi p l ps L (W.alloc o) := h.below ((Below.refl _ _).alloc hz o)
/- what a function of epochs answers: epochs of its own, and a word -/
def AAns (A : Int) (PS : List Int) (LS : List (Int × Int)) (B : Bool) (w : World) (e : Ending) (w' : World) : Prop :=
  ∃ p' l', e = .returned (.tuple #[.agg #[.int .i64 A, p', l'], .bool B]) ∧ AR w.heap.size w'.heap.size p' l' PS LS w' ∧ Below w.heap.size w w'
theorem setOk_no1 {a : Int} {ps : List Int} {L : List (Int × Int)} {h : Int} {q : Bool} (e : okB a ps L = false) : setOk a ps L h q = false := by simp [setOk, e]
theorem setOk_no2 {a : Int} {ps : List Int} {L : List (Int × Int)} {h : Int} {q : Bool} (e : ¬ (0 ≤ h ∧ h < (ps.length : Int))) : setOk a ps L h q = false := by simp only [setOk, decide_eq_false e, Bool.and_false, Bool.false_and]
theorem setOk_in {a : Int} {ps : List Int} {L : List (Int × Int)} {i : Nat} {q : Bool} (e : okB a ps L = true) (hi : i < ps.length) : setOk a ps L (i : Int) q = ((ps[i] != -1) == q) := by
  have h1 : decide (0 ≤ (i : Int) ∧ (i : Int) < (ps.length : Int)) = true := decide_eq_true ⟨by omega, by omega⟩
  simp only [setOk, e, h1, Bool.true_and]
  simp [hi]

theorem setOk_true {a : Int} {ps : List Int} {L : List (Int × Int)} {h : Int} {q : Bool} (e : setOk a ps L h q = true) : okB a ps L = true ∧ ∃ (i : Nat) (hi : i < ps.length), h = i ∧ ((ps[i] != -1) == q) = true := by
  have h1 : okB a ps L = true := by
    cases hB : okB a ps L with
    | true => rfl
    | false => rw [setOk_no1 hB] at e; cases e
  have h2 : 0 ≤ h ∧ h < (ps.length : Int) := by
    by_cases hc : 0 ≤ h ∧ h < (ps.length : Int)
    · exact hc
    · rw [setOk_no2 hc] at e; cases e
  obtain ⟨i, rfl⟩ : ∃ i : Nat, h = i := ⟨h.toNat, by omega⟩
  have hi : i < ps.length := by omega
  exact ⟨h1, i, hi, rfl, by rw [← setOk_in (L := L) h1 hi]; exact e⟩
theorem AAns.none {w w' : World} {e : Ending} (h : e = .returned (.tuple #[.agg #[.int .i64 0, .slice none 0 0, .slice none 0 0], .bool false]) ∧ Below w.heap.size w w') : AAns 0 [] [] false w e w' := ⟨_, _, h.1, AR.nil _ _ _, h.2⟩

end Go.Proofs.Ytikliofkplbdpaa

namespace Go.Proofs.Ytikliofkplbdpaa
open Go.ChangeShapes Go.WideShapes Go.ChangeAt Go.RowKit
set_option linter.unusedVariables false

def mayIn (P : Pl) (x pin : Int) : Bool := match stF P x with
  | some q => if q.1 = 2 then true else if q.1 = 3 then decide (pin ≤ q.2) else false
  | none => false
def pinAt (P : Pl) (h : Int) : Int := P.ps.getD h.toNat 0
def mayB (P : Pl) (h x : Int) : Bool := plOkB P && decide (0 ≤ h ∧ h < (P.ps.length : Int)) && (pinAt P h != -1) && mayIn P x (pinAt P h)
theorem may_no1 {P : Pl} {h x : Int} (e : plOkB P = false) : mayB P h x = false := by simp [mayB, e]
theorem may_no2 {P : Pl} {h x : Int} (e : ¬ (0 ≤ h ∧ h < (P.ps.length : Int))) : mayB P h x = false := by simp only [mayB, decide_eq_false e, Bool.and_false, Bool.false_and]
theorem may_no3 {P : Pl} {h x : Int} (e : pinAt P h = -1) : mayB P h x = false := by simp [mayB, e]
theorem may_is {P : Pl} {h x : Int} (e1 : plOkB P = true) (e2 : 0 ≤ h ∧ h < (P.ps.length : Int)) (e3 : pinAt P h ≠ -1) : mayB P h x = mayIn P x (pinAt P h) := by
  simp only [mayB, e1, decide_eq_true e2, Bool.true_and]
  simp [e3]
theorem stU_nodup {P : Pl} (h : plOkB P = true) : ((stU P).map (·.1)).Nodup := by
  rw [stU_keys]
  exact (places_nodup (plOk_parts h).2.2.2).1
theorem st_limbo {P : Pl} (h : plOkB P = true) (j : Nat) (hj : j < P.L.length) : stF P (goneAt P.L j).1 = some (3, (goneAt P.L j).2) := by
  refine putAll_nodup _ _ (stU_nodup h) _ _ ?_
  simp only [stU, List.mem_append, List.mem_map]
  exact .inr (.inr ⟨P.L[j], List.getElem_mem hj, by rw [goneAt_eq P.L j hj]⟩)
theorem st_live {P : Pl} (h : plOkB P = true) (x : Int) (hx : x ∈ P.lv) : stF P x = some (2, 0) := by
  refine putAll_nodup _ _ (stU_nodup h) _ _ ?_
  simp only [stU, List.mem_append, List.mem_map]
  exact .inr (.inl ⟨x, hx, rfl⟩)
theorem st_free {P : Pl} (h : plOkB P = true) (x : Int) (hx : x ∈ P.fr) : stF P x = some (1, 0) := by
  refine putAll_nodup _ _ (stU_nodup h) _ _ ?_
  simp only [stU, List.mem_append, List.mem_map]
  exact .inl ⟨x, hx, rfl⟩
theorem st_cases {P : Pl} (h : plOkB P = true) (x : Int) (h1 : ∀ j, j < P.L.length → (goneAt P.L j).1 ≠ x) (h2 : ¬ x ∈ P.lv) : stF P x = none ∨ stF P x = some (1, 0) := by
  by_cases hf : x ∈ P.fr
  · exact .inr (st_free h x hf)
  · refine .inl (stF_none P x ?_)
    simp only [allOf, nodesL, List.mem_append, List.mem_map, not_or]
    refine ⟨hf, h2, ?_⟩
    rintro ⟨q, hq, rfl⟩
    obtain ⟨j, hj, rfl⟩ := List.mem_iff_getElem.1 hq
    exact h1 j hj (by rw [goneAt_eq P.L j hj])
theorem mayIn_limbo {P : Pl} (h : plOkB P = true) (j : Nat) (hj : j < P.L.length) (pin : Int) : mayIn P (goneAt P.L j).1 pin = decide (pin ≤ (goneAt P.L j).2) := by
  unfold mayIn
  rw [st_limbo h j hj]
  simp
theorem mayIn_rest {P : Pl} (h : plOkB P = true) (x pin : Int) (h1 : ∀ j, j < P.L.length → (goneAt P.L j).1 ≠ x) : mayIn P x pin = hasN P.lv x := by
  unfold mayIn hasN
  by_cases h2 : x ∈ P.lv
  · rw [st_live h x h2]; simp [h2]
  · rcases st_cases h x h1 h2 with e | e <;> (rw [e]; simp [h2])
theorem spec_hasI (v : Value) (xs : List Int) (y : Int) (w : World) (hn : xs.length ≤ 4194304) (h : IntsIn w v xs) :
    Calls Try.prog 33 #[v, .int .i64 y] w fun e w' => e = .returned (.bool (hasN xs y)) ∧ w' = w := by
  obtain ⟨⟨a, c, rfl, h⟩, -⟩ := h
  rcases h with rfl | ⟨b, off, rfl, hb, hc⟩
  · exact spec_has_zero a c y w
  have HA := hidIt hc
  clear hc
  go_enter Try.func33, Try.ntmps33
  go_wp2
  go_loop [6, 9] (fun _ i => ∃ k : Nat, k ≤ xs.length ∧ i = .int .i64 k ∧ Hid (¬ y ∈ xs.take k)) (fun _ i => xs.length - (intOf i).toNat)
  case atStart => exact ⟨0, Nat.zero_le _, rfl, by show ¬ y ∈ xs.take 0; simp⟩
  case round =>
    obtain ⟨k, hk, rfl, HT⟩ := hrel
    by_cases hlt : k < xs.length
    · have cA := HA.out k hlt
      have hlt' : (k : Int) < (xs.length : Int) := by omega
      obtain ⟨x, hx⟩ : ∃ x, xs[k] = x := ⟨_, rfl⟩
      rw [hx] at cA
      have HX := hidIt hx
      clear hx
      by_cases he : x = y
      · have HE := hidIt he
        have hb : (x == y) = true := by simpa using he
        clear he
        go_wp2
        go_ret
        exact ⟨ret_boolx (take_hit hlt (HX.out.trans HE.out)).symm, rfl⟩
      · have HE := hidIt he
        have hb : (x == y) = false := by simpa using he
        clear he
        go_wp2
        go_round
        case rel => exact ⟨k + 1, by omega, by go_num, take_miss hlt (by rw [HX.out]; exact HE.out) HT.out⟩
        case measure => simp [intOf]; omega
    · go_wp2
      go_ret
      exact ⟨ret_boolx (take_end hlt HT.out).symm, rfl⟩
theorem pin_cell {w : World} {a : Option Addr} {c : Nat} {P : Pl} (h : InRow w (.slice a P.ps.length c) P.ps) {h0 : Int} (e : 0 ≤ h0 ∧ h0 < (P.ps.length : Int)) : ∃ b off i, a = some ⟨b, off, none⟩ ∧ h0 = ((i : Nat) : Int) ∧ i < P.ps.length ∧ w.cell? ⟨b, off + i, none⟩ = some (.int .i64 (pinAt P h0)) ∧ b < w.heap.size := by
  obtain ⟨a', c', hv, hp⟩ := h
  simp at hv
  obtain ⟨rfl, rfl⟩ := hv
  obtain ⟨i, rfl⟩ : ∃ i : Nat, h0 = i := ⟨h0.toNat, by omega⟩
  have hi : i < P.ps.length := by omega
  rcases hp with hp | ⟨b, off, rfl, hb, hp⟩
  · rw [hp] at hi; simp at hi
  · refine ⟨b, off, i, rfl, rfl, hi, ?_, hb⟩
    rw [hp i hi]
    simp [pinAt, hi]

end Go.Proofs.Ytikliofkplbdpaa

namespace Go.Proofs.Ytikliofkplbdpaa
open Go.ChangeShapes Go.WideShapes Go.ChangeAt Go.RowKit
set_option linter.unusedVariables false

def butL (xs : List Int) (x : Int) : List Int := xs.filter fun y => decide (y ≠ x)
theorem butL_len (xs : List Int) (x : Int) : (butL xs x).length ≤ xs.length := List.length_filter_le _ _
theorem butL_step (xs : List Int) (x : Int) (k : Nat) (hk : k < xs.length) : butL (xs.take (k + 1)) x = butL (xs.take k) x ++ (if xs[k] = x then [] else [xs[k]]) := by
  unfold butL
  rw [List.take_succ_eq_append_getElem hk, List.filter_append]
  by_cases h : xs[k] = x <;> simp [h]
theorem butL_all (xs : List Int) (x : Int) : butL (xs.take xs.length) x = butL xs x := by rw [List.take_length]
def wStep (n : Int) (s : Bool × List Int) (y : Int) : Bool × List Int := (s.1 || decide (n < y), (if !s.1 && decide (n < y) then s.2 ++ [n] else s.2) ++ [y])
def withS (n : Int) (xs : List Int) : Bool × List Int := xs.foldl (wStep n) (false, [])
def withL (xs : List Int) (n : Int) : List Int := if (withS n xs).1 then (withS n xs).2 else (withS n xs).2 ++ [n]
theorem withS_step (xs : List Int) (n : Int) (k : Nat) (hk : k < xs.length) : withS n (xs.take (k + 1)) = wStep n (withS n (xs.take k)) xs[k] := by
  unfold withS
  rw [List.take_succ_eq_append_getElem hk, List.foldl_append]
  rfl
theorem wFold_len (n : Int) (xs : List Int) : ∀ s : Bool × List Int, (xs.foldl (wStep n) s).2.length ≤ s.2.length + 2 * xs.length := by
  induction xs with
  | nil => intro s; simp
  | cons y ys ih =>
    intro s
    have h1 := ih (wStep n s y)
    have h2 : (wStep n s y).2.length ≤ s.2.length + 2 := by unfold wStep; split <;> simp
    simp only [List.foldl_cons, List.length_cons]
    omega
theorem withS_len (n : Int) (xs : List Int) : (withS n xs).2.length ≤ 2 * xs.length := by have := wFold_len n xs (false, []); simpa [withS] using this
theorem withS_all (xs : List Int) (n : Int) : withS n (xs.take xs.length) = withS n xs := by rw [List.take_length]
set_option maxHeartbeats 400000 in
set_option maxRecDepth 100000 in
theorem spec_withNum (w : World) (v : Value) (xs : List Int) (x : Int) (hn : xs.length ≤ 4194304) (h : IntsIn w v xs) :
    Calls Try.prog 15 #[v, .int .i64 x] w fun e w' => ∃ v', e = .returned v' ∧ w'.ownsRow w.heap.size 3 1 v' (withL xs x).length (ints (withL xs x)) ∧ Below w.heap.size w w' := by
  obtain ⟨i0, hi0, hz0, hz1, hz2⟩ := info_parts info3
  have H := hidIt h
  obtain ⟨va, vc, rfl, -⟩ := h.form
  clear h
  go_enter Try.func15, Try.ntmps15
  go_wp2_with fail
  generalize hW : World.alloc w _ = W0
  have bW : Below w.heap.size w W0 := by rw [← hW]; exact (Below.refl _ _).alloc (Nat.le_refl _) _
  have o0 : W0.ownsRow w.heap.size 3 1 (.slice (some ⟨w.heap.size, 0, none⟩) 0 0) 0 [] := by rw [← hW]; exact own_new rfl (Nat.le_refl _)
  have BW := hidIt bW
  have O0 := hidIt o0
  clear hW bW o0
  go_wp2_with fail
  go_loopw [5, 6, 12] (fun v d i wr => ∃ k : Nat, k ≤ xs.length ∧ i = .int .i64 k ∧ d = .bool (withS x (xs.take k)).1 ∧ Hid (wr.ownsRow w.heap.size 3 1 v (withS x (xs.take k)).2.length (ints (withS x (xs.take k)).2)) ∧ Below w.heap.size w wr) (fun v d i _ => xs.length - (intOf i).toNat)
  case atStart => exact ⟨0, Nat.zero_le _, rfl, rfl, hidIt (by simpa [withS] using O0.out), BW.out⟩
  case round =>
    rename World => wr
    obtain ⟨k, hk, rfl, rfl, HO, hbw⟩ := hrel
    have HL := hidIt (Nat.le_trans (withS_len x (xs.take k)) (by simp; omega) : (withS x (xs.take k)).2.length ≤ 2 * k)
    by_cases hlt : k < xs.length
    · have hlt' : (k : Int) < (xs.length : Int) := by omega
      obtain ⟨⟨va', vc', hv, hp⟩, -⟩ := H.out.below hbw
      simp at hv
      obtain ⟨rfl, rfl⟩ := hv
      rcases hp with hp | ⟨b, off, rfl, hb, hp⟩
      · rw [hp] at hlt; simp at hlt
      have cA := hp k hlt
      have HS := hidIt (withS_step xs x k hlt)
      clear hp
      generalize xs[k] = y at cA HS
      generalize hd : withS x (xs.take k) = S at HS HO HL
      obtain ⟨d, out⟩ := S
      have HD := hidIt hd
      clear hd
      simp only at HO HL
      obtain ⟨av, cv, hv⟩ := own_form HO.out
      subst hv
      have zz := hbw.size
      rcases d with _ | _
      · by_cases hxy : x < y
        · have HN := hidIt (show withS x (xs.take (k + 1)) = (true, out ++ [x] ++ [y]) from by rw [HS.out]; simp [wStep, hxy])
          clear HS
          go_wp2_with (at_builtin; refine wpList_append_own _ rfl _ _ 22 rfl w.heap.size 3 i0 (.int .i64 0) 1 8 Try.underlying22 hi0 hz0 hz1 hz2 rfl (by decide) _ _ _ rfl (HO.out.alloc _) ⟨wr.heap.size, 0, none⟩ 1 1 [.int .i64 x] rfl rfl ?k11 ?k12 ?k13 ?k14 ?k15 ?_)
          case k11 => have := cell_one_new wr (.int .i64 x) 3; simpa using this
          case k12 => intro u hu; simp at hu; subst hu; rfl
          case k13 => have := HL.out; unfold maxLen; simp; omega
          case k14 => have := HL.out; simp; omega
          case k15 => simp; omega
          intro v1 w1 hown1 hgrow _
          have hb1 : Below w.heap.size w w1 := (hbw.alloc hbw.size _).grown hgrow (by simp; omega) (fun j hj => by have := (HO.out.lt j hj).1; omega)
          have hq1 := hb1.size
          clear hgrow
          have HO1 := hidIt (show w1.ownsRow w.heap.size 3 1 v1 (out ++ [x]).length (ints (out ++ [x])) from by simpa using hown1)
          clear hown1
          go_wp2_with (at_builtin; refine wpList_append_own _ rfl _ _ 22 rfl w.heap.size 3 i0 (.int .i64 0) 1 8 Try.underlying22 hi0 hz0 hz1 hz2 rfl (by decide) _ _ _ rfl (HO1.out.alloc _) ⟨w1.heap.size, 0, none⟩ 1 1 [.int .i64 y] rfl rfl ?k21 ?k22 ?k23 ?k24 ?k25 ?_)
          case k21 => have := cell_one_new w1 (.int .i64 y) 3; simpa using this
          case k22 => intro u hu; simp at hu; subst hu; rfl
          case k23 => have := HL.out; unfold maxLen; simp; omega
          case k24 => have := HL.out; simp; omega
          case k25 => simp; omega
          intro v2 w2 hown2 hgrow _
          have hb2 : Below w.heap.size w w2 := (hb1.alloc hb1.size _).grown hgrow (by simp; omega) (fun j hj => by have := (HO1.out.lt j hj).1; omega)
          have hq2 := hb2.size
          clear hgrow
          go_wp2
          go_roundw
          case rel => exact ⟨k + 1, by omega, by go_num, by rw [HN.out], hidIt (by rw [HN.out]; simpa using hown2), hb2⟩
          case measure => simp [intOf]; omega
        · have HN := hidIt (show withS x (xs.take (k + 1)) = (false, out ++ [y]) from by rw [HS.out]; simp [wStep, hxy])
          clear HS
          go_wp2_with (at_builtin; refine wpList_append_own _ rfl _ _ 22 rfl w.heap.size 3 i0 (.int .i64 0) 1 8 Try.underlying22 hi0 hz0 hz1 hz2 rfl (by decide) _ _ _ rfl (HO.out.alloc _) ⟨wr.heap.size, 0, none⟩ 1 1 [.int .i64 y] rfl rfl ?k31 ?k32 ?k33 ?k34 ?k35 ?_)
          case k32 => first | rfl | (intro u hu; simp at hu; subst hu; rfl)
          case k33 => have := HL.out; unfold maxLen at *; (first | omega | (simp; omega))
          case k34 => have := HL.out; (first | omega | (simp; omega))
          case k35 => (first | omega | (simp; omega))
          intro v1 w1 hown1 hgrow _
          have hb1 : Below w.heap.size w w1 := (hbw.alloc hbw.size _).grown hgrow (by simp; omega) (fun j hj => by have := (HO.out.lt j hj).1; omega)
          have hq1 := hb1.size
          clear hgrow
          go_wp2
          go_roundw
          case rel => exact ⟨k + 1, by omega, by go_num, by rw [HN.out], hidIt (by rw [HN.out]; simpa using hown1), hb1⟩
          case measure => simp [intOf]; omega
      · have HN := hidIt (show withS x (xs.take (k + 1)) = (true, out ++ [y]) from by rw [HS.out]; simp [wStep])
        clear HS
        go_wp2_with (at_builtin; refine wpList_append_own _ rfl _ _ 22 rfl w.heap.size 3 i0 (.int .i64 0) 1 8 Try.underlying22 hi0 hz0 hz1 hz2 rfl (by decide) _ _ _ rfl (HO.out.alloc _) ⟨wr.heap.size, 0, none⟩ 1 1 [.int .i64 y] rfl rfl ?k41 ?k42 ?k43 ?k44 ?k45 ?_)
        case k41 => have := cell_one_new wr (.int .i64 y) 3; simpa using this
        case k42 => intro u hu; simp at hu; subst hu; rfl
        case k43 => have := HL.out; unfold maxLen; simp; omega
        case k44 => have := HL.out; simp; omega
        case k45 => simp; omega
        intro v1 w1 hown1 hgrow _
        have hb1 : Below w.heap.size w w1 := (hbw.alloc hbw.size _).grown hgrow (by simp; omega) (fun j hj => by have := (HO.out.lt j hj).1; omega)
        have hq1 := hb1.size
        clear hgrow
        go_wp2
        go_roundw
        case rel => exact ⟨k + 1, by omega, by go_num, by rw [HN.out], hidIt (by rw [HN.out]; simpa using hown1), hb1⟩
        case measure => simp [intOf]; omega
    · obtain rfl : k = xs.length := by omega
      have hO := HO.out
      have hL := HL.out
      rw [withS_all] at hO hL
      rw [withS_all]
      have hW : withL xs x = if (withS x xs).1 then (withS x xs).2 else (withS x xs).2 ++ [x] := rfl
      clear HO HL
      generalize withS x xs = S at hO hL hW ⊢
      obtain ⟨d, out⟩ := S
      simp only at hO hL hW
      have HW := hidIt hW
      clear hW
      have HO := hidIt hO
      have HL := hidIt hL
      obtain ⟨av, cv, hv⟩ := own_form hO
      subst hv
      clear hO hL
      have zz := hbw.size
      rcases d with _ | _
      · have HN := hidIt (show withL xs x = out ++ [x] from (by have hw := HW.out; simpa using hw))
        clear HW
        go_wp2_with (at_builtin; refine wpList_append_own _ rfl _ _ 22 rfl w.heap.size 3 i0 (.int .i64 0) 1 8 Try.underlying22 hi0 hz0 hz1 hz2 rfl (by decide) _ _ _ rfl (HO.out.alloc _) ⟨wr.heap.size, 0, none⟩ 1 1 [.int .i64 x] rfl rfl ?k51 ?k52 ?k53 ?k54 ?k55 ?_)
        case k51 => have := cell_one_new wr (.int .i64 x) 3; simpa using this
        case k52 => intro u hu; simp at hu; subst hu; rfl
        case k53 => have := HL.out; unfold maxLen; simp; omega
        case k54 => have := HL.out; simp; omega
        case k55 => simp; omega
        intro v1 w1 hown1 hgrow _
        have hb1 : Below w.heap.size w w1 := (hbw.alloc hbw.size _).grown hgrow (by simp; omega) (fun j hj => by have := (HO.out.lt j hj).1; omega)
        have hq1 := hb1.size
        clear hgrow
        go_wp2
        go_ret
        exact ⟨_, rfl, by rw [HN.out]; simpa using hown1, hb1⟩
      · have HN := hidIt (show withL xs x = out from (by have hw := HW.out; simpa using hw))
        clear HW
        go_wp2
        go_ret
        exact ⟨_, rfl, by rw [HN.out]; exact HO.out, hbw⟩

end Go.Proofs.Ytikliofkplbdpaa

namespace Go.Proofs.Ytikliofkplbdpaa
open Go.ChangeShapes Go.WideShapes Go.ChangeAt Go.RowKit
set_option linter.unusedVariables false

open Go.Maps (Keyed)
open Go.Sort Go.RowKit
theorem rises_pair {S : List Int} (h : RisesP S) : S.Pairwise (fun x y => x < y) := by
  have key : ∀ d i, ∀ hj : i + d + 1 < S.length, S[i]'(by omega) < S[i + d + 1] := by
    intro d
    induction d with
    | zero => intro i hj; exact h (i + 1) (by omega) hj
    | succ d ih =>
      intro i hj
      have h1 := ih i (by omega)
      have h2 := h (i + (d + 1) + 1) (by omega) hj
      have e : S[i + (d + 1) + 1 - 1]'(by omega) = S[i + d + 1]'(by omega) := by congr 1
      rw [e] at h2
      omega
  rw [List.pairwise_iff_getElem]
  intro i j hi hj hij
  have := key (j - i - 1) i (by omega)
  have e : S[i + (j - i - 1) + 1]'(by omega) = S[j] := by congr 1; omega
  rw [e] at this
  exact this
theorem rises_nodup {S : List Int} (h : RisesP S) : S.Nodup := (rises_pair h).imp (fun hxy => by omega)
theorem sorted_of {out S : List Int} (hn : out.Nodup) (hS : RisesP S) (h : ∀ z, z ∈ out ↔ z ∈ S) : out.mergeSort (fun x y => decide (x ≤ y)) = S := by
  refine List.Perm.eq_of_pairwise (le := fun a b => decide (a ≤ b) = true) (fun a b _ _ h1 h2 => by simp at h1 h2; omega) (List.pairwise_mergeSort (fun a b c h1 h2 => by simp at *; omega) (fun a b => by simp; omega) out) ((rises_pair hS).imp (fun hxy => by simp; omega)) ((List.mergeSort_perm _ _).trans ((List.perm_ext_iff_of_nodup hn (rises_nodup hS)).2 h))
theorem kept_row {W W' : World} {r : Nat} {e : TypeId} {v : Value} {n size : Nat} {xs : List Value} (h : W.ownsRow (r + 1) e size v n xs) (hg : W.grownBy W' (some r)) : W'.ownsRow (r + 1) e size v n xs := by
  refine h.kept hg ?_
  cases hv : v.ownBlock with
  | none => exact .inl rfl
  | some k => exact .inr (fun e => by have := (h.lt k hv).1; cases e; omega)
/- what is collected so far -/
structure Gath (g : Int → Option (Int × Int)) (left : Lit → Bool) (out : List Int) : Prop where
  nd : out.Nodup
  mem : ∀ z, z ∈ out ↔ ((∃ t, g z = some (2, t)) ∧ left (keyI z) = false)
theorem keyI_same (x z : Int) : (keyI z).sameKey (keyI x) = decide (z = x) := by
  by_cases h : z = x
  · subst h; simp [keyI, Lit.sameKey]
  · simp [keyI, Lit.sameKey, h]
theorem Gath.no {g : Int → Option (Int × Int)} {left : Lit → Bool} {out : List Int} (h : Gath g left out) (x : Int) (q : Int × Int) (hg : g x = some q) (hq : q.1 ≠ 2) : Gath g (fun z => left z && !z.sameKey (keyI x)) out := by
  refine ⟨h.nd, fun z => ?_⟩
  rw [h.mem z]
  simp only [keyI_same]
  by_cases hz : z = x
  · subst hz
    simp [hg]
    rintro t rfl
    exact absurd rfl hq
  · simp [hz]
theorem Gath.yes {g : Int → Option (Int × Int)} {left : Lit → Bool} {out : List Int} (h : Gath g left out) (x t : Int) (hg : g x = some (2, t)) (hl : left (keyI x) = true) : Gath g (fun z => left z && !z.sameKey (keyI x)) (out ++ [x]) := by
  have hx : x ∉ out := fun hx => by have := ((h.mem x).1 hx).2; rw [hl] at this; cases this
  refine ⟨?_, fun z => ?_⟩
  · rw [List.nodup_append]
    exact ⟨h.nd, by simp, fun a ha b hb e => hx (by simp at hb; rw [← hb, ← e]; exact ha)⟩
  · simp only [List.mem_append, List.mem_singleton, keyI_same]
    by_cases hz : z = x
    · subst hz; simp [hg]
    · rw [h.mem z]; simp [hz]
theorem nodup_len {out S : List Int} (hn : out.Nodup) (h : ∀ z ∈ out, z ∈ S) : out.length ≤ S.length := by
  induction out generalizing S with
  | nil => simp
  | cons x xs ih =>
    have hx := h x (by simp)
    have := ih (S := S.erase x) (List.nodup_cons.1 hn).2 (fun z hz => (List.mem_erase_of_ne (fun e => (List.nodup_cons.1 hn).1 (by rw [← e]; exact hz))).2 (h z (by simp [hz])))
    rw [List.length_erase_of_mem hx] at this
    have h0 := List.length_pos_of_mem hx
    simp only [List.length_cons]
    omega
set_option maxHeartbeats 400000 in
set_option maxRecDepth 100000 in
theorem impl_living (w : World) (b n : Nat) (g : Int → Option (Int × Int)) (S : List Int) (hS : RisesP S) (hn : S.length ≤ 1048576) (hg : ∀ z, z ∈ S ↔ ∃ t, g z = some (2, t)) (h : MapF w b n g) :
    Calls Try.prog 23 #[.map (some b)] w fun e w' => ∃ v', e = .returned v' ∧ w'.ownsRow w.heap.size 3 1 v' S.length (ints S) ∧ Below w.heap.size w w' := by
  obtain ⟨i0, hi0, hz0, hz1, hz2⟩ := info_parts info3
  obtain ⟨R, D, hR, hown, hT⟩ := h
  have HR := hidIt hR
  have HT := hidIt hT
  have HG := hidIt hg
  have hbl := hown.lt
  go_enter Try.func23, Try.ntmps23
  go_wp2_with (first | (at_range; refine wpList_range_own _ rfl _ 50 rfl 3 53 mapLaw Try.underlying50 R b n D rfl hown ?_; intro w0 hrg0 hg0 hs0) | go_in)
  go_frame
  have hb0 : Below w.heap.size w w0 := bel_grown (Below.refl _ _) hg0 (by simp)
  go_loopw [3] (fun v wr => ∃ left cnt out, Hid (wr.ranges Try.prog 3 R b w.heap.size n D left cnt) ∧ Hid (wr.ownsRow (w.heap.size + 1) 3 1 v out.length (ints out)) ∧ Hid (Gath g left out) ∧ Below w.heap.size w wr) (fun _ wr => wr.rangeLeft b w.heap.size)
  case atStart => exact ⟨_, _, [], hidIt hrg0, hidIt (World.ownsRow_nil _ _ _ _), hidIt ⟨List.nodup_nil, fun z => by
    simp only [List.not_mem_nil, false_iff, not_and]
    rintro ⟨t, ht⟩
    have := hT z
    rw [ht] at this
    rw [this.1]; simp⟩, hb0⟩
  case round =>
    rename World => wr
    obtain ⟨left, cnt, out, HRG, HO, HGA, hbw⟩ := hrel
    clear hrg0 hown
    go_wp2_with (first | (at_next; refine wpList_next_ranges _ rfl _ rfl 3 mapLaw R (Value.int .i64) stVal (fun key kl hkey => by obtain ⟨x, rfl, _⟩ := Maps.keyOf_int_inv Try.underlying3 hkey; exact ⟨x, rfl⟩) (fun v y hv => by obtain ⟨q, hq, _⟩ := HR.out.inv v y hv; exact ⟨q, hq⟩) b w.heap.size n D left cnt rfl HRG.out ?_ ?_) | go_in)
    · intro hc0 hl0
      have hmem : ∀ z, z ∈ out ↔ z ∈ S := fun z => by rw [HGA.out.mem z, HG.out z]; simp [hl0]
      have HM := hidIt (sorted_of HGA.out.nd hS hmem)
      have hlen : out.length = S.length := by rw [← HM.out]; simp
      have HLEN := hidIt hlen
      clear hlen hmem
      rcases HO.out.2 with ⟨hv, h0⟩ | ⟨q, cap, cur, hv, hq, hcur, hcap1, hcap2, hcur1, hcur2⟩
      · have hS0 : S = [] := List.eq_nil_of_length_eq_zero (by rw [← HLEN.out]; exact h0)
        subst hS0
        subst hv
        go_wp2_with (first | (go_at_call 38; refine (Any.slices_Sort_int_none Try.lays189 none 0 _).mono ?_; rintro e w' ⟨rfl, rfl⟩) | fail)
        go_wp2
        go_ret
        exact ⟨_, rfl, World.ownsRow_nil _ _ _ _, hbw⟩
      · subst hv
        have hqs : q < wr.heap.size := by
          rcases Nat.lt_or_ge q wr.heap.size with h | h
          · exact h
          · rw [Array.getElem?_eq_none h] at hcur; cases hcur
        have hsz : out.length < 4611686018427387904 := by rw [HLEN.out]; omega
        have HH := hidIt (holds_of_blockI (ss := out) hcur (by simpa [ints] using hcur2))
        have hb2 : wr.heap.size = wr.heap.size := rfl
        clear hb2
        have HC := hidIt (And.intro hcur (And.intro hcap1 (And.intro hcap2 hcur1)))
        clear hcur hcap1 hcap2 hcur1 hcur2
        have HSR := hidIt (Try.slices_Sort_int q 0 cap out wr HH.out hqs hsz)
        go_wp2_with (first | (go_at_call 38; refine (HSR.out).mono ?_; rintro e w' ⟨rfl, nn, os, rfl⟩) | fail)
        rw [HM.out]
        have hown' := ownsRow_sortedI (n := nn) (os := os) (base := w.heap.size) (ts := S) (ss := out) HLEN.out.symm (by omega) HC.out.1 HC.out.2.1 HC.out.2.2.1 HC.out.2.2.2
        have hb' : Below w.heap.size w (grow (putRow (Value.int .i64) (Sort.ahead wr nn) q 0 S.toArray) os) := bel_grown hbw (grownBy_sortedI S.toArray) (fun j hj => by cases hj; omega)
        rw [HLEN.out] at hown' ⊢
        go_wp2
        go_ret
        exact ⟨_, rfl, hown', hb'⟩
    · intro x c1 c2 kl y1 y2 w1 cnt1 hkx hlx hRy hat hrg1 hlt hg1 hs1 hen
      obtain ⟨x', ex, rfl, hwx⟩ := Maps.keyOf_int_inv Try.underlying3 hkx
      cases ex
      obtain ⟨q, hq, hy⟩ := HR.out.inv _ _ hRy
      obtain ⟨rfl, rfl⟩ := Prod.mk.inj hy
      have hqq := stVal_inj hq
      subst hqq
      have hgx : g x = some (c1, c2) := by
        have hx := HT.out x
        cases hgx : g x with
        | none =>
          rw [hgx] at hx
          rw [show Maps.has D (keyI x) = true from Maps.has_true_of_atKey hat] at hx
          cases hx
        | some p =>
          rw [hgx] at hx
          rw [stLit_inj ((hx.2 (.lit (.bool false))).symm.trans (hat (.lit (.bool false))))]
      have hltr := HRG.out.lt
      have hbw1 : Below w.heap.size w w1 := bel_grown hbw hg1 (fun j hj => by cases hj; omega)
      have ho1 := kept_row HO.out hg1
      have HO1 := hidIt ho1
      have HRG1 := hidIt hrg1
      have HM1 := hidIt (show wr.rangeLeft b w.heap.size = cnt from HRG.out.left_eq)
      obtain ⟨av, cv, hv⟩ := own_form ho1
      subst hv
      clear ho1 hrg1 HRG HO hg1 hRy hat hkx hq hy
      simp only [stVal] at hen ⊢
      have hz1' := hbw1.size
      by_cases hc : c1 = 2
      · have HGN := hidIt (HGA.out.yes x c2 (by rw [hgx, hc]) hlx)
        have HLE := hidIt (show out.length ≤ S.length from nodup_len HGA.out.nd (fun z hz => by obtain ⟨h1, -⟩ := (HGA.out.mem z).1 hz; exact (HG.out z).2 h1))
        clear HGA hgx
        have hsz1 := hs1
        go_wp2_with (at_builtin; refine wpList_append_own _ rfl _ _ 22 rfl (w.heap.size + 1) 3 i0 (.int .i64 0) 1 8 Try.underlying22 hi0 hz0 hz1 hz2 rfl (by decide) _ _ _ rfl ((HO1.out.alloc _).alloc _) ⟨wr.heap.size + 1, 0, none⟩ 1 1 [.int .i64 x] rfl rfl ?l1 ?l2 ?l3 ?l4 ?l5 ?_)
        case l1 => have := cell_one_new (w1.alloc (.cells #[.int .i64 2, .int .i64 c2] 53)) (.int .i64 x) 3; simpa [hsz1] using this
        case l2 => intro u hu; simp at hu; subst hu; rfl
        case l3 => have := HLE.out; unfold maxLen; omega
        case l4 => have := HLE.out; omega
        case l5 => simp; omega
        intro v' w2 hown' hgrow _
        have hb2 : Below w.heap.size w w2 := ((hbw1.alloc hbw1.size _).alloc (by simp; omega) _).grown hgrow (by simp; omega) (fun j hj => by have := (HO1.out.lt j hj).1; omega)
        have hrow : ∀ j, some j = (Value.slice av out.length cv).ownBlock → w.heap.size < j := fun j hj => by have := (HO1.out.lt j hj.symm).1; omega
        have hr2 := ((HRG1.out.alloc (.cells #[.int .i64 2, .int .i64 c2] 53)).alloc (.cells #[.int .i64 x] 3)).kept hgrow (fun e => by have := hrow b e; omega) (fun e => by have := hrow _ e; omega)
        have HR2 := hidIt hr2
        clear hgrow hr2
        go_wp2_with fail
        first
          | (refine ⟨⟨_, _, _, HR2, hidIt (by simpa using hown'), HGN, hb2⟩, ?_⟩
             rw [HR2.out.left_eq, HM1.out]; exact hlt)
          | trace_state
      · have HGN := hidIt (HGA.out.no x (c1, c2) hgx hc)
        clear HGA hgx
        go_wp2_with fail
        have HR2 := hidIt (HRG1.out.alloc (.cells #[.int .i64 c1, .int .i64 c2] 53))
        refine ⟨⟨_, _, _, HR2, hidIt (HO1.out.alloc _), HGN, bel_al hbw1 _⟩, ?_⟩
        rw [HR2.out.left_eq, HM1.out]
        exact hlt

end Go.Proofs.Ytikliofkplbdpaa

namespace Go.Proofs.Ytikliofkplbdpaa
open Go.ChangeShapes Go.WideShapes Go.ChangeAt Go.RowKit
set_option linter.unusedVariables false

def wP (P : Pl) (A : Int) (PS : List Int) (LS : List (Int × Int)) (B : Bool) : Pl := if (plOkB P && B) = true then ⟨P.fr, A, PS, LS, P.lv⟩ else plZero
theorem wP_no {P : Pl} {A : Int} {PS : List Int} {LS : List (Int × Int)} {B : Bool} (h : (plOkB P && B) = false) : wP P A PS LS B = plZero := by unfold wP; rw [h]; rfl
theorem wP_yes {P : Pl} {A : Int} {PS : List Int} {LS : List (Int × Int)} {B : Bool} (h : (plOkB P && B) = true) : wP P A PS LS B = ⟨P.fr, A, PS, LS, P.lv⟩ := by unfold wP; rw [h]; rfl
theorem ok_pins {P : Pl} (h : plOkB P = true) : 0 < P.ps.length := by
  obtain ⟨-, -, n1, -⟩ := okB_len (plOk_parts h).1
  omega
theorem bel_al' {B : Nat} {W0 W : World} (h : Below B W0 W) (hz : B ≤ W.heap.size) (o : Obj) : Below B W0 (W.alloc o) := h.alloc hz o
theorem set5_heap {W : World} {b o0 o1 o2 o3 o4 : Nat} {x0 x1 x2 x3 x4 : Value} (k : Nat) (hk : k ≠ b) : (((((W.setCell ⟨b, o0, none⟩ x0).setCell ⟨b, o1, none⟩ x1).setCell ⟨b, o2, none⟩ x2).setCell ⟨b, o3, none⟩ x3).setCell ⟨b, o4, none⟩ x4).heap[k]? = W.heap[k]? :=
  (Below.heap_setCell _ _ _ _ hk).trans ((Below.heap_setCell _ _ _ _ hk).trans ((Below.heap_setCell _ _ _ _ hk).trans ((Below.heap_setCell _ _ _ _ hk).trans (Below.heap_setCell _ _ _ _ hk))))

end Go.Proofs.Ytikliofkplbdpaa

namespace Go.Proofs.Ytikliofkplbdpaa
open Go.ChangeShapes Go.WideShapes Go.ChangeAt Go.RowKit
set_option linter.unusedVariables false

def retOk (a : Int) (ps : List Int) (L : List (Int × Int)) (x : Int) : Bool := okB a ps L && !nodeB L x && decide (L.length ≠ 100)
def retP (B : Bool) (ps : List Int) : List Int := if B = true then ps else []
def retL (B : Bool) (L : List (Int × Int)) (x a : Int) : List (Int × Int) := if B = true then L ++ [(x, a)] else []
theorem gones_snoc (L : List (Int × Int)) (x a : Int) : gones (L ++ [(x, a)]) = gones L ++ [.int .i64 x, .int .i64 a] := by rw [gones_app]; rfl
theorem AO.grow {lo : Nat} {p l : Value} {ps : List Int} {L : List (Int × Int)} {W W' : World} (h : AO lo p l ps L W) (b : Below W.heap.size W W') : AO lo p l ps L W' := ⟨own_below h.pins b, own_below h.limbo b, h.apart⟩
theorem AO.app {lo : Nat} {p l : Value} {ps : List Int} {L : List (Int × Int)} {W W' : World} {x a : Int} {g cap : Nat} (h : AO lo p l ps L W)
    (ho : W'.ownsRow lo 65 2 (.slice (some ⟨g, 0, none⟩) (L.length + 1) cap) (L.length + 1) (gones L ++ [.int .i64 x, .int .i64 a])) (hg : W.grownBy W' l.ownBlock) (hat : l.ownBlock = some g ∨ g = W.heap.size) : AO lo p (.slice (some ⟨g, 0, none⟩) (L.length + 1) cap) ps (L ++ [(x, a)]) W' := by
  refine ⟨h.pins.kept hg ?_, by rw [gones_snoc]; simpa using ho, ?_⟩
  · cases hu : p.ownBlock with
    | none => exact .inl rfl
    | some k => exact .inr fun e => h.apart k hu e.symm
  · intro k hk hk2
    simp [Value.ownBlock] at hk2
    subst hk2
    rcases hat with hat | hat
    · exact h.apart g hk hat
    · have := (h.pins.lt g hk).2; omega
theorem AO.set {lo : Nat} {p l : Value} {ps : List Int} {L : List (Int × Int)} {W : World} (h : AO lo p l ps L W) {b o : Nat} {v : Value} (hp : p.ownBlock ≠ some b) (hl : l.ownBlock ≠ some b) : AO lo p l ps L (W.setCell ⟨b, o, none⟩ v) := by
  have hg : W.grownBy (W.setCell ⟨b, o, none⟩ v) (some b) := ⟨rfl, rfl, rfl, by simp, fun k _ hk => Below.heap_setCell _ _ _ _ (fun e => hk (by rw [e]))⟩
  exact ⟨h.pins.kept hg (.inr hp), h.limbo.kept hg (.inr hl), h.apart⟩
theorem AO.low {lo : Nat} {p l : Value} {ps : List Int} {L : List (Int × Int)} {W : World} (h : AO lo p l ps L W) {b o : Nat} {v : Value} (hb : b < lo) : AO lo p l ps L (W.setCell ⟨b, o, none⟩ v) :=
  h.set (fun e => by have := (h.pins.lt b e).1; omega) (fun e => by have := (h.limbo.lt b e).1; omega)
theorem AR.ofAO {lo lo' : Nat} {p l : Value} {ps : List Int} {L : List (Int × Int)} {W : World} (h : AO lo p l ps L W) (hl : lo' ≤ lo) : AR lo' W.heap.size p l ps L W := h.ar.wide hl (Nat.le_refl _)
theorem farv {w w' : World} {v : Value} {b o : Nat} {x : Option Value} (h : w.grownBy w' v.ownBlock) (hb : b < w.heap.size) (hn : ∀ k, v.ownBlock = some k → k ≠ b) (hx : w.cell? ⟨b, o, none⟩ = x) : w'.cell? ⟨b, o, none⟩ = x := (h.cell_far ⟨b, o, none⟩ hb (fun e => hn b e.symm rfl)).trans hx
theorem farv_frozen {w w' : World} {v : Value} {b o : Nat} {x : Bool} (h : w.grownBy w' v.ownBlock) (hb : b < w.heap.size) (hn : ∀ k, v.ownBlock = some k → k ≠ b) (hx : w.frozen? ⟨b, o, none⟩ = x) : w'.frozen? ⟨b, o, none⟩ = x := (h.frozen_far ⟨b, o, none⟩ hb (fun e => hn b e.symm rfl)).trans hx
theorem retOk_no {a : Int} {ps : List Int} {L : List (Int × Int)} {x : Int} (h : okB a ps L = false ∨ nodeB L x = true ∨ L.length = 100) : retOk a ps L x = false := by
  rcases h with h | h | h <;> simp [retOk, h]
theorem retOk_yes {a : Int} {ps : List Int} {L : List (Int × Int)} {x : Int} (h : retOk a ps L x = true) : okB a ps L = true ∧ nodeB L x = false ∧ L.length ≠ 100 := by
  simp only [retOk, Bool.and_eq_true, Bool.not_eq_true', decide_eq_true_eq] at h
  exact ⟨h.1.1, h.1.2, h.2⟩
theorem retOk_cases {a : Int} {ps : List Int} {L : List (Int × Int)} {x : Int} (h : retOk a ps L x = false) : okB a ps L = false ∨ nodeB L x = true ∨ L.length = 100 := by
  cases h1 : okB a ps L with
  | false => exact .inl rfl
  | true =>
    cases h2 : nodeB L x with
    | true => exact .inr (.inl rfl)
    | false =>
      simp [retOk, h1, h2] at h
      exact .inr (.inr h)

end Go.Proofs.Ytikliofkplbdpaa

namespace Go.Proofs.Ytikliofkplbdpaa
open Go.ChangeShapes Go.WideShapes Go.ChangeAt Go.RowKit
set_option linter.unusedVariables false

theorem pair_rises {S : List Int} (h : S.Pairwise (fun x y => x < y)) : RisesP S := by
  intro j h0 hj
  exact (List.pairwise_iff_getElem.1 h) (j - 1) j (by omega) hj (by omega)
theorem but_rises {S : List Int} (h : RisesP S) (x : Int) : RisesP (butL S x) := pair_rises ((rises_pair h).filter _)
theorem but_mem (S : List Int) (x z : Int) : z ∈ butL S x ↔ z ∈ S ∧ z ≠ x := by simp [butL, List.mem_filter]
def insN (n : Int) : List Int → List Int
  | [] => [n]
  | y :: ys => if n < y then n :: y :: ys else y :: insN n ys
theorem wFold_done (n : Int) (xs : List Int) : ∀ o, xs.foldl (wStep n) (true, o) = (true, o ++ xs) := by
  induction xs with
  | nil => intro o; simp
  | cons y ys ih => intro o; simp [wStep, ih]
theorem wFold_ins (n : Int) (xs : List Int) : ∀ o, (if (xs.foldl (wStep n) (false, o)).1 then (xs.foldl (wStep n) (false, o)).2 else (xs.foldl (wStep n) (false, o)).2 ++ [n]) = o ++ insN n xs := by
  induction xs with
  | nil => intro o; simp [insN]
  | cons y ys ih =>
    intro o
    by_cases h : n < y
    · simp [wStep, h, insN, wFold_done]
    · have := ih (o ++ [y])
      simpa [wStep, h, insN] using this
theorem with_ins (xs : List Int) (n : Int) : withL xs n = insN n xs := by
  have := wFold_ins n xs []
  rw [List.nil_append] at this
  exact this
theorem ins_mem (n z : Int) (xs : List Int) : z ∈ insN n xs ↔ z = n ∨ z ∈ xs := by
  induction xs with
  | nil => simp [insN]
  | cons y ys ih =>
    unfold insN
    split
    · simp
    · simp only [List.mem_cons, ih]
      constructor
      · rintro (h | h | h) <;> simp [h]
      · rintro (h | h | h) <;> simp [h]
theorem ins_pair (n : Int) (xs : List Int) (h : xs.Pairwise (fun x y => x < y)) (hn : ¬ n ∈ xs) : (insN n xs).Pairwise (fun x y => x < y) := by
  induction xs with
  | nil => simp [insN]
  | cons y ys ih =>
    obtain ⟨h1, h2⟩ := List.pairwise_cons.1 h
    unfold insN
    split
    · rename_i hy
      refine List.pairwise_cons.2 ⟨fun z hz => ?_, h⟩
      rcases List.mem_cons.1 hz with rfl | hz
      · exact hy
      · have := h1 z hz; omega
    · rename_i hy
      have hne : n ≠ y := fun e => hn (by simp [e])
      refine List.pairwise_cons.2 ⟨fun z hz => ?_, ih h2 (fun e => hn (by simp [e]))⟩
      rcases (ins_mem n z ys).1 hz with rfl | hz
      · omega
      · exact h1 z hz
theorem with_rises {S : List Int} (h : RisesP S) {x : Int} (hx : ¬ x ∈ S) : RisesP (withL S x) := by rw [with_ins]; exact pair_rises (ins_pair x S (rises_pair h) hx)
theorem with_mem (S : List Int) (x z : Int) : z ∈ withL S x ↔ z = x ∨ z ∈ S := by rw [with_ins]; exact ins_mem x z S
theorem ins_len (n : Int) (xs : List Int) : (insN n xs).length = xs.length + 1 := by
  induction xs with
  | nil => rfl
  | cons y ys ih => unfold insN; split <;> simp [ih]
theorem with_len (S : List Int) (x : Int) : (withL S x).length = S.length + 1 := by rw [with_ins]; exact ins_len x S
theorem st_two {P : Pl} (h : plOkB P = true) (z : Int) : (∃ t, stF P z = some (2, t)) ↔ z ∈ P.lv := by
  constructor
  · rintro ⟨t, ht⟩
    by_cases h2 : z ∈ P.lv
    · exact h2
    · exfalso
      by_cases h1 : ∀ j, j < P.L.length → (goneAt P.L j).1 ≠ z
      · rcases st_cases h z h1 h2 with e | e <;> rw [ht] at e <;> simp at e
      · obtain ⟨j, hj⟩ := Classical.not_forall.1 h1
        obtain ⟨hj1, hj2⟩ := Classical.not_imp.1 hj
        have hj3 := Classical.not_not.1 hj2
        have e := st_limbo h j hj1
        rw [hj3, ht] at e
        simp at e
  · intro hz
    exact ⟨0, st_live h z hz⟩
theorem but_live {P : Pl} (h : plOkB P = true) (x z : Int) : z ∈ butL P.lv x ↔ ∃ t, delF (stF P) x z = some (2, t) := by
  rw [but_mem]
  unfold delF
  by_cases hz : z = x
  · simp [hz]
  · simp only [hz, if_false, st_two h z]
    simp
    exact fun _ => hz
theorem with_live {P : Pl} (h : plOkB P = true) (x z : Int) : z ∈ withL P.lv x ↔ ∃ t, updF (stF P) x (2, 0) z = some (2, t) := by
  rw [with_mem]
  unfold updF
  by_cases hz : z = x
  · simp [hz]
  · simp only [hz, if_false, st_two h z, false_or]
def plGiveK (P : Pl) (x : Int) : Bool := plOkB P && hasN P.lv x
def plGiveB (P : Pl) (x : Int) : Bool := plGiveK P x && retOk P.a P.ps P.L x
def plGive (P : Pl) (x : Int) : Pl := if plGiveB P x = true then ⟨P.fr, P.a, P.ps, P.L ++ [(x, P.a)], butL P.lv x⟩ else plZero
theorem give_no {P : Pl} {x : Int} (h : plGiveB P x = false) : plGive P x = plZero := by simp [plGive, h]
theorem give_yes {P : Pl} {x : Int} (h : plGiveB P x = true) : plGive P x = ⟨P.fr, P.a, P.ps, P.L ++ [(x, P.a)], butL P.lv x⟩ := by simp [plGive, h]
theorem but_less {xs : List Int} {x : Int} (h : x ∈ xs) : (butL xs x).length + 1 ≤ xs.length := by
  induction xs with
  | nil => simp at h
  | cons y ys ih =>
    unfold butL at ih ⊢
    by_cases hy : y = x
    · subst hy
      have := List.length_filter_le (fun z => decide (z ≠ y)) ys
      simp
      exact List.length_filter_le _ _
    · have hx : x ∈ ys := by
        rcases List.mem_cons.1 h with e | e
        · exact absurd e.symm hy
        · exact e
      have := ih hx
      rw [List.filter_cons_of_pos (by simp [hy])]
      simp only [List.length_cons]
      omega

end Go.Proofs.Ytikliofkplbdpaa

namespace Go.Proofs.Ytikliofkplbdpaa
open Go.ChangeShapes Go.WideShapes Go.ChangeAt Go.RowKit
set_option linter.unusedVariables false

def plAlloc (P : Pl) : Pl := if plOkB P = true then (match P.fr with
  | [] => P
  | x :: fr => ⟨fr, P.a, P.ps, P.L, withL P.lv x⟩) else plZero
def plAllocN (P : Pl) : Int := if plOkB P = true then P.fr.headD 0 else 0
def plAllocB (P : Pl) : Bool := plOkB P && !P.fr.isEmpty
theorem alloc_no {P : Pl} (h : plOkB P = false) : plAlloc P = plZero ∧ plAllocN P = 0 ∧ plAllocB P = false := by simp [plAlloc, plAllocN, plAllocB, h]
theorem alloc_nil {a : Int} {ps : List Int} {L : List (Int × Int)} {lv : List Int} (h : plOkB ⟨[], a, ps, L, lv⟩ = true) : plAlloc ⟨[], a, ps, L, lv⟩ = ⟨[], a, ps, L, lv⟩ ∧ plAllocN ⟨[], a, ps, L, lv⟩ = 0 ∧ plAllocB ⟨[], a, ps, L, lv⟩ = false := by simp [plAlloc, plAllocN, plAllocB, h]
theorem alloc_yes {x : Int} {fr : List Int} {a : Int} {ps : List Int} {L : List (Int × Int)} {lv : List Int} (h : plOkB ⟨x :: fr, a, ps, L, lv⟩ = true) : plAlloc ⟨x :: fr, a, ps, L, lv⟩ = ⟨fr, a, ps, L, withL lv x⟩ ∧ plAllocN ⟨x :: fr, a, ps, L, lv⟩ = x ∧ plAllocB ⟨x :: fr, a, ps, L, lv⟩ = true := by simp [plAlloc, plAllocN, plAllocB, h]
theorem fit_alloc (P : Pl) (hf : PlFit P) : PlFit (plAlloc P) := by
  cases h : plOkB P with
  | false => rw [(alloc_no h).1]; simp [PlFit, plZero]
  | true =>
    obtain ⟨_ | ⟨x, fr⟩, a, ps, L, lv⟩ := P
    · rw [(alloc_nil h).1]; exact hf
    · rw [(alloc_yes h).1]
      have := with_len lv x
      unfold PlFit at hf ⊢
      simp only [List.length_cons] at hf ⊢
      omega
/- a row that is read, without its first -/
def tailA (a : Option Addr) (k : Nat) : Option Addr := if k = 1 then a else a.map (·.add 1)
theorem slice_one (a : Option Addr) (n k : Nat) (W : World) : (Instr.slice 22 (.slice a (n + 1) k) (some (.int .i64 1)) none none).run Try.prog W = .ok (.slice (tailA a k) n (k - 1)) W := by
  have e := run_slice_l W 22 a (n + 1) k Try.underlying22 .i64 1 (by omega) (by omega)
  rw [e]
  simp [go_sem, tailA]
theorem RowQ.rest {w : World} {lo hi : Nat} {a : Option Addr} {n k : Nat} {x : Int} {fr : List Int} (h : RowQ w lo hi (.slice a n k) (x :: fr)) (hk : (x :: fr).length ≤ k) : RowQ w lo hi (.slice (tailA a k) fr.length (k - 1)) fr := by
  obtain ⟨a', c', e, h⟩ := h
  simp at e
  obtain ⟨rfl, -, rfl⟩ := e
  refine ⟨_, _, rfl, ?_⟩
  rcases h with h | ⟨b, off, rfl, h1, h2, h3⟩
  · cases h
  · cases fr with
    | nil => exact .inl rfl
    | cons y ys =>
      simp only [List.length_cons] at hk
      refine .inr ⟨b, off + 1, by unfold tailA; rw [if_neg (by omega)]; rfl, h1, h2, fun j hj => ?_⟩
      have := h3 (j + 1) (by simpa using hj)
      rw [show off + 1 + j = off + (j + 1) from by omega]
      simpa using this
theorem IntsIn.rest {w : World} {a : Option Addr} {n k : Nat} {x : Int} {fr : List Int} (h : IntsIn w (.slice a n k) (x :: fr)) (hk : (x :: fr).length ≤ k) : IntsIn w (.slice (tailA a k) fr.length (k - 1)) fr := by
  obtain ⟨⟨a', c', e, h⟩, -⟩ := h
  simp at e
  obtain ⟨rfl, -, rfl⟩ := e
  cases fr with
  | nil => exact ⟨⟨_, _, rfl, .inl rfl⟩, _, _, rfl, trivial⟩
  | cons y ys =>
    rcases h with h | ⟨b, off, rfl, h1, h3⟩
    · cases h
    · simp only [List.length_cons] at hk
      refine ⟨⟨_, _, rfl, .inr ⟨b, off + 1, by unfold tailA; rw [if_neg (by omega)]; rfl, h1, fun j hj => ?_⟩⟩, _, _, rfl, trivial⟩
      have := h3 (j + 1) (by simpa using hj)
      rw [show off + 1 + j = off + (j + 1) from by omega]
      simpa using this
theorem IntsIn.head {w : World} {a : Option Addr} {n k : Nat} {x : Int} {fr : List Int} (h : IntsIn w (.slice a n k) (x :: fr)) : ∃ b off, a = some ⟨b, off, Option.none⟩ ∧ b < w.heap.size ∧ w.cell? ⟨b, off, Option.none⟩ = some (.int .i64 x) := by
  obtain ⟨⟨a', c', e, h⟩, -⟩ := h
  simp at e
  obtain ⟨rfl, -, rfl⟩ := e
  rcases h with h | ⟨b, off, rfl, h1, h3⟩
  · cases h
  · exact ⟨b, off, rfl, h1, by have := h3 0 (by simp); simpa using this⟩

end Go.Proofs.Ytikliofkplbdpaa

namespace Go.Proofs.Ytikliofkplbdpaa
open Go.ChangeShapes Go.WideShapes Go.ChangeAt Go.RowKit
set_option linter.unusedVariables false

theorem drew_heap (V : World) : V.drew.heap = V.heap := rfl
theorem set5d_heap {W : World} {b o0 o1 o2 o3 o4 : Nat} {x0 x1 x2 x3 x4 : Value} (k : Nat) (hk : k ≠ b) : (((((W.setCell ⟨b, o0, none⟩ x0).setCell ⟨b, o1, none⟩ x1).setCell ⟨b, o2, none⟩ x2).setCell ⟨b, o3, none⟩ x3).setCell ⟨b, o4, none⟩ x4).drew.heap[k]? = W.heap[k]? := by rw [drew_heap]; exact set5_heap k hk
set_option maxHeartbeats 800000 in
set_option maxRecDepth 100000 in
theorem spec_alloc (w : World) (f p l v : Value) (P : Pl) (hf : PlFit P) (hA : PlIn w f p l v P) :
    Calls Try.prog 5 #[.agg #[f, .int .i64 P.a, p, l, v]] w (PlS2 (plAlloc P) (plAllocN P) (plAllocB P) w) := by
  have H := hidIt hA
  have HF := hidIt hf
  obtain ⟨fa, fc, pa, pc, la, lc, va, vc, rfl, rfl, rfl, rfl⟩ := hA.form
  clear hA
  have hfit : P.lv.length ≤ 1048576 := by unfold PlFit at hf; omega
  go_enter Try.func5, Try.ntmps5
  go_wp2_with fail
  generalize hW : World.alloc (World.alloc w _) _ = W0
  have X := bx2 w #[.slice fa P.fr.length fc, .int .i64 P.a, .slice pa P.ps.length pc, .slice la P.L.length lc, .slice va P.lv.length vc] #[.slice none 0 0, .int .i64 0, .slice none 0 0, .slice none 0 0, .slice none 0 0] 33 33
  rw [hW] at X
  clear hW
  obtain ⟨X0, X1, bW, zW⟩ := X
  refine (spec_poolok W0 _ _ _ _ P HF.out (H.out.below bW)).mono ?_
  rintro e w1 ⟨rfl, b1⟩
  have z1 := b1.size
  have H0 := hidIt (X0.below b1)
  have H1 := hidIt (X1.below b1)
  have B1 := hidIt (bel_two bW b1)
  clear X0 X1 bW b1
  have q0 := H1.out.2.1 0
  have q1 := H1.out.2.1 1
  have q2 := H1.out.2.1 2
  have q3 := H1.out.2.1 3
  have q4 := H1.out.2.1 4
  have qf := H1.out.2.2
  simp at q0 q1 q2 q3 q4
  have hl1 := H1.out.1
  cases hp : plOkB P with
  | false =>
    have HN := alloc_no hp
    go_wp2
    exact bodyPost_ret (v := .tuple #[.agg #[.slice none 0 0, .int .i64 0, .slice none 0 0, .slice none 0 0, .slice none 0 0], .int .i64 0, .bool false]) (by simp [results, Try.results5, go_sem, q0, q1, q2, q3, q4]) rfl (by rw [HN.1, HN.2.1, HN.2.2]; exact PlS2.none ⟨rfl, bel_set5 B1.out (by omega)⟩)
  | true =>
    have HOK := hidIt hp
    clear q0 q1 q2 q3 q4 qf
    have k0 := H0.out.2.1 0
    have k1 := H0.out.2.1 1
    have k2 := H0.out.2.1 2
    have k3 := H0.out.2.1 3
    have k4 := H0.out.2.1 4
    simp at k0 k1 k2 k3 k4
    go_wp2_with fail
    clear k0 k1 k2 k3 k4
    refine (spec_copypoolC w1 _ _ _ _ P HF.out (ok_pins HOK.out) (H.out.below B1.out)).mono ?_
    rintro e w2 ⟨ya, yb, p2, l2, v2, rfl, hcap, rq, b2⟩
    obtain ⟨-, -, yc, yd, ye, yf, yg, yh, -, rfl, rfl, rfl⟩ := rq.form
    have z2 := b2.size
    have G0 := hidIt (H0.out.below b2)
    have G1 := hidIt (H1.out.below b2)
    have B2 := hidIt (bel_two B1.out b2)
    have RQ := hidIt rq
    have HC := hidIt hcap
    clear rq b2 H0 H1 B1 hcap
    have k0 := G0.out.2.1 0
    simp at k0
    have hl0 := G0.out.1
    have q0 := G1.out.2.1 0
    have q1 := G1.out.2.1 1
    have q2 := G1.out.2.1 2
    have q3 := G1.out.2.1 3
    have q4 := G1.out.2.1 4
    have qf := G1.out.2.2
    simp at q0 q1 q2 q3 q4
    have hl1 := G1.out.1
    obtain ⟨_ | ⟨x, fr⟩, PA, PS, LS, LV⟩ := P
    · have HN := alloc_nil HOK.out
      go_wp2
      exact bodyPost_ret (v := .tuple #[.agg #[.slice ya 0 yb, .int .i64 PA, .slice yc PS.length yd, .slice ye LS.length yf, .slice yg LV.length yh], .int .i64 0, .bool false]) (by simp [results, Try.results5, go_sem, q0, q1, q2, q3, q4, hl1]) rfl (by
        rw [HN.1, HN.2.1, HN.2.2]
        refine ⟨_, _, _, _, rfl, ?_, ?_⟩
        · exact (PlQ.loc _ _ _ _ _ _ _ w2 _ RQ.out (fun k k1 k2 => (((Below.refl _ _).alloc (Nat.le_refl _) _).block k (by simpa using k2)).trans (set5_heap k (by omega)))).wide (by omega) (by simp)
        · exact (bel_set5 B2.out (by omega)).alloc (by simp; omega) _)
    · have HN := hidIt (alloc_yes HOK.out)
      have hs1 := slice_one ya fr.length yb
      clear q0 q1 q2 q3 q4 qf
      go_wp2_with fail
      clear k0
      generalize hW : World.alloc w2 _ = W5
      have X5 := hidIt (show Bx W5 w2.heap.size #[.slice (tailA ya yb) fr.length (yb - 1), .int .i64 PA, .slice yc PS.length yd, .slice ye LS.length yf, .slice yg LV.length yh] from by rw [← hW]; exact Bx.new w2 _ _)
      have zW5 : W5.heap.size = w2.heap.size + 1 := by rw [← hW]; simp
      have b5 := hidIt (show Below w2.heap.size w2 W5 from by rw [← hW]; exact (Below.refl _ _).alloc (Nat.le_refl _) _)
      clear hW
      have B5 := hidIt (bel_two B2.out b5.out)
      have J5 := hidIt (And.intro (G0.out.below b5.out) (G1.out.below b5.out))
      have R5 := hidIt (RQ.out.below b5.out)
      obtain ⟨xb, xo, rfl, hxb, hx0⟩ := H.out.fr.head
      have hxc := (B5.out.cell (p := ⟨xb, xo, none⟩) hxb).trans hx0
      have IV := hidIt (R5.out.lv.inr (by omega : w2.heap.size ≤ W5.heap.size))
      have y4 := X5.out.2.1 4
      have g0 := J5.out.1.2.1 0
      have kf := X5.out.2.2
      simp at y4 g0
      have hl5 := X5.out.1
      have hl6 := J5.out.1.1
      clear B2 b5 G0 G1 RQ
      go_region_with (go_at_call 15; refine (spec_withNum _ _ LV x (by omega) ?_).mono ?_; (focus (first | exact IV.out | exact IV.out.below (Below.refl _ _).drew)); rintro e w7 ⟨v7, rfl, ho7, b7'⟩; have b7 : Below W5.heap.size W5 w7 := (by first | exact b7' | exact bel_call (Below.refl _ _).drew b7'); have c7 := below_cell b7 hl5 y4; have f7 := fun o => below_frozen b7 hl5 (kf o); obtain ⟨qa, qc, rfl⟩ := own_form ho7)
      all_goals
        have Z7 := hidIt (show Row w7 W5.heap.size w7.heap.size (.slice qa (withL LV x).length qc) (ints (withL LV x)) from by have := Row.of_owns ho7; simpa using this)
        have z7 := b7.size
        have B7 := hidIt b7
        clear ho7 b7 b7' c7 f7 hxc y4 g0 kf
        generalize hW : World.setCell w7 _ _ = W8
        have E8 : ∀ k, k ≠ w2.heap.size → W8.heap[k]? = w7.heap[k]? := fun k h => by rw [← hW]; exact Below.heap_setCell _ _ _ _ h
        have z8 : W8.heap.size = w7.heap.size := by rw [← hW]; simp
        have X8 := hidIt (show Bx W8 w2.heap.size #[.slice (tailA ya yb) fr.length (yb - 1), .int .i64 PA, .slice yc PS.length yd, .slice ye LS.length yf, .slice qa (withL LV x).length qc] from by rw [← hW]; exact (X5.out.below B7.out).set (i := 4) (.slice qa (withL LV x).length qc) (by simp))
        have B8 := hidIt (show Below w.heap.size w W8 from by rw [← hW]; exact (bel_two B5.out B7.out).setCell (by simp; omega) _)
        have K8 := hidIt (show Bx W8 w.heap.size _ from by rw [← hW]; exact (J5.out.1.below B7.out).other _ (by omega))
        have J8 := hidIt (show Bx W8 (w.heap.size + 1) _ from by rw [← hW]; exact (J5.out.2.below B7.out).other _ (by omega))
        have R8 := hidIt (PlQ.loc _ _ _ _ _ _ _ W5 W8 R5.out (fun k _ k2 => (E8 k (by omega)).trans (B7.out.block k (by omega))))
        have Q8 := hidIt (Row.loc _ _ _ _ w7 W8 Z7.out (fun k k1 _ => E8 k (by omega)))
        have T8 := hidIt (R8.out.fr.rest HC.out)
        clear hW E8 X5 J5 R5 Z7 B7 B5 hl5 hl6 IV
        have hx8 := (B8.out.cell (p := ⟨xb, xo, none⟩) hxb).trans hx0
        have y0 := X8.out.2.1 0
        have y1 := X8.out.2.1 1
        have y2 := X8.out.2.1 2
        have y3 := X8.out.2.1 3
        have y4 := X8.out.2.1 4
        have g0 := K8.out.2.1 0
        have q0 := J8.out.2.1 0
        have q1 := J8.out.2.1 1
        have q2 := J8.out.2.1 2
        have q3 := J8.out.2.1 3
        have q4 := J8.out.2.1 4
        have qf := J8.out.2.2
        simp at y0 y1 y2 y3 y4 g0 q0 q1 q2 q3 q4
        have hly := X8.out.1
        have hlg := K8.out.1
        have hlq := J8.out.1
        have hne : w2.heap.size ≠ w.heap.size + 1 := by omega
        have hne2 : w.heap.size + 1 ≠ w2.heap.size := by omega
        have hne3 : xb ≠ w.heap.size + 1 := by omega
        have hne4 : w.heap.size + 1 ≠ xb := by omega
        clear hx0
        go_wp2_with fail
        go_region
        all_goals
          go_wp2
          refine bodyPost_ret (v := .tuple #[.agg #[.slice (tailA ya yb) fr.length (yb - 1), .int .i64 PA, .slice yc PS.length yd, .slice ye LS.length yf, .slice qa (withL LV x).length qc], .int .i64 x, .bool true]) (by simp [results, Try.results5, go_sem, q0, q1, q2, q3, q4]) rfl (by
            rw [HN.out.1, HN.out.2.1, HN.out.2.2]
            refine ⟨_, _, _, _, rfl, ⟨?_, ?_, ?_⟩, (bel_set5 B8.out (by omega)).drew⟩
            · exact (RowQ.loc _ _ _ _ W8 _ T8.out (fun k k1 k2 => set5d_heap k (by omega))).wide (by omega) (by simp; omega)
            · exact (AR.loc _ _ _ _ _ _ W8 _ R8.out.ag (fun k k1 k2 => set5d_heap k (by omega))).wide (by omega) (by simp; omega)
            · exact (RowQ.loc _ _ _ _ W8 _ Q8.out.toQ (fun k k1 k2 => set5d_heap k (by omega))).wide (by omega) (by simp; omega))

end Go.Proofs.Ytikliofkplbdpaa

namespace Go.Proofs.Ytikliofkplbdpaa
open Go.ChangeShapes Go.WideShapes Go.ChangeAt Go.RowKit
set_option linter.unusedVariables false

def AlC (W2 : World) (P : Pl) (x : Value) (wc : World) : Prop := ∃ b f p l v lo1 hi1 lo2 hi2, x = .pointer (some ⟨b, 0, none⟩) ∧ Bx wc b #[f, .int .i64 P.a, p, l, v] ∧ W2.heap.size ≤ b ∧ Below W2.heap.size W2 wc ∧ W2.heap.size ≤ lo1 ∧ lo1 ≤ hi1 ∧ hi1 ≤ lo2 ∧ lo2 ≤ hi2 ∧ hi2 ≤ wc.heap.size ∧ (b < lo1 ∨ hi1 ≤ b) ∧ (b < lo2 ∨ hi2 ≤ b) ∧ AR lo1 hi1 p l P.ps P.L wc ∧ WA lo2 hi2 f v P.fr P.lv wc
theorem alc_set {w1 w16 : World} {P : Pl} {f p l v z0 z1 z2 z3 z4 : Value} {b lo1 hi1 lo2 : Nat} (X : Bx w16 b #[z0, z1, z2, z3, z4]) (hb : w1.heap.size ≤ b) (bw : Below w1.heap.size w1 w16) (h1 : w1.heap.size ≤ lo1) (h2 : lo1 ≤ hi1) (h3 : hi1 ≤ lo2) (h4 : lo2 ≤ w16.heap.size) (d1 : b < lo1 ∨ hi1 ≤ b) (d2 : b < lo2)
    (ar : AR lo1 hi1 p l P.ps P.L w16) (wa : WA lo2 w16.heap.size f v P.fr P.lv w16) :
    AlC w1 P (.pointer (some ⟨b, 0, none⟩)) (((((w16.setCell ⟨b, 0, none⟩ f).setCell ⟨b, 1, none⟩ (.int .i64 P.a)).setCell ⟨b, 2, none⟩ p).setCell ⟨b, 3, none⟩ l).setCell ⟨b, 4, none⟩ v) :=
  ⟨b, f, p, l, v, lo1, hi1, lo2, w16.heap.size, rfl, ((((X.set (i := 0) f (by simp)).set (i := 1) (.int .i64 P.a) (by simp)).set (i := 2) p (by simp)).set (i := 3) l (by simp)).set (i := 4) v (by simp), hb, bel_set5 bw hb, h1, h2, h3, h4, by simp, d1, .inl d2,
    AR.loc _ _ _ _ _ _ w16 _ ar (fun k k1 k2 => set5_heap k (by omega)), WA.loc _ _ _ _ _ _ w16 _ wa (fun k k1 k2 => set5_heap k (by omega))⟩
theorem alc_b {w1 w15 w16 : World} {o : Obj} {P : Pl} {f p l v z0 z1 z2 z3 z4 : Value} (b15 : Below w1.drew.heap.size w1.drew w15) (r15 : AR w1.drew.heap.size w15.heap.size p l P.ps P.L w15) (b16 : Below (w15.alloc o).heap.size (w15.alloc o) w16) (wa : WA (w15.alloc o).heap.size w16.heap.size f v P.fr P.lv w16) (X : Bx w16 w15.heap.size #[z0, z1, z2, z3, z4]) :
    AlC w1 P (.pointer (some ⟨w15.heap.size, 0, none⟩)) (((((w16.setCell ⟨w15.heap.size, 0, none⟩ f).setCell ⟨w15.heap.size, 1, none⟩ (.int .i64 P.a)).setCell ⟨w15.heap.size, 2, none⟩ p).setCell ⟨w15.heap.size, 3, none⟩ l).setCell ⟨w15.heap.size, 4, none⟩ v) := by
  have e1 := b15.size
  have e2 := b16.size
  have u : Below w15.heap.size w15 w16 := ((Below.refl _ _).alloc (Nat.le_refl _) _).trans (b16.mono (by simp))
  have q : Below w1.heap.size w1 w16 := bel_call (bel_call (Below.refl _ _).drew b15) u
  simp at e1 e2 r15 wa
  exact alc_set (lo1 := w1.heap.size) (hi1 := w15.heap.size) (lo2 := w15.heap.size + 1) X e1 q (Nat.le_refl _) e1 (by omega) (by omega) (.inr (Nat.le_refl _)) (by omega) (r15.below u) wa
theorem alc_a {w1 w15 w16 : World} {o : Obj} {P : Pl} {f p l v z0 z1 z2 z3 z4 : Value} (b15 : Below (w1.alloc o).drew.heap.size (w1.alloc o).drew w15) (r15 : AR (w1.alloc o).drew.heap.size w15.heap.size p l P.ps P.L w15) (b16 : Below w15.heap.size w15 w16) (wa : WA w15.heap.size w16.heap.size f v P.fr P.lv w16) (X : Bx w16 w1.heap.size #[z0, z1, z2, z3, z4]) :
    AlC w1 P (.pointer (some ⟨w1.heap.size, 0, none⟩)) (((((w16.setCell ⟨w1.heap.size, 0, none⟩ f).setCell ⟨w1.heap.size, 1, none⟩ (.int .i64 P.a)).setCell ⟨w1.heap.size, 2, none⟩ p).setCell ⟨w1.heap.size, 3, none⟩ l).setCell ⟨w1.heap.size, 4, none⟩ v) := by
  have e1 := b15.size
  have e2 := b16.size
  have q : Below w1.heap.size w1 w16 := bel_call (bel_call (((Below.refl _ _).alloc (Nat.le_refl _) _).drew) b15) b16
  simp at e1 e2 r15
  exact alc_set (lo1 := w1.heap.size + 1) (hi1 := w15.heap.size) (lo2 := w15.heap.size) X (Nat.le_refl _) q (by omega) (by omega) (Nat.le_refl _) e2 (.inl (by omega)) (by omega) (r15.below b16) wa
theorem alc_c {w1 w15 w16 : World} {t : TypeId} {P : Pl} {f p l v : Value} (b15 : Below w1.drew.heap.size w1.drew w15) (r15 : AR w1.drew.heap.size w15.heap.size p l P.ps P.L w15) (b16 : Below w15.heap.size w15 w16) (wa : WA w15.heap.size w16.heap.size f v P.fr P.lv w16) :
    AlC w1 P (.pointer (some ⟨w16.heap.size, 0, none⟩)) (w16.alloc (.cells #[f, .int .i64 P.a, p, l, v] t)) := by
  have e1 := b15.size
  have e2 := b16.size
  have q : Below w1.heap.size w1 w16 := bel_call (bel_call (Below.refl _ _).drew b15) b16
  simp at e1 r15
  exact ⟨w16.heap.size, f, p, l, v, w1.heap.size, w15.heap.size, w15.heap.size, w16.heap.size, rfl, Bx.new w16 _ _, q.size, bel_al q _, Nat.le_refl _, e1, Nat.le_refl _, e2, by simp, .inr e2, .inr (Nat.le_refl _), (r15.below b16).below ((Below.refl _ _).alloc e2 _), wa.below ((Below.refl _ _).alloc (Nat.le_refl _) _)⟩
set_option maxHeartbeats 800000 in
set_option maxRecDepth 100000 in
theorem impl_alloc (w : World) (fa : Option Addr) (fc : Nat) (p l v : Value) (P : Pl) (hf : PlFit P) (hwf : PlWf P) (hc : P.fr.length ≤ fc) (hA : PlIn w (.slice fa P.fr.length fc) p l v P) :
    Calls Try.prog 7 #[.agg #[.slice fa P.fr.length fc, .int .i64 P.a, p, l, v]] w (PlI2 (plAlloc P) (plAllocN P) (plAllocB P) w) := by
  have HWF := hidIt hwf
  have H := hidIt hA
  have HF := hidIt hf
  have HC := hidIt hc
  obtain ⟨-, -, pa, pc, la, lc, va, vc, -, rfl, rfl, rfl⟩ := hA.form
  clear hA hc
  have hfit : P.lv.length + P.ps.length + P.L.length + P.fr.length ≤ 1048576 := by unfold PlFit at hf; omega
  go_enter Try.func7, Try.ntmps7
  go_wp2_with fail
  generalize hW : World.alloc (World.alloc w _) _ = W0
  have X := bx2 w #[.slice fa P.fr.length fc, .int .i64 P.a, .slice pa P.ps.length pc, .slice la P.L.length lc, .slice va P.lv.length vc] #[.slice none 0 0, .int .i64 0, .slice none 0 0, .slice none 0 0, .slice none 0 0] 33 33
  rw [hW] at X
  clear hW
  obtain ⟨X0, X1, bW, zW⟩ := X
  refine (impl_poolok W0 _ _ _ _ P HF.out HWF.out (H.out.below bW)).mono ?_
  rintro e w1 ⟨rfl, b1⟩
  have z1 := b1.size
  have H0 := hidIt (X0.below b1)
  have H1 := hidIt (X1.below b1)
  have B1 := hidIt (bel_two bW b1)
  clear X0 X1 bW b1
  have q0 := H1.out.2.1 0
  have q1 := H1.out.2.1 1
  have q2 := H1.out.2.1 2
  have q3 := H1.out.2.1 3
  have q4 := H1.out.2.1 4
  have qf := H1.out.2.2
  simp at q0 q1 q2 q3 q4
  have hl1 := H1.out.1
  cases hp : plOkB P with
  | false =>
    have HN := alloc_no hp
    go_wp2
    exact bodyPost_ret (v := .tuple #[.agg #[.slice none 0 0, .int .i64 0, .slice none 0 0, .slice none 0 0, .slice none 0 0], .int .i64 0, .bool false]) (by simp [results, Try.results7, go_sem, q0, q1, q2, q3, q4]) rfl (by rw [HN.1, HN.2.1, HN.2.2]; exact PlI2.none ⟨rfl, bel_set5 B1.out (by omega)⟩)
  | true =>
    have HOK := hidIt hp
    clear q0 q1 q2 q3 q4 qf
    have k0 := H0.out.2.1 0
    have k1 := H0.out.2.1 1
    have k2 := H0.out.2.1 2
    have k3 := H0.out.2.1 3
    have k4 := H0.out.2.1 4
    simp at k0 k1 k2 k3 k4
    have hl0 := H0.out.1
    go_wp2_with fail
    have SO := hidIt (fun W (hb : Below w1.heap.size w1 W) => (⟨hb, below_cell (b := w.heap.size) hb hl0 k0, below_cell (b := w.heap.size) hb hl0 k1, below_cell (b := w.heap.size) hb hl0 k2, below_cell (b := w.heap.size) hb hl0 k3, below_cell (b := w.heap.size) hb hl0 k4⟩ : Below w1.heap.size w1 W ∧ W.cell? ⟨w.heap.size, 0, none⟩ = some (.slice fa P.fr.length fc) ∧ W.cell? ⟨w.heap.size, 1, none⟩ = some (.int .i64 P.a) ∧ W.cell? ⟨w.heap.size, 2, none⟩ = some (.slice pa P.ps.length pc) ∧ W.cell? ⟨w.heap.size, 3, none⟩ = some (.slice la P.L.length lc) ∧ W.cell? ⟨w.heap.size, 4, none⟩ = some (.slice va P.lv.length vc)))
    have IP := hidIt (fun W (h : Below w1.heap.size w1 W ∧ W.cell? ⟨w.heap.size, 0, none⟩ = some (.slice fa P.fr.length fc) ∧ W.cell? ⟨w.heap.size, 1, none⟩ = some (.int .i64 P.a) ∧ W.cell? ⟨w.heap.size, 2, none⟩ = some (.slice pa P.ps.length pc) ∧ W.cell? ⟨w.heap.size, 3, none⟩ = some (.slice la P.L.length lc) ∧ W.cell? ⟨w.heap.size, 4, none⟩ = some (.slice va P.lv.length vc)) => H.out.below (B1.out.trans (h.1.mono (by have := B1.out.size; omega))))
    have IA := hidIt (fun W (h : Below w1.heap.size w1 W ∧ W.cell? ⟨w.heap.size, 0, none⟩ = some (.slice fa P.fr.length fc) ∧ W.cell? ⟨w.heap.size, 1, none⟩ = some (.int .i64 P.a) ∧ W.cell? ⟨w.heap.size, 2, none⟩ = some (.slice pa P.ps.length pc) ∧ W.cell? ⟨w.heap.size, 3, none⟩ = some (.slice la P.L.length lc) ∧ W.cell? ⟨w.heap.size, 4, none⟩ = some (.slice va P.lv.length vc)) => (IP.out W h).ag)
    have PD := hidIt (fun W (h : Below w1.heap.size w1 W ∧ W.cell? ⟨w.heap.size, 0, none⟩ = some (.slice fa P.fr.length fc) ∧ W.cell? ⟨w.heap.size, 1, none⟩ = some (.int .i64 P.a) ∧ W.cell? ⟨w.heap.size, 2, none⟩ = some (.slice pa P.ps.length pc) ∧ W.cell? ⟨w.heap.size, 3, none⟩ = some (.slice la P.L.length lc) ∧ W.cell? ⟨w.heap.size, 4, none⟩ = some (.slice va P.lv.length vc)) => SO.out W.drew h.1.drew)
    have PA := hidIt (fun W o (h : Below w1.heap.size w1 W ∧ W.cell? ⟨w.heap.size, 0, none⟩ = some (.slice fa P.fr.length fc) ∧ W.cell? ⟨w.heap.size, 1, none⟩ = some (.int .i64 P.a) ∧ W.cell? ⟨w.heap.size, 2, none⟩ = some (.slice pa P.ps.length pc) ∧ W.cell? ⟨w.heap.size, 3, none⟩ = some (.slice la P.L.length lc) ∧ W.cell? ⟨w.heap.size, 4, none⟩ = some (.slice va P.lv.length vc)) => SO.out (W.alloc o) (bel_al h.1 o))
    have PG := hidIt (fun W Y (h : Below w1.heap.size w1 W ∧ W.cell? ⟨w.heap.size, 0, none⟩ = some (.slice fa P.fr.length fc) ∧ W.cell? ⟨w.heap.size, 1, none⟩ = some (.int .i64 P.a) ∧ W.cell? ⟨w.heap.size, 2, none⟩ = some (.slice pa P.ps.length pc) ∧ W.cell? ⟨w.heap.size, 3, none⟩ = some (.slice la P.L.length lc) ∧ W.cell? ⟨w.heap.size, 4, none⟩ = some (.slice va P.lv.length vc)) (k : Below W.heap.size W Y) => SO.out Y (bel_call h.1 k))
    have PS := hidIt (fun W b x0 x1 x2 x3 x4 (h : Below w1.heap.size w1 W ∧ W.cell? ⟨w.heap.size, 0, none⟩ = some (.slice fa P.fr.length fc) ∧ W.cell? ⟨w.heap.size, 1, none⟩ = some (.int .i64 P.a) ∧ W.cell? ⟨w.heap.size, 2, none⟩ = some (.slice pa P.ps.length pc) ∧ W.cell? ⟨w.heap.size, 3, none⟩ = some (.slice la P.L.length lc) ∧ W.cell? ⟨w.heap.size, 4, none⟩ = some (.slice va P.lv.length vc)) (hb : w1.heap.size ≤ b) => SO.out _ (bel_set5 (b := b) (o0 := 0) (o1 := 1) (o2 := 2) (o3 := 3) (o4 := 4) (x0 := x0) (x1 := x1) (x2 := x2) (x3 := x3) (x4 := x4) h.1 hb))
    clear k0 k1 k2 k3 k4
    have hS := SO.out w1 (Below.refl _ _)
    go_cut [5] from 12 to 16 (fun x5 wc => AlC w1 P x5 wc)
    case first =>
      go_region_held3 (fun W => Below w1.heap.size w1 W ∧ W.cell? ⟨w.heap.size, 0, none⟩ = some (.slice fa P.fr.length fc) ∧ W.cell? ⟨w.heap.size, 1, none⟩ = some (.int .i64 P.a) ∧ W.cell? ⟨w.heap.size, 2, none⟩ = some (.slice pa P.ps.length pc) ∧ W.cell? ⟨w.heap.size, 3, none⟩ = some (.slice la P.L.length lc) ∧ W.cell? ⟨w.heap.size, 4, none⟩ = some (.slice va P.lv.length vc))
        (first | ((repeat (first | (with_reducible assumption) | (with_reducible refine PD.out _ ?_) | (with_reducible refine PA.out _ _ ?_) | (with_reducible refine PS.out _ _ _ _ _ _ _ ?_ (Nat.le_refl _)) | (with_reducible refine PS.out _ _ _ _ _ _ _ ?_ hz15) | (with_reducible refine PG.out _ _ ?_ b16) | (with_reducible refine PG.out _ _ ?_ b15))); done))
        (first
        | (go_at_call 20; refine (impl_copyages _ P.a _ _ P.ps P.L (by omega) (by omega) (IA.out _ (by with_reducible assumption))).mono ?_; rintro e w15 ⟨p15, l15, rfl, ao15, b15⟩; have hz15 : w1.heap.size ≤ w15.heap.size := (by have := b15.size; simp at this; omega); have r15 := ao15.ar; obtain ⟨xa, xb, xc, xd, rfl, rfl, -⟩ := r15.form; first | have X15 := (Bx.new _ _ _).below b15 | have X15 := (Bx.new _ _ _).drew.below b15 | skip)
        | (go_at_call 19; refine (impl_withages _ _ _ _ _ P P.a xa xc P.ps.length xb P.L.length xd HF.out (IP.out _ (by with_reducible assumption))).mono ?_; rintro e w16 ⟨f16, v16, rfl, wa16, b16⟩; have WA16 := hidIt wa16; obtain ⟨a1', b1', a3', b3', g1', g2', g3', g4', g5', rf6, rv6⟩ := wa16; obtain ⟨fb, fd, rfl⟩ := rf6.form; obtain ⟨vb, vd, rfl⟩ := rv6.form; clear rf6 rv6 g1' g2' g3' g4' g5'; first | (have X16 := X15.below b16; have e0 := X16.2.1 0; have e1 := X16.2.1 1; have e2 := X16.2.1 2; have e3 := X16.2.1 3; have e4 := X16.2.1 4; have ef := X16.2.2; have hlX := X16.1; simp at e0 e1 e2 e3 e4; (try simp at hlX); (try simp at ef)) | (have X16 := (Bx.new _ _ _).below b16; have e0 := X16.2.1 0; have e1 := X16.2.1 1; have e2 := X16.2.1 2; have e3 := X16.2.1 3; have e4 := X16.2.1 4; have ef := X16.2.2; have hlX := X16.1; simp at e0 e1 e2 e3 e4; (try simp at hlX); (try simp at ef)) | skip))
      all_goals
        go_wp2_with fail
        go_meet
        first
          | with_reducible exact alc_a b15 r15 b16 WA16.out X16
          | with_reducible exact alc_b b15 r15 b16 WA16.out X16
          | with_reducible exact alc_c b15 r15 b16 WA16.out
    case rest =>
    rename World => w3
    clear SO IP IA PD PA PG PS hS
    obtain ⟨b5, f5, p5, l5, v5, lo1, hi1, lo2, hi2, rfl, X3, hb5, b3, h1, h2, h3, h4, h5, d1, d2, ar, wa⟩ := hcut
    have WA3 := hidIt wa
    obtain ⟨xa, xb, xc, xd, rfl, rfl, -⟩ := ar.form
    have AR3 := hidIt ar
    obtain ⟨a1', b1', a3', b3', g1', g2', g3', g4', g5', rf6, rv6⟩ := wa
    obtain ⟨fb, fd, rfl⟩ := rf6.form
    obtain ⟨vb, vd, rfl⟩ := rv6.form
    clear rf6 rv6 g1' g2' g3' g4' g5' ar
    have G0 := hidIt (H0.out.below b3)
    have G1 := hidIt (H1.out.below b3)
    have B3 := hidIt (bel_two B1.out b3)
    have X3 := hidIt X3
    have z3 := b3.size
    have zW1 := B1.out.size
    clear b3 H0 H1 B1
    have k0 := G0.out.2.1 0
    have k1 := G0.out.2.1 1
    have k2 := G0.out.2.1 2
    have k3 := G0.out.2.1 3
    have k4 := G0.out.2.1 4
    simp at k0 k1 k2 k3 k4
    have hl0 := G0.out.1
    have q0 := G1.out.2.1 0
    have q1 := G1.out.2.1 1
    have q2 := G1.out.2.1 2
    have q3 := G1.out.2.1 3
    have q4 := G1.out.2.1 4
    have qf := G1.out.2.2
    simp at q0 q1 q2 q3 q4
    have hl1' := G1.out.1
    have y0 := X3.out.2.1 0
    have y1 := X3.out.2.1 1
    have y2 := X3.out.2.1 2
    have y3 := X3.out.2.1 3
    have y4 := X3.out.2.1 4
    simp at y0 y1 y2 y3 y4
    have hl5 := X3.out.1
    obtain ⟨_ | ⟨x, fr⟩, PA, PS, LS, LV⟩ := P
    · have HN := hidIt (alloc_nil HOK.out)
      go_wp2
      exact bodyPost_ret (v := .tuple #[.agg #[.slice fb 0 fd, .int .i64 PA, .slice xa PS.length xb, .slice xc LS.length xd, .slice vb LV.length vd], .int .i64 0, .bool false]) (by simp [results, Try.results7, go_sem, q0, q1, q2, q3, q4]) rfl (by
        rw [HN.out.1, HN.out.2.1, HN.out.2.2]
        refine ⟨_, _, _, _, rfl, ?_, ?_⟩
        · exact (PlR.loc _ _ _ _ _ _ _ w3 _ (WA3.out.pl (AR3.out.wide (Nat.le_refl _) h3) (by omega) h4) (fun k k1 k2 => set5_heap k (by omega))).wide (by omega) (by simp; omega)
        · exact bel_set5 B3.out (by omega))
    · have HN := hidIt (alloc_yes HOK.out)
      obtain ⟨xb', xo, rfl, hxb, hx0⟩ := H.out.fr.head
      have HXW := hidIt (HWF.out.1 x (by simp))
      have hxc := (B3.out.cell (p := ⟨xb', xo, none⟩) hxb).trans hx0
      have hs1 := slice_one (some ⟨xb', xo, none⟩) fr.length fc
      have hnot : ¬ x ∈ LV := by
        intro hm
        obtain ⟨t, ht⟩ := (st_two HOK.out x).2 hm
        rw [st_free HOK.out x (by simp)] at ht
        simp at ht
      have HNOT := hidIt hnot
      have hmx : (x :: fr).length + LV.length + LS.length < maxLen := by unfold maxLen; simp only [List.length_cons] at hfit ⊢; omega
      have HMX := hidIt hmx
      clear q0 q1 q2 q3 q4 qf y0 y1 y2 y3 y4 hnot hmx hx0
      go_wp2_with fail
      clear k0 k1 k2 k3 k4 hxc
      refine (impl_standings w3 _ _ _ _ _ HF.out HWF.out (H.out.below B3.out)).mono ?_
      rintro e w4 ⟨bm, rfl, m4, hb4, b4⟩
      have z4 := b4.size
      have M4 := hidIt m4
      have B34 := hidIt b4
      clear m4 b4
      have hbm : bm < w4.heap.size := M4.out.lt
      go_wp2_with (first | (at_mapUpdate; refine wpList_put _ rfl rfl _ _ _ rfl bm _ _ rfl M4.out HMX.out x (2, 0) rfl rfl HXW.out ?_; intro w5 m5 g5; have b5x : Below w3.heap.size w3 w5 := bel_grown B34.out g5 (fun j hj => by cases hj; omega); have z5 := g5.size; have M5 := hidIt m5; have B35 := hidIt b5x; have k0 := (G0.out.below b5x).2.1 0; simp at k0; have hl0' := (G0.out.below b5x).1; clear g5 m5 b5x M4 B34) | fail)
      clear k0
      have B5 := hidIt (bel_two B3.out B35.out)
      refine (clone_in w5 _ fr (by simp only [List.length_cons] at hfit; omega) ((H.out.below B5.out).fr.rest HC.out)).mono ?_
      rintro e w6 ⟨v6, rfl, nw⟩
      obtain ⟨r6, b6⟩ := nw.row
      have z6 := b6.size
      have F6 := hidIt r6
      obtain ⟨ca, cc, rfl⟩ := r6.form
      have B6 := hidIt b6
      clear nw r6 b6
      go_wp2_with fail
      refine (impl_living w6 bm _ (updF (stF ⟨x :: fr, PA, PS, LS, LV⟩) x (2, 0)) (withL LV x) (with_rises (plOk_parts HOK.out).2.2.1 HNOT.out) (by have := with_len LV x; simp only [List.length_cons] at hfit; omega) (with_live HOK.out x) (M5.out.below B6.out)).mono ?_
      rintro e w7 ⟨v7, rfl, ho7, b7⟩
      have z7 := b7.size
      have Q7 := hidIt (Row.of_owns ho7)
      obtain ⟨qa, qc, rfl⟩ := own_form ho7
      have B37 := hidIt (bel_call (bel_call B35.out B6.out) b7)
      have F7 := hidIt (F6.out.below b7)
      have X7 := hidIt (X3.out.below B37.out)
      have J7 := hidIt (G1.out.below B37.out)
      have B7 := hidIt (bel_two B3.out B37.out)
      have A7 := hidIt (AR3.out.below (B37.out.mono (by omega)))
      clear b7 ho7 F6 X3 G1 AR3 WA3 M5 B6 B35 B5
      have y0 := X7.out.2.1 0
      have y1 := X7.out.2.1 1
      have y2 := X7.out.2.1 2
      have y3 := X7.out.2.1 3
      have y4 := X7.out.2.1 4
      have yf := X7.out.2.2
      have q0 := J7.out.2.1 0
      have q1 := J7.out.2.1 1
      have q2 := J7.out.2.1 2
      have q3 := J7.out.2.1 3
      have q4 := J7.out.2.1 4
      have qf := J7.out.2.2
      simp at y0 y1 y2 y3 y4 q0 q1 q2 q3 q4
      have hly := X7.out.1
      have hlq := J7.out.1
      have hne : b5 ≠ w.heap.size + 1 := by omega
      have hne2 : w.heap.size + 1 ≠ b5 := by omega
      go_wp2
      have E : ∀ k, k ≠ w.heap.size + 1 → k ≠ b5 → (((((((w7.setCell ⟨b5, 0, none⟩ (.slice ca fr.length cc)).setCell ⟨b5, 4, none⟩ (.slice qa (withL LV x).length qc)).setCell ⟨w.heap.size + 1, 0, none⟩ (.slice ca fr.length cc)).setCell ⟨w.heap.size + 1, 1, none⟩ (.int .i64 PA)).setCell ⟨w.heap.size + 1, 2, none⟩ (.slice xa PS.length xb)).setCell ⟨w.heap.size + 1, 3, none⟩ (.slice xc LS.length xd)).setCell ⟨w.heap.size + 1, 4, none⟩ (.slice qa (withL LV x).length qc)).heap[k]? = w7.heap[k]? := fun k h1 h2 => (set5_heap k h1).trans ((Below.heap_setCell _ _ _ _ h2).trans (Below.heap_setCell _ _ _ _ h2))
      refine bodyPost_ret (v := .tuple #[.agg #[.slice ca fr.length cc, .int .i64 PA, .slice xa PS.length xb, .slice xc LS.length xd, .slice qa (withL LV x).length qc], .int .i64 x, .bool true]) (by simp [results, Try.results7, go_sem, q0, q1, q2, q3, q4]) rfl (by
        rw [HN.out.1, HN.out.2.1, HN.out.2.2]
        refine ⟨_, _, _, _, rfl, ⟨w5.heap.size, w6.heap.size, lo1, hi1, w6.heap.size, w7.heap.size, ⟨by omega, by simp; omega, by omega, by simp; omega, by omega, by simp, by omega, by omega, by omega⟩, ?_, ?_, ?_⟩, bel_set5 ((B7.out.setCell (by simp; omega) _).setCell (by simp; omega) _) (by omega)⟩
        · exact Row.loc _ _ _ _ w7 _ F7.out (fun k k1 k2 => E k (by omega) (by omega))
        · exact AR.loc _ _ _ _ _ _ w7 _ A7.out (fun k k1 k2 => E k (by omega) (by omega))
        · exact Row.loc _ _ _ _ w7 _ Q7.out (fun k k1 k2 => E k (by omega) (by omega)))

end Go.Proofs.Ytikliofkplbdpaa

namespace Go.Proofs.Ytikliofkplbdpaa
open Go.ChangeShapes Go.WideShapes Go.ChangeAt Go.RowKit
set_option linter.unusedVariables false

def CapIn (v : Value) : Prop := ∃ a n c, v = .slice a n c ∧ n ≤ c
set_option maxHeartbeats 800000 in
set_option maxRecDepth 100000 in
theorem to_intsC_some (b off c : Nat) (xs : List Int) (w : World) (hn : xs.length ≤ 4194304) (h0 : 0 < xs.length) (hb : b < w.heap.size)
    (hA : ∀ j (hj : j < xs.length), w.cell? ⟨b, off + j, none⟩ = some (.int .i64 xs[j])) :
    Calls Try.prog 16 #[.slice (some ⟨b, off, none⟩) xs.length c] w fun e w' => ∃ v', e = .returned v' ∧ CapIn v' ∧ IntsNew w w' v' xs := by
  obtain ⟨i0, hi, hz0, hz1, hz2⟩ := info_parts info3
  have HA : Hid _ := hA
  clear hA
  go_enter Try.func16, Try.ntmps16
  go_wp2_with (at_make; refine wpList_make_full _ rfl _ _ 22 rfl w.heap.size 3 i0 (.int .i64 0) 1 Try.underlying22 hi hz0 hz1 .i64 .i64 _ _ xs.length rfl rfl rfl rfl (by rw [hz2]; omega) (by unfold maxLen; omega) (Nat.le_refl _) ?_; intro w1 hown hgrow)
  have hb1 : Below w.heap.size w w1 := (Below.refl _ _).grown hgrow (Nat.le_refl _) (fun k hk => by cases hk)
  have hgz : w.heap.size < w1.heap.size ∧ (∀ j, j < xs.length → ∃ x, w1.cell? ⟨w.heap.size, j, none⟩ = some x) ∧ ∀ j, w1.frozen? ⟨w.heap.size, j, none⟩ = false := by
    rcases own_cells hown with ⟨h, _⟩ | ⟨g, cap, hv, h1, h2, h3, h4, h5, h6, h7⟩
    · cases h
    · simp at hv
      obtain ⟨rfl, _⟩ := hv
      refine ⟨h2, fun j hj => ?_, h7⟩
      have hl : j < (madeCells (Value.int .i64 0).cells (xs.length * 1)).toList.length := by omega
      exact ⟨_, h6 j hl⟩
  clear hown hgrow
  obtain ⟨hgs, hg1, hg2⟩ := hgz
  have HG : Hid _ := hg1
  have HF : Hid _ := hg2
  clear hg1 hg2
  go_wp2
  go_loopw [4] (fun i wr => ∃ k : Nat, k ≤ xs.length ∧ i = .int .i64 k ∧ w.heap.size < wr.heap.size ∧ Below w.heap.size w wr ∧ Hid ((∀ j (hj : j < xs.length), j < k → wr.cell? ⟨w.heap.size, j, none⟩ = some (.int .i64 xs[j])) ∧ (∀ j, k ≤ j → j < xs.length → ∃ x, wr.cell? ⟨w.heap.size, j, none⟩ = some x) ∧ ∀ j, wr.frozen? ⟨w.heap.size, j, none⟩ = false)) (fun i _ => xs.length - (intOf i).toNat)
  case atStart => exact ⟨0, Nat.zero_le _, rfl, hgs, hb1, ⟨fun j _ hj => by omega, fun j _ hj => HG.out j hj, HF.out⟩⟩
  case round =>
    obtain ⟨k, hk, rfl, hgr, hbw, HS⟩ := hrel
    by_cases hlt : k < xs.length
    · obtain ⟨x, hx⟩ := HS.out.2.1 k (Nat.le_refl _) hlt
      have hz := HS.out.2.2 k
      have hlt' : (k : Int) < (xs.length : Int) := by omega
      have hr := (hbw.cell (p := ⟨b, off + k, none⟩) hb).trans (HA.out k hlt)
      obtain ⟨y, hy⟩ : ∃ y, xs[k] = y := ⟨_, rfl⟩
      rw [hy] at hr
      have HY : Hid _ := hy
      clear hy
      go_wp2
      go_roundw
      case rel =>
        refine ⟨k + 1, by omega, by go_num, by simp; omega, hbw.setCell (Nat.le_refl _) _, ⟨fun j hj hjk => ?_, fun j hj1 hj2 => ?_, fun j => ?_⟩⟩
        · by_cases ej : j = k
          · subst ej; refine (World.cell?_setCell_same _ _ _ hx).trans ?_; rw [HY.out]
          · rw [World.cell?_setCell_other _ _ _ _ (by simp <;> omega)]; exact HS.out.1 j hj (by omega)
        · rw [World.cell?_setCell_other _ _ _ _ (by simp <;> omega)]; exact HS.out.2.1 j (by omega) hj2
        · rw [World.frozen?_setCell]; exact HS.out.2.2 j
      case measure => simp [intOf]; omega
    · go_wp2
      go_ret
      exact ⟨.slice (some ⟨w.heap.size, 0, none⟩) xs.length xs.length, rfl, ⟨_, _, _, rfl, Nat.le_refl _⟩, [w.heap.size], ⟨_, xs.length, rfl, trivial, .inr ⟨w.heap.size, rfl, rfl, hgr, fun j hj => HS.out.1 j hj (by omega), HS.out.2.2⟩⟩, by simp, by simp, hbw⟩
theorem to_intsC_zero (a : Option Addr) (c : Nat) (w : World) :
    Calls Try.prog 16 #[.slice a 0 c] w fun e w' => ∃ v', e = .returned v' ∧ CapIn v' ∧ IntsNew w w' v' [] := by
  obtain ⟨i0, hi, hz0, hz1, hz2⟩ := info_parts info3
  go_enter Try.func16, Try.ntmps16
  go_wp2_with (at_make; refine wpList_make_full _ rfl _ _ 22 rfl w.heap.size 3 i0 (.int .i64 0) 1 Try.underlying22 hi hz0 hz1 .i64 .i64 _ _ 0 rfl rfl rfl rfl (by omega) (by unfold maxLen; omega) (Nat.le_refl _) ?_; intro w1 hown hgrow)
  have hb1 : Below w.heap.size w w1 := (Below.refl _ _).grown hgrow (Nat.le_refl _) (fun k hk => by cases hk)
  clear hown hgrow
  go_wp2
  go_loop [4] (fun i => i = .int .i64 0) (fun _ => 0)
  case atStart => rfl
  case round =>
    subst hrel
    go_wp2
    go_ret
    exact ⟨.slice (some ⟨w.heap.size, 0, none⟩) 0 0, rfl, ⟨_, _, _, rfl, Nat.le_refl _⟩, [], ⟨_, 0, rfl, trivial, .inl ⟨rfl, rfl⟩⟩, by simp, by simp, hb1⟩
theorem to_intsC (w : World) (v : Value) (xs : List Int) (hn : xs.length ≤ 4194304) (h : IntsIn w v xs) :
    Calls Try.prog 16 #[v] w fun e w' => ∃ v', e = .returned v' ∧ CapIn v' ∧ IntsNew w w' v' xs := by
  obtain ⟨⟨a, cap, rfl, h⟩, -⟩ := h
  by_cases h0 : 0 < xs.length
  · rcases h with rfl | ⟨b, off, rfl, h1, h2⟩
    · exact absurd h0 (by simp)
    · exact to_intsC_some b off cap xs w hn h0 h1 h2
  · obtain rfl := len_zero h0
    exact to_intsC_zero _ cap w

end Go.Proofs.Ytikliofkplbdpaa

namespace Go.Proofs.Ytikliofkplbdpaa
open Go.ChangeShapes Go.WideShapes Go.ChangeAt Go.RowKit
set_option linter.unusedVariables false

theorem capIn_len {a : Option Addr} {n c : Nat} (h : CapIn (.slice a n c)) : n ≤ c := by
  obtain ⟨a', n', c', e, h⟩ := h
  simp at e
  obtain ⟨-, rfl, rfl⟩ := e
  exact h
theorem to_intC (w : World) (v : Value) (xs : List Int) (hn : xs.length ≤ 4194304) (h : IntsIn w v xs) :
    Calls Try.prog 16 #[v] w fun e w' => ∃ v', e = .returned v' ∧ CapIn v' ∧ Row w' w.heap.size w'.heap.size v' (ints xs) ∧ Below w.heap.size w w' :=
  (to_intsC w v xs hn h).mono fun _ _ ⟨v', e, hc, nw⟩ => ⟨v', e, hc, nw.row.1, nw.row.2⟩
set_option maxHeartbeats 1600000 in
set_option maxRecDepth 100000 in
theorem to_poolC (w : World) (f p l v : Value) (P : Pl) (hf : PlFit P) (h : PlIn w f p l v P) :
    Calls Try.prog 6 #[.agg #[f, .int .i64 P.a, p, l, v]] w fun e w' => ∃ fa fk p' l' v', e = .returned (.agg #[.slice fa P.fr.length fk, .int .i64 P.a, p', l', v']) ∧ P.fr.length ≤ fk ∧ PlR w.heap.size w'.heap.size (.slice fa P.fr.length fk) p' l' v' P w' ∧ Below w.heap.size w w' := by
  have H := hidIt h
  unfold PlFit at hf
  obtain ⟨fa, fc, pa, pc, la, lc, va, vc, rfl, rfl, rfl, rfl⟩ := h.form
  clear h
  go_enter Try.func6, Try.ntmps6
  go_wp2_with fail
  generalize hW : World.alloc (World.alloc (World.alloc w _) _) _ = W0
  have X := bx3 w #[.slice fa P.fr.length fc, .int .i64 P.a, .slice pa P.ps.length pc, .slice la P.L.length lc, .slice va P.lv.length vc] #[.slice none 0 0, .int .i64 0, .slice none 0 0, .slice none 0 0, .slice none 0 0] #[.slice none 0 0, .int .i64 0, .slice none 0 0, .slice none 0 0, .slice none 0 0] 27 33 33
  rw [hW] at X
  clear hW
  obtain ⟨X0, X1, X2, bW, zW⟩ := X
  refine (to_intC W0 _ P.fr (by omega) (H.out.fr.below bW)).mono ?_
  rintro e w1 ⟨f1, rfl, kc, r1, b1⟩
  have z1 := b1.size
  have R1 := hidIt r1
  obtain ⟨a1, c1, rfl⟩ := r1.form
  have KC := hidIt (capIn_len kc)
  clear kc
  clear r1
  have Y := hidIt (And.intro (X0.below b1) (And.intro (X1.below b1) (And.intro (X2.below b1) (below_step bW (b1.mono (by omega))))))
  clear X0 X1 X2 b1 bW
  have y1 := Y.out.1.2.1 1
  have y2 := Y.out.1.2.1 2
  have y3 := Y.out.1.2.1 3
  have k2 := Y.out.2.2.1.2.1 0
  have q2' := Y.out.2.2.1.2.2
  simp at y1 y2 y3 k2
  go_wp2_with fail
  clear y1 y2 y3 k2 q2'
  generalize hW : World.setCell w1 _ _ = W1
  have Z : Bx W1 w.heap.size #[.slice fa P.fr.length fc, .int .i64 P.a, .slice pa P.ps.length pc, .slice la P.L.length lc, .slice va P.lv.length vc] ∧ Bx W1 (w.heap.size + 1) #[.slice none 0 0, .int .i64 0, .slice none 0 0, .slice none 0 0, .slice none 0 0] ∧ Bx W1 (w.heap.size + 1 + 1) #[.slice a1 P.fr.length c1, .int .i64 0, .slice none 0 0, .slice none 0 0, .slice none 0 0] ∧ Below w.heap.size w W1 ∧ W1.heap.size = w1.heap.size ∧ Row W1 W0.heap.size W1.heap.size (.slice a1 P.fr.length c1) (ints P.fr) := by
    rw [← hW]
    obtain ⟨y0, y1, y2, y3⟩ := Y.out
    exact ⟨y0.other _ (by omega), y1.other _ (by omega), y2.set _ (by simp), y3.setCell (by simp <;> omega) _, by simp, (R1.out.set_below _ _ (by simp; omega)).wide (Nat.le_refl _) (by simp)⟩
  clear hW Y R1
  obtain ⟨X0, X1, X2, bW, zW1, r1⟩ := Z
  refine (to_ages W1 P.a _ _ P.ps P.L (by omega) (by omega) (H.out.ag.below bW)).mono ?_
  rintro e w2 ⟨p2, l2, rfl, r2, b2⟩
  have z2 := b2.size
  have R1 := hidIt (r1.below (b2.mono (by omega)))
  have R2 := hidIt r2
  obtain ⟨pa2, pc2, la2, lc2, rfl, rfl, -⟩ := r2.form
  clear r1 r2
  have Y := hidIt (And.intro (X0.below b2) (And.intro (X1.below b2) (And.intro (X2.below b2) (below_step bW (b2.mono (by omega))))))
  clear X0 X1 X2 b2 bW
  have y4 := Y.out.1.2.1 4
  have k0 := Y.out.2.2.1.2.1 0
  have k1 := Y.out.2.2.1.2.1 1
  have k2 := Y.out.2.2.1.2.1 2
  have k3 := Y.out.2.2.1.2.1 3
  have q2' := Y.out.2.2.1.2.2
  simp at y4 k0 k1 k2 k3
  go_wp2_with fail
  clear y4 k0 k1 k2 k3 q2'
  generalize hW : World.setCell _ _ (Value.slice la2 P.L.length lc2) = W2
  have Z : Bx W2 (w.heap.size + 1) #[.slice none 0 0, .int .i64 0, .slice none 0 0, .slice none 0 0, .slice none 0 0] ∧ Bx W2 (w.heap.size + 1 + 1) #[.slice a1 P.fr.length c1, .int .i64 P.a, .slice pa2 P.ps.length pc2, .slice la2 P.L.length lc2, .slice none 0 0] ∧ Below w.heap.size w W2 ∧ W2.heap.size = w2.heap.size ∧ Row W2 W0.heap.size W1.heap.size (.slice a1 P.fr.length c1) (ints P.fr) ∧ AR W1.heap.size W2.heap.size (.slice pa2 P.ps.length pc2) (.slice la2 P.L.length lc2) P.ps P.L W2 := by
    rw [← hW]
    obtain ⟨y0, y1, y2, y3⟩ := Y.out
    refine ⟨((y1.other _ (by omega)).other _ (by omega)).other _ (by omega), ((y2.set _ (by simp)).set _ (by simp)).set _ (by simp), ((y3.setCell (by simp <;> omega) _).setCell (by simp <;> omega) _).setCell (by simp <;> omega) _, by simp, ((R1.out.set_below _ _ (by simp; omega)).set_below _ _ (by simp; omega)).set_below _ _ (by simp; omega), ?_⟩
    have hk : ∀ k, W1.heap.size ≤ k → (((w2.setCell ⟨w.heap.size + 1 + 1, 1, none⟩ (.int .i64 P.a)).setCell ⟨w.heap.size + 1 + 1, 2, none⟩ (.slice pa2 P.ps.length pc2)).setCell ⟨w.heap.size + 1 + 1, 3, none⟩ (.slice la2 P.L.length lc2)).heap[k]? = w2.heap[k]? := fun k hk => ((Below.heap_setCell _ _ _ _ (by show k ≠ w.heap.size + 1 + 1; omega)).trans (Below.heap_setCell _ _ _ _ (by show k ≠ w.heap.size + 1 + 1; omega))).trans (Below.heap_setCell _ _ _ _ (by show k ≠ w.heap.size + 1 + 1; omega))
    exact (AR.loc _ _ _ _ _ _ _ _ R2.out (fun k k1 _ => hk k k1)).wide (Nat.le_refl _) (by simp)
  clear hW Y R1 R2
  obtain ⟨X1, X2, bW, zW2, r1, r2⟩ := Z
  refine (to_int W2 _ P.lv (by omega) (H.out.lv.below bW).1).mono ?_
  rintro e w3 ⟨v3, rfl, r3, b3⟩
  have z3 := b3.size
  have R1 := hidIt (r1.below (b3.mono (by omega)))
  have R2 := hidIt (r2.below (b3.mono (by omega)))
  have R3 := hidIt r3
  obtain ⟨a3, c3, rfl⟩ := r3.form
  clear r1 r2 r3
  have Y := hidIt (And.intro (X1.below b3) (And.intro (X2.below b3) (below_step bW (b3.mono (by omega)))))
  clear X1 X2 b3 bW
  have m0 := Y.out.1.2.1 0
  have m1 := Y.out.1.2.1 1
  have m2 := Y.out.1.2.1 2
  have m3 := Y.out.1.2.1 3
  have m4 := Y.out.1.2.1 4
  have q1' := Y.out.1.2.2
  have k0 := Y.out.2.1.2.1 0
  have k1 := Y.out.2.1.2.1 1
  have k2 := Y.out.2.1.2.1 2
  have k3 := Y.out.2.1.2.1 3
  have k4 := Y.out.2.1.2.1 4
  have q2' := Y.out.2.1.2.2
  simp at m0 m1 m2 m3 m4 k0 k1 k2 k3 k4
  go_wp2
  refine bodyPost_ret (v := .agg #[.slice a1 P.fr.length c1, .int .i64 P.a, .slice pa2 P.ps.length pc2, .slice la2 P.L.length lc2, .slice a3 P.lv.length c3]) (by simp [results, Try.results6, go_sem, m0, m1, m2, m3, m4]) rfl ⟨_, _, _, _, _, rfl, KC.out, ?_, ?_⟩
  · refine PlR.wide (lo := W0.heap.size) (hi := w3.heap.size) ((((((PlR.set_low (lo := W0.heap.size) (hi := w3.heap.size) (W := w3) ⟨W0.heap.size, W1.heap.size, W1.heap.size, W2.heap.size, W2.heap.size, w3.heap.size, ⟨by omega, by omega, by omega, by omega, by omega, by omega, .inl (Nat.le_refl _), .inl (by omega), .inl (Nat.le_refl _)⟩, R1.out, R2.out, R3.out⟩ (by omega)).set_low (by omega)).set_low (by omega)).set_low (by omega)).set_low (by omega)).set_low (by omega)) (by omega) (by simp)
  · have y3 := Y.out.2.2
    exact ((((((y3.setCell (by simp <;> omega) _).setCell (by simp <;> omega) _).setCell (by simp <;> omega) _).setCell (by simp <;> omega) _).setCell (by simp <;> omega) _).setCell (by simp <;> omega) _)

end Go.Proofs.Ytikliofkplbdpaa

namespace Go.Proofs.Ytikliofkplbdpaa
open Go.ChangeShapes Go.WideShapes Go.ChangeAt Go.RowKit
set_option linter.unusedVariables false

theorem alloc_both_here : True := trivial

end Go.Proofs.Ytikliofkplbdpaa

namespace Go.Proofs.Ytikliofkplbdpaa
open Go.ChangeShapes Go.WideShapes Go.ChangeAt Go.RowKit
set_option linter.unusedVariables false

set_option maxHeartbeats 3200000 in
set_option maxRecDepth 100000 in
theorem walk_Alloc (P : Pl) (f p l v : Value) (w : World) (r0 : PlIn w f p l v P) (n0 : P.fr.length ≤ maxLen) (n1 : P.ps.length ≤ maxLen) (n2 : P.L.length ≤ maxLen) (n3 : P.lv.length ≤ maxLen) (hwf : PlWf P) :
    Calls Try.prog 3 #[.agg #[f, .int .i64 P.a, p, l, v]] w fun e w' => e = .returned (.bool true) ∧ Below w.heap.size w w' := by
  have RI := hidIt r0
  obtain ⟨xaa, xka, xba, xla, xca, xma, xda, xna, rfl, rfl, rfl, rfl⟩ := r0.form
  clear r0
  unfold maxLen at n0 n1 n2 n3
  by_cases hs : P.fr.length + P.ps.length + P.L.length + P.lv.length ≤ 1048576
  · have HF : Hid (PlFit P) := hidIt (show PlFit P from hs)
    have HS := hidIt (fun f p l v W (hA : PlIn W f p l v P) => spec_alloc W f p l v P hs hA)
    have HI := hidIt (fun fa fk p l v W (hc : P.fr.length ≤ fk) (hA : PlIn W (.slice fa P.fr.length fk) p l v P) => impl_alloc W fa fk p l v P hs hwf hc hA)
    have HG : Hid (PlFit (plAlloc P)) := hidIt (fit_alloc P hs)
    generalize plAlloc P = P' at HS HI HG
    generalize plAllocN P = S1 at HS HI
    generalize plAllocB P = S2 at HS HI
    have s0 := hidIt ((Sv.start w).box5 (.slice xaa P.fr.length xka) (.int .i64 P.a) (.slice xba P.ps.length xla) (.slice xca P.L.length xma) (.slice xda P.lv.length xna) 27)
    go_enter Try.func3, Try.ntmps3
    go_wp2_with fail
    refine (sz_pool P.a _ _ _ _ P.fr.length _ P.ps.length _ P.L.length _ P.lv.length _ _ (by omega) (by omega) (by omega) (by omega)).mono ?_
    rintro e w1 ⟨⟨z, rfl, hz, -⟩, b1⟩
    have hz0 := hz hs
    clear hz
    have s1 := hidIt (s0.out.grow b1)
    have z1 := b1.size
    (try simp at z1)
    obtain ⟨c10, c11, c12, c13, c14⟩ := s1.out.get5 (b := w.heap.size) (x0 := (.slice xaa P.fr.length xka)) (x1 := (.int .i64 P.a)) (x2 := (.slice xba P.ps.length xla)) (x3 := (.slice xca P.L.length xma)) (x4 := (.slice xda P.lv.length xna)) (by simp) (by simp) (by simp) (by simp) (by simp)
    clear b1 s0
    go_wp2_with fail
    clear hz0 c10 c11 c12 c13 c14
    refine (to_pool _ _ _ _ _ P HF.out (RI.out.below s1.out.below)).mono ?_
    rintro e w2 ⟨f2, p2, l2, v2, rfl, r2, b2⟩
    have s2 := hidIt (s1.out.grow b2)
    have z2 := b2.size
    have R2 := hidIt (r2.toQ.pin (Nat.le_refl _))
    obtain ⟨xa2, xk2, xb2, xl2, xc2, xm2, xd2, xn2, rfl, rfl, rfl, rfl⟩ := r2.form
    clear r2 b2 s1
    go_wp2_with fail
    refine (HS.out _ _ _ _ _ R2.out).mono ?_
    rintro e w3 ⟨f3, p3, l3, v3, rfl, r3, b3⟩
    have s3 := hidIt ((s2.out.grow b3).row (Nat.le_refl _) (PlQ.loc _ _ _ _ _ _ _) r3)
    obtain ⟨xa3, xk3, xb3, xl3, xc3, xm3, xd3, xn3, rfl, rfl, rfl, rfl⟩ := r3.form
    have z3 := b3.size
    clear r3 b3 s2 R2
    have t3 := hidIt (s3.out.box5 (.slice xa3 P'.fr.length xk3) (.int .i64 P'.a) (.slice xb3 P'.ps.length xl3) (.slice xc3 P'.L.length xm3) (.slice xd3 P'.lv.length xn3) 33)
    obtain ⟨c30, c31, c32, c33, c34⟩ := t3.out.get5 (b := w.heap.size) (x0 := (.slice xaa P.fr.length xka)) (x1 := (.int .i64 P.a)) (x2 := (.slice xba P.ps.length xla)) (x3 := (.slice xca P.L.length xma)) (x4 := (.slice xda P.lv.length xna)) (by simp) (by simp) (by simp) (by simp) (by simp)
    go_wp2_with fail
    clear c30 c31 c32 c33 c34
    refine (to_poolC _ _ _ _ _ P HF.out (RI.out.below t3.out.below)).mono ?_
    rintro e w4 ⟨xa4, xk4, p4, l4, v4, rfl, kc4, r4, b4⟩
    have KC4 := hidIt kc4
    clear kc4
    have s4 := hidIt ((t3.out.grow b4).row (Nat.le_refl _) (PlR.loc _ _ _ _ _ _ _) r4)
    obtain ⟨-, -, xb4, xl4, xc4, xm4, xd4, xn4, -, rfl, rfl, rfl⟩ := r4.form
    have z4 := b4.size
    (try simp at z4)
    clear r4 b4 t3 s3
    have t4 := hidIt (s4.out.box5 (.slice xa4 P.fr.length xk4) (.int .i64 P.a) (.slice xb4 P.ps.length xl4) (.slice xc4 P.L.length xm4) (.slice xd4 P.lv.length xn4) 33)
    go_wp2_with fail
    refine (HI.out _ _ _ _ _ _ KC4.out ((t4.out.at (.head _)).2.toQ.pin (t4.out.at (.head _)).1)).mono ?_
    rintro e w5 ⟨f5, p5, l5, v5, rfl, r5, b5⟩
    have s5 := hidIt ((t4.out.grow b5).row (Nat.le_refl _) (PlR.loc _ _ _ _ _ _ _) r5)
    obtain ⟨xa5, xk5, xb5, xl5, xc5, xm5, xd5, xn5, rfl, rfl, rfl, rfl⟩ := r5.form
    have z5 := b5.size
    (try simp at z5)
    clear r5 b5 t4 s4
    have t5 := hidIt (s5.out.box5 (.slice xa5 P'.fr.length xk5) (.int .i64 P'.a) (.slice xb5 P'.ps.length xl5) (.slice xc5 P'.L.length xm5) (.slice xd5 P'.lv.length xn5) 33)
    obtain ⟨c50, c51, c52, c53, c54⟩ := t5.out.get5 (b := w3.heap.size) (x0 := (.slice xa3 P'.fr.length xk3)) (x1 := (.int .i64 P'.a)) (x2 := (.slice xb3 P'.ps.length xl3)) (x3 := (.slice xc3 P'.L.length xm3)) (x4 := (.slice xd3 P'.lv.length xn3)) (by simp) (by simp) (by simp) (by simp) (by simp)
    go_wp2_with fail
    clear c50 c51 c52 c53 c54 s5
    refine (eq_pool _ _ _ _ _ _ _ _ _ _ _ _ _ P' HG.out (t5.out.at (.head _)).1 (t5.out.at (.tail _ (.tail _ (.head _)))).1 (t5.out.at (.head _)).2.toQ (t5.out.at (.tail _ (.tail _ (.head _)))).2).mono ?_
    rintro e w6 ⟨rfl, b6⟩
    have s6 := hidIt (t5.out.grow b6)
    have z6 := b6.size
    (try simp at z6)
    clear b6 t5
    go_wp2_with fail
    obtain ⟨PP, p0, pd, pg, ps'⟩ := s6.out.pack
    have PD := hidIt pd
    have PG := hidIt pg
    have PS := hidIt ps'
    have PC := hidIt (fun W (h : PP W) => (⟨(ps' W h).get (by simp), (ps' W h).get (by simp), (ps' W h).get (by simp), (ps' W h).get (by simp), (ps' W h).get (by simp), (ps' W h).get (by simp), (ps' W h).get (by simp), (ps' W h).get (by simp), (ps' W h).get (by simp), (ps' W h).get (by simp)⟩ : W.cell? ⟨w.heap.size, 0, none⟩ = some (.slice xaa P.fr.length xka) ∧ W.cell? ⟨w.heap.size, 1, none⟩ = some (.int .i64 P.a) ∧ W.cell? ⟨w.heap.size, 2, none⟩ = some (.slice xba P.ps.length xla) ∧ W.cell? ⟨w.heap.size, 3, none⟩ = some (.slice xca P.L.length xma) ∧ W.cell? ⟨w.heap.size, 4, none⟩ = some (.slice xda P.lv.length xna) ∧ W.cell? ⟨w4.heap.size, 0, none⟩ = some (.slice xa4 P.fr.length xk4) ∧ W.cell? ⟨w4.heap.size, 1, none⟩ = some (.int .i64 P.a) ∧ W.cell? ⟨w4.heap.size, 2, none⟩ = some (.slice xb4 P.ps.length xl4) ∧ W.cell? ⟨w4.heap.size, 3, none⟩ = some (.slice xc4 P.L.length xm4) ∧ W.cell? ⟨w4.heap.size, 4, none⟩ = some (.slice xd4 P.lv.length xn4)))
    have h6 := and_mk PC.out p0
    clear pd pg ps' p0 s6
    go_region_held3 (fun W => PP W ∧ W.cell? ⟨w.heap.size, 0, none⟩ = some (.slice xaa P.fr.length xka) ∧ W.cell? ⟨w.heap.size, 1, none⟩ = some (.int .i64 P.a) ∧ W.cell? ⟨w.heap.size, 2, none⟩ = some (.slice xba P.ps.length xla) ∧ W.cell? ⟨w.heap.size, 3, none⟩ = some (.slice xca P.L.length xma) ∧ W.cell? ⟨w.heap.size, 4, none⟩ = some (.slice xda P.lv.length xna) ∧ W.cell? ⟨w4.heap.size, 0, none⟩ = some (.slice xa4 P.fr.length xk4) ∧ W.cell? ⟨w4.heap.size, 1, none⟩ = some (.int .i64 P.a) ∧ W.cell? ⟨w4.heap.size, 2, none⟩ = some (.slice xb4 P.ps.length xl4) ∧ W.cell? ⟨w4.heap.size, 3, none⟩ = some (.slice xc4 P.L.length xm4) ∧ W.cell? ⟨w4.heap.size, 4, none⟩ = some (.slice xd4 P.lv.length xn4))
      (first | exact and_mk PC.out (PD.out _ (And.left (by assumption))) | exact and_mk PC.out (PG.out _ _ (And.left (by assumption)) (by assumption)))
      (first | (go_at_call 6; refine (to_pool _ _ _ _ _ P HF.out (RI.out.below (PS.out _ (And.left (by assumption))).below)).mono ?_; rintro e wa ⟨fa', pa', la', va', rfl, ra, ba⟩; obtain ⟨xa7, xk7, xb7, xl7, xc7, xm7, xd7, xn7, rfl, rfl, rfl, rfl⟩ := ra.form) | (go_at_call 8; refine (eq_pool _ _ _ _ _ _ _ _ _ _ _ _ _ P HF.out ((PS.out _ (And.left (by assumption))).at (.tail _ (.head _))).1 (Nat.le_refl _) ((PS.out _ (And.left (by assumption))).at (.tail _ (.head _))).2.toQ ra.toQ).mono ?_; rintro e w7 ⟨rfl, b7⟩))
    rename_i h7
    have s7 := hidIt ((PS.out _ h7.1).front1)
    have z7 : w6.heap.size ≤ w7.heap.size := by have := b7.size; have := ba.size; simp at *; omega
    clear PD PG PC PS h6 h7 ra ba b7
    obtain ⟨c70, c71, c72, c73, c74⟩ := s7.out.get5 (b := w4.heap.size) (x0 := (.slice xa4 P.fr.length xk4)) (x1 := (.int .i64 P.a)) (x2 := (.slice xb4 P.ps.length xl4)) (x3 := (.slice xc4 P.L.length xm4)) (x4 := (.slice xd4 P.lv.length xn4)) (by simp) (by simp) (by simp) (by simp) (by simp)
    go_wp2_with fail
    clear c70 c71 c72 c73 c74
    refine (mark_pool _ _ _ _ _ _ _ P 1 HF.out (by omega) (s7.out.at (.head _)).1 (s7.out.at (.head _)).2).mono ?_
    rintro e w8 ⟨rfl, r8, o8⟩
    have s8 := hidIt (s7.out.mark1 o8 (PlM.loc _ _ _ _ _ _ _ _ _ _ _) r8 (by first | omega | (simp; done) | (simp; omega)) (by first | omega | (simp; done) | (simp; omega)) (by first | omega | (simp; done) | (simp; omega)))
    have z8 := o8.size
    clear r8 o8 s7
    obtain ⟨c80, c81, c82, c83, c84⟩ := s8.out.get5 (b := w5.heap.size) (x0 := (.slice xa5 P'.fr.length xk5)) (x1 := (.int .i64 P'.a)) (x2 := (.slice xb5 P'.ps.length xl5)) (x3 := (.slice xc5 P'.L.length xm5)) (x4 := (.slice xd5 P'.lv.length xn5)) (by simp) (by simp) (by simp) (by simp) (by simp)
    obtain ⟨d80, d81, d82, d83, d84⟩ := s8.out.get5 (b := w3.heap.size) (x0 := (.slice xa3 P'.fr.length xk3)) (x1 := (.int .i64 P'.a)) (x2 := (.slice xb3 P'.ps.length xl3)) (x3 := (.slice xc3 P'.L.length xm3)) (x4 := (.slice xd3 P'.lv.length xn3)) (by simp) (by simp) (by simp) (by simp) (by simp)
    go_wp2_with fail
    clear c80 c81 c82 c83 c84 d80 d81 d82 d83 d84
    refine (eq_pool _ _ _ _ _ _ _ _ _ _ _ _ _ P' HG.out (s8.out.at (.tail _ (.head _))).1 (s8.out.at (.tail _ (.tail _ (.head _)))).1 (s8.out.at (.tail _ (.head _))).2.toQ (s8.out.at (.tail _ (.tail _ (.head _)))).2).mono ?_
    rintro e w9x ⟨rfl, b9x⟩
    have s9x := hidIt (s8.out.grow b9x)
    have z9x := b9x.size
    (try simp at z9x)
    clear b9x s8
    have s9 := hidIt s9x.out.front1
    have z9 := z9x
    clear s9x
    obtain ⟨c90, c91, c92, c93, c94⟩ := s9.out.get5 (b := w5.heap.size) (x0 := (.slice xa5 P'.fr.length xk5)) (x1 := (.int .i64 P'.a)) (x2 := (.slice xb5 P'.ps.length xl5)) (x3 := (.slice xc5 P'.L.length xm5)) (x4 := (.slice xd5 P'.lv.length xn5)) (by simp) (by simp) (by simp) (by simp) (by simp)
    go_wp2_with fail
    clear c90 c91 c92 c93 c94
    refine (mark_pool _ _ _ _ _ _ _ P' 1 HG.out (by omega) (s9.out.at (.head _)).1 (s9.out.at (.head _)).2).mono ?_
    rintro e w10 ⟨rfl, r10, o10⟩
    have s10 := hidIt (s9.out.mark1 o10 (PlM.loc _ _ _ _ _ _ _ _ _ _ _) r10 (by first | omega | (simp; done) | (simp; omega)) (by first | omega | (simp; done) | (simp; omega)) (by first | omega | (simp; done) | (simp; omega)))
    have z10 := o10.size
    clear r10 o10 s9
    obtain ⟨e10, e11, e12, e13, e14⟩ := s10.out.get5 (b := w5.heap.size) (x0 := (.slice xa5 P'.fr.length xk5)) (x1 := (.int .i64 P'.a)) (x2 := (.slice xb5 P'.ps.length xl5)) (x3 := (.slice xc5 P'.L.length xm5)) (x4 := (.slice xd5 P'.lv.length xn5)) (by simp) (by simp) (by simp) (by simp) (by simp)
    go_wp2_with fail
    clear e10 e11 e12 e13 e14
    refine (held_pool _ _ _ P'.a _ _ _ _ P'.fr.length P'.ps.length P'.L.length P'.lv.length 1 HG.out (by omega) (s10.out.at (.head _)).1 (s10.out.at (.head _)).2).mono ?_
    rintro e w11 ⟨rfl, b11⟩
    have s11 := hidIt (s10.out.grow b11)
    have z11 := b11.size
    clear b11 s10
    obtain ⟨e20, e21, e22, e23, e24⟩ := s11.out.get5 (b := w.heap.size) (x0 := (.slice xaa P.fr.length xka)) (x1 := (.int .i64 P.a)) (x2 := (.slice xba P.ps.length xla)) (x3 := (.slice xca P.L.length xma)) (x4 := (.slice xda P.lv.length xna)) (by simp) (by simp) (by simp) (by simp) (by simp)
    go_wp2_with fail
    clear e20 e21 e22 e23 e24
    refine (to_poolC _ _ _ _ _ P HF.out (RI.out.below s11.out.below)).mono ?_
    rintro e w12 ⟨xa12, xk12, p12, l12, v12, rfl, kc12, r12, b12⟩
    have KC12 := hidIt kc12
    clear kc12
    have s12 := hidIt (s11.out.grow b12)
    have R12 := hidIt (r12.toQ.pin (Nat.le_refl _))
    obtain ⟨-, -, xb12, xl12, xc12, xm12, xd12, xn12, -, rfl, rfl, rfl⟩ := r12.form
    have z12 := b12.size
    clear r12 b12 s11
    go_wp2_with fail
    refine (HI.out _ _ _ _ _ _ KC12.out R12.out).mono ?_
    rintro e w13 ⟨f13, p13, l13, v13, rfl, r13, b13⟩
    have s13 := hidIt ((s12.out.grow b13).row (Nat.le_refl _) (PlR.loc _ _ _ _ _ _ _) r13)
    obtain ⟨xa13, xk13, xb13, xl13, xc13, xm13, xd13, xn13, rfl, rfl, rfl, rfl⟩ := r13.form
    have z13 := b13.size
    clear r13 b13 s12 R12
    have t13 := hidIt (s13.out.box5 (.slice xa13 P'.fr.length xk13) (.int .i64 P'.a) (.slice xb13 P'.ps.length xl13) (.slice xc13 P'.L.length xm13) (.slice xd13 P'.lv.length xn13) 33)
    obtain ⟨e30, e31, e32, e33, e34⟩ := t13.out.get5 (b := w3.heap.size) (x0 := (.slice xa3 P'.fr.length xk3)) (x1 := (.int .i64 P'.a)) (x2 := (.slice xb3 P'.ps.length xl3)) (x3 := (.slice xc3 P'.L.length xm3)) (x4 := (.slice xd3 P'.lv.length xn3)) (by simp) (by simp) (by simp) (by simp) (by simp)
    go_wp2_with fail
    clear e30 e31 e32 e33 e34 s13
    refine (eq_pool _ _ _ _ _ _ _ _ _ _ _ _ _ P' HG.out (t13.out.at (.head _)).1 (t13.out.at (.tail _ (.tail _ (.tail _ (.head _))))).1 (t13.out.at (.head _)).2.toQ (t13.out.at (.tail _ (.tail _ (.tail _ (.head _))))).2).mono ?_
    rintro e w14 ⟨rfl, b14⟩
    have s14 := hidIt (t13.out.grow b14)
    have z14 := b14.size
    (try simp at z14)
    clear b14 t13
    obtain ⟨e40, e41, e42, e43, e44⟩ := s14.out.get5 (b := w5.heap.size) (x0 := (.slice xa5 P'.fr.length xk5)) (x1 := (.int .i64 P'.a)) (x2 := (.slice xb5 P'.ps.length xl5)) (x3 := (.slice xc5 P'.L.length xm5)) (x4 := (.slice xd5 P'.lv.length xn5)) (by simp) (by simp) (by simp) (by simp) (by simp)
    go_wp2_with fail
    clear e40 e41 e42 e43 e44
    refine (held_pool _ _ _ P'.a _ _ _ _ P'.fr.length P'.ps.length P'.L.length P'.lv.length 1 HG.out (by omega) (s14.out.at (.tail _ (.head _))).1 (s14.out.at (.tail _ (.head _))).2).mono ?_
    rintro e w15 ⟨rfl, b15⟩
    go_wp2
    go_ret
    exact ⟨rfl, (s14.out.grow b15).below⟩
  · go_enter Try.func3, Try.ntmps3
    go_wp2_with fail
    refine (sz_pool P.a _ _ _ _ P.fr.length _ P.ps.length _ P.L.length _ P.lv.length _ _ (by omega) (by omega) (by omega) (by omega)).mono ?_
    rintro e w1 ⟨⟨z, rfl, -, hz⟩, b1⟩
    obtain rfl := hz hs
    go_wp2
    go_ret
    exact ⟨rfl, ((Below.refl _ _).alloc (Nat.le_refl _) _).trans (b1.mono (by simp <;> omega))⟩

end Go.Proofs.Ytikliofkplbdpaa

namespace Go.Proofs.Ytikliofkplbdpaa
open Go.ChangeShapes Go.WideShapes Go.ChangeAt Go.RowKit
set_option linter.unusedVariables false

theorem addr_add (g o i : Nat) : (⟨g, o, none⟩ : Addr).add i = ⟨g, o + i, none⟩ := by unfold Addr.add; split <;> simp_all
theorem cells2G : Try.prog.cellsOf 72 = 2 := by kernel_rfl
theorem cellsGS : Try.prog.cellsOf 23 = 1 := by kernel_rfl
set_option maxRecDepth 100000 in
theorem open_gonerow {H : Type} {enc : TypeId × Value → H} {W : World} {fuel : Nat} {cs : List Value} {x : DataW H × List MemPlace} (h : DataW.trod enc Try.prog W 0 (fun _ => true) true fuel 23 cs = some x) :
    ∃ v L, cs = [v] ∧ PIn W v L ∧ L.length ≤ maxLen := by
  rcases Go.Deep.open_slice_pairs Try.underlying23 Try.underlying72 cells2G rfl rfl cells3 cells3 h with ⟨rfl, -⟩ | ⟨a, len, cap, m, n, V0, V1, D0, D1, P0, P1, rfl, -, hl, hm, hmm, -, hx⟩
  · exact ⟨_, [], rfl, ⟨none, 0, rfl, Nat.le_refl _, .inl rfl⟩, by simp⟩
  · have hlm : len ≤ m := by rw [hmm]; simp; exact hl
    have key : ∀ i, i < len → ∃ p : Int × Int, W.cell? (a.add (i * 2)) = some (.int .i64 p.1) ∧ W.cell? (a.add (i * 2 + 1)) = some (.int .i64 p.2) := by
      intro i hi
      obtain ⟨h1, h2, h3, h4⟩ := hx i (by omega)
      obtain ⟨z0, e0, -⟩ := open_intcell h3
      obtain ⟨z1, e1, -⟩ := open_intcell h4
      simp at e0 e1
      exact ⟨(z0, z1), by rw [h1, e0], by rw [h2, e1]⟩
    obtain ⟨q, hq⟩ := Go.Deep.choose_lt key
    refine ⟨_, (List.range len).map q, rfl, ⟨some a, cap, by simp, by simpa using hl, ?_⟩, by simp; omega⟩
    by_cases h0 : len = 0
    · left; simp [h0]
    · right
      obtain ⟨b, off, rfl, -⟩ := ints_at (w := W) (a := a) (k := .i64) (zs := [(q 0).1]) (fun i hi => by
        simp at hi
        subst hi
        simpa using (hq 0 (by omega)).1) (by simp)
      refine ⟨b, off, rfl, ?_, fun j hj => ?_⟩
      · have h1 := (hq 0 (by omega)).1
        by_cases hlt : b < W.heap.size
        · exact hlt
        · rw [addr_add] at h1
          simp [World.cell?, hlt] at h1
      · simp at hj
        have h1 := hq j hj
        rw [addr_add, addr_add] at h1
        simpa [Nat.add_assoc] using h1
theorem array3 {α : Type} {cs : Array α} (h : cs.size = 3) : ∃ c0 c1 c2, cs = #[c0, c1, c2] := by
  obtain ⟨l⟩ := cs
  match l, h with
  | [c0, c1, c2], _ => exact ⟨c0, c1, c2, rfl⟩
theorem cellsAges : Try.prog.cellsOf 25 = 3 := by kernel_rfl
set_option maxRecDepth 100000 in
theorem open_Ages {H : Type} {enc : TypeId × Value → H} {W : World} {b0 : Nat} {v : Value} {d : DataW H} {p : List MemPlace} (hv : Value.okWide Try.prog W .any b0 25 v) (h : DataW.Trod enc Try.prog W 0 (fun _ => true) true 25 v d p) :
    ∃ (a : Int) (pv lv : Value) (ps : List Int) (L : List (Int × Int)), v = .agg #[.int .i64 a, pv, lv] ∧ (Lit.int .i64 a).wf = true ∧ AIn W pv lv ps L ∧ ps.length ≤ maxLen ∧ L.length ≤ maxLen := by
  obtain ⟨cs, rfl, hsz⟩ := okWide_struct Try.underlying25 hv
  obtain ⟨c0, c1, c2, rfl⟩ := array3 (hsz.trans cellsAges)
  obtain ⟨fuel, hf⟩ := h
  obtain ⟨n0, y0, g0⟩ := field_of Try.underlying25 hf 0 _ rfl
  obtain ⟨z0, e0, f0⟩ := open_intcell g0
  obtain ⟨n1, y1, g1⟩ := field_of Try.underlying25 hf 1 _ rfl
  obtain ⟨v1, xs, e1, r1, l1, -⟩ := open_introw g1
  obtain ⟨n2, y2, g2⟩ := field_of Try.underlying25 hf 2 _ rfl
  obtain ⟨v2, L, e2, r2, l2⟩ := open_gonerow g2
  simp [Value.cells, cells3] at e0
  simp [Value.cells, cells22] at e1
  simp [Value.cells, cellsGS] at e2
  subst e0 e1 e2
  exact ⟨_, _, _, xs, L, rfl, f0, ⟨r1, r2⟩, l1, l2⟩

end Go.Proofs.Ytikliofkplbdpaa

namespace Go.Proofs.Ytikliofkplbdpaa
open Go.ChangeShapes Go.WideShapes Go.ChangeAt Go.RowKit
set_option linter.unusedVariables false

set_option maxRecDepth 100000 in
theorem open_gonerowN {H : Type} {enc : TypeId × Value → H} {W : World} {fuel : Nat} {cs : List Value} {x : DataW H × List MemPlace} (h : DataW.trod enc Try.prog W 0 (fun _ => true) true fuel 23 cs = some x) :
    ∃ v L, cs = [v] ∧ PIn W v L ∧ L.length ≤ maxLen ∧ ∀ q ∈ L, (Lit.int .i64 q.1).wf = true := by
  rcases Go.Deep.open_slice_pairs Try.underlying23 Try.underlying72 cells2G rfl rfl cells3 cells3 h with ⟨rfl, -⟩ | ⟨a, len, cap, m, n, V0, V1, D0, D1, P0, P1, rfl, -, hl, hm, hmm, -, hx⟩
  · exact ⟨_, [], rfl, ⟨none, 0, rfl, Nat.le_refl _, .inl rfl⟩, by simp, by simp⟩
  · have hlm : len ≤ m := by rw [hmm]; simp; exact hl
    have key : ∀ i, i < len → ∃ p : Int × Int, (W.cell? (a.add (i * 2)) = some (.int .i64 p.1) ∧ W.cell? (a.add (i * 2 + 1)) = some (.int .i64 p.2)) ∧ (Lit.int .i64 p.1).wf = true := by
      intro i hi
      obtain ⟨h1, h2, h3, h4⟩ := hx i (by omega)
      obtain ⟨z0, e0, f0⟩ := open_intcell h3
      obtain ⟨z1, e1, -⟩ := open_intcell h4
      simp at e0 e1
      exact ⟨(z0, z1), ⟨by rw [h1, e0], by rw [h2, e1]⟩, f0⟩
    obtain ⟨q, hqq⟩ := Go.Deep.choose_lt key
    have hq : ∀ i, i < len → W.cell? (a.add (i * 2)) = some (.int .i64 (q i).1) ∧ W.cell? (a.add (i * 2 + 1)) = some (.int .i64 (q i).2) := fun i hi => (hqq i hi).1
    refine ⟨_, (List.range len).map q, rfl, ⟨some a, cap, by simp, by simpa using hl, ?_⟩, by simp; omega, by
      intro z hz
      obtain ⟨i, hi, rfl⟩ := List.mem_map.1 hz
      exact (hqq i (List.mem_range.1 hi)).2⟩
    by_cases h0 : len = 0
    · left; simp [h0]
    · right
      obtain ⟨b, off, rfl, -⟩ := ints_at (w := W) (a := a) (k := .i64) (zs := [(q 0).1]) (fun i hi => by
        simp at hi
        subst hi
        simpa using (hq 0 (by omega)).1) (by simp)
      refine ⟨b, off, rfl, ?_, fun j hj => ?_⟩
      · have h1 := (hq 0 (by omega)).1
        by_cases hlt : b < W.heap.size
        · exact hlt
        · rw [addr_add] at h1
          simp [World.cell?, hlt] at h1
      · simp at hj
        have h1 := hq j hj
        rw [addr_add, addr_add] at h1
        simpa [Nat.add_assoc] using h1
theorem cellsPool : Try.prog.cellsOf 27 = 5 := by kernel_rfl
theorem cellsAg3 : Try.prog.cellsOf 25 = 3 := by kernel_rfl
set_option maxRecDepth 100000 in
theorem open_Pool {H : Type} {enc : TypeId × Value → H} {W : World} {b0 : Nat} {v : Value} {d : DataW H} {p : List MemPlace} (hv : Value.okWide Try.prog W .any b0 27 v) (h : DataW.Trod enc Try.prog W 0 (fun _ => true) true 27 v d p) :
    ∃ (P : Pl) (pf pp pl pv : Value), v = .agg #[pf, .int .i64 P.a, pp, pl, pv] ∧ PlIn W pf pp pl pv P ∧ P.fr.length ≤ maxLen ∧ P.ps.length ≤ maxLen ∧ P.L.length ≤ maxLen ∧ P.lv.length ≤ maxLen ∧ PlWf P := by
  obtain ⟨cs, rfl, hsz⟩ := okWide_struct Try.underlying27 hv
  obtain ⟨c0, c1, c2, c3, c4, rfl⟩ := array5 (hsz.trans cellsPool)
  obtain ⟨fuel, hf⟩ := h
  obtain ⟨n0, y0, g0⟩ := field_of Try.underlying27 hf 0 _ rfl
  obtain ⟨v0, xs0, e0, r0, l0, x0⟩ := open_introwN g0
  obtain ⟨n1, y1, g1⟩ := field_of Try.underlying27 hf 1 _ rfl
  obtain ⟨ma, wa, ha⟩ := field_of Try.underlying25 g1 0 _ rfl
  obtain ⟨za, ea, fa⟩ := open_intcell ha
  obtain ⟨mb, wb, hb⟩ := field_of Try.underlying25 g1 1 _ rfl
  obtain ⟨vb, xsb, eb, rb, lb, xb⟩ := open_introwN hb
  obtain ⟨mc, wc, hc⟩ := field_of Try.underlying25 g1 2 _ rfl
  obtain ⟨vc, Lc, ec, rc, lc, xc⟩ := open_gonerowN hc
  obtain ⟨n2, y2, g2⟩ := field_of Try.underlying27 hf 2 _ rfl
  obtain ⟨v2, xs2, e2, r2, l2, x2⟩ := open_introwN g2
  simp [Value.cells, cells22] at e0 e2
  simp [Value.cells, cells3, cells22, cellsGS, cellsAg3] at ea eb ec
  subst e0 ea eb ec e2
  exact ⟨⟨xs0, _, xsb, Lc, xs2⟩, _, _, _, _, rfl, ⟨r0, ⟨rb.1, rc⟩, r2⟩, l0, lb, lc, l2, x0, xc, x2⟩

end Go.Proofs.Ytikliofkplbdpaa
