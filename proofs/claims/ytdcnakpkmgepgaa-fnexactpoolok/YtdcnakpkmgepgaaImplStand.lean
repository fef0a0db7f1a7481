/- Where each place of a pool is, as a map, and whether a row rises: the program's. -/
import Derived.Test.YtdcnakpkmgepgaaRows
import Derived.WalkKit
import Derived.ProofKit
import Derived.OpenShut
import Derived.ShutString
import Derived.Test.YtdcnakpkmgepgaaPoolOkPlain
import Derived.Test.YtdcnakpkmgepgaaPoolRows
import Derived.Test.YtdcnakpkmgepgaaSpecPoolOk
import Derived.Maps.OwnOps
namespace Go.Proofs.Ytdcnakpkmgepgaa
open Go.ChangeShapes Go.WideShapes Go.ChangeAt Go.RowKit
set_option linter.unusedVariables false

theorem putAll_step (U : List (Int × (Int × Int))) (g : Int → Option (Int × Int)) (k : Nat) (hk : k < U.length) : putAll (U.take (k + 1)) g = updF (putAll (U.take k) g) U[k].1 U[k].2 := by
  rw [List.take_succ_eq_append_getElem hk, putAll_snoc]
theorem putAll_full (U : List (Int × (Int × Int))) (g : Int → Option (Int × Int)) (k : Nat) (hk : k = U.length) : putAll (U.take k) g = putAll U g := by
  rw [List.take_of_length_le (by omega)]
def uFr (xs : List Int) : List (Int × (Int × Int)) := xs.map fun z => (z, (1, 0))
def uLv (xs : List Int) : List (Int × (Int × Int)) := xs.map fun z => (z, (2, 0))
def uLi (L : List (Int × Int)) : List (Int × (Int × Int)) := L.map fun q => (q.1, (3, q.2))
theorem uFr_len (xs : List Int) : (uFr xs).length = xs.length := by simp [uFr]
theorem uLv_len (xs : List Int) : (uLv xs).length = xs.length := by simp [uLv]
theorem uLi_len (xs : List (Int × Int)) : (uLi xs).length = xs.length := by simp [uLi]
theorem stF_eq (P : Pl) : stF P = putAll (uLi P.L) (putAll (uLv P.lv) (putAll (uFr P.fr) (fun _ => none))) := by
  show putAll (uFr P.fr ++ (uLv P.lv ++ uLi P.L)) _ = _
  rw [putAll_app, putAll_app]
set_option maxHeartbeats 1600000 in
set_option maxRecDepth 100000 in
theorem impl_standings (w : World) (f p l v : Value) (P : Pl) (hf : PlFit P) (hwf : PlWf P) (h : PlIn w f p l v P) :
    Calls Try.prog 38 #[.agg #[f, .int .i64 P.a, p, l, v]] w fun e w' => ∃ b, e = .returned (.map (some b)) ∧ MapF w' b (P.fr.length + P.lv.length + P.L.length) (stF P) ∧ w.heap.size ≤ b ∧ Below w.heap.size w w' := by
  have hmm := @run_makeMap Try.prog
  have H := hidIt h
  obtain ⟨fa, fc, pa, pc, la, lc, va, vc, rfl, rfl, rfl, rfl⟩ := h.form
  clear h
  obtain ⟨wf1, wf2, wf3⟩ := hwf
  have WF1 := hidIt wf1
  have WF2 := hidIt wf2
  have WF3 := hidIt wf3
  clear wf1 wf2 wf3
  unfold PlFit at hf
  go_enter Try.func38, Try.ntmps38
  go_wp2_with fail
  generalize hW : World.alloc w _ = W0
  have X := Bx.new w #[.slice fa P.fr.length fc, .int .i64 P.a, .slice pa P.ps.length pc, .slice la P.L.length lc, .slice va P.lv.length vc] 34
  have bW : Below w.heap.size w W0 := by rw [← hW]; exact (Below.refl _ _).alloc (Nat.le_refl _) _
  have zW : W0.heap.size = w.heap.size + 1 := by rw [← hW]; simp
  rw [hW] at X
  clear hW
  have HX := hidIt X
  have BW := hidIt bW
  have k0 := HX.out.2.1 0
  have k3 := HX.out.2.1 3
  have k4 := HX.out.2.1 4
  simp at k0 k3 k4
  have hl0 := HX.out.1
  clear X bW
  generalize hW1 : World.alloc W0 _ = W1
  have MM := hidIt (show MapF W1 (w.heap.size + 1) 0 (fun _ => none) from by rw [← hW1, ← zW]; exact MapF.made W0)
  have BW1 := hidIt (show Below W0.heap.size W0 W1 from by rw [← hW1]; exact (Below.refl _ _).alloc (Nat.le_refl _) _)
  clear hW1
  have z1 := BW1.out.size
  have k0' := below_cell BW1.out hl0 k0
  go_wp2_with fail
  go_loopw [14] (fun i wr => ∃ k : Nat, k ≤ P.fr.length ∧ i = .int .i64 k ∧ Hid (MapF wr (w.heap.size + 1) k (putAll ((uFr P.fr).take k) (fun _ => none))) ∧ Below W0.heap.size W0 wr) (fun i _ => P.fr.length - (intOf i).toNat)
  case atStart => exact ⟨0, Nat.zero_le _, rfl, MM, BW1.out⟩
  case round =>
    rename World => wr
    obtain ⟨k, hk, rfl, HM, hbw⟩ := hrel
    by_cases hlt : k < P.fr.length
    · have hlt' : (k : Int) < (P.fr.length : Int) := by omega
      obtain ⟨⟨fa', fc', hv, hp⟩, -⟩ := H.out.fr.below (bel_two BW.out hbw)
      simp at hv
      obtain ⟨rfl, rfl⟩ := hv
      rcases hp with hp | ⟨b, off, rfl, hb, hp⟩
      · rw [hp] at hlt; simp at hlt
      have cA := hp k hlt
      have HZ := hidIt (WF1.out _ (List.getElem_mem hlt))
      have HS := hidIt (show putAll ((uFr P.fr).take (k + 1)) (fun _ => none) = updF (putAll ((uFr P.fr).take k) (fun _ => none)) P.fr[k] (1, 0) from by rw [putAll_step _ _ k (by rw [uFr_len]; exact hlt)]; simp [uFr])
      clear hp
      generalize P.fr[k] = z at cA HZ HS
      go_wp2_with (first | (at_mapUpdate; refine wpList_put _ rfl rfl _ _ _ rfl (w.heap.size + 1) k _ rfl HM.out (by unfold maxLen; omega) z (1, 0) rfl rfl HZ.out ?_; intro w1 m1 g1) | go_in)
      have hb1 : Below W0.heap.size W0 w1 := bel_grown hbw g1 (fun j hj => by cases hj; omega)
      have M1 := hidIt m1
      clear m1 g1
      go_roundw
      case rel => exact ⟨k + 1, by omega, by go_num, hidIt (by rw [HS.out]; exact M1.out), hb1⟩
      case measure => simp [intOf]; omega
    · obtain rfl : k = P.fr.length := by omega
      have HM2 := hidIt (show MapF wr (w.heap.size + 1) P.fr.length (putAll (uFr P.fr) (fun _ => none)) from by rw [← putAll_full (uFr P.fr) (fun _ => none) P.fr.length (uFr_len _).symm]; exact HM.out)
      have HB2 := hidIt hbw
      have k4' := below_cell hbw hl0 k4
      clear HM MM k0'
      generalize hg1 : putAll (uFr P.fr) (fun _ => none) = G1 at HM2
      have HG1 := hidIt hg1
      clear hg1
      have hlw : w.heap.size < wr.heap.size := by have := hbw.size; omega
      go_wp2_with fail
      go_loopw [25] (fun i wq => ∃ k : Nat, k ≤ P.lv.length ∧ i = .int .i64 k ∧ Hid (MapF wq (w.heap.size + 1) (P.fr.length + k) (putAll ((uLv P.lv).take k) G1)) ∧ Below W0.heap.size W0 wq) (fun i _ => P.lv.length - (intOf i).toNat)
      case atStart => exact ⟨0, Nat.zero_le _, rfl, HM2, HB2.out⟩
      case round =>
        rename World => wq
        clear hbw
        obtain ⟨k, hk, rfl, HM, hbw⟩ := hrel
        by_cases hlt : k < P.lv.length
        · have hlt' : (k : Int) < (P.lv.length : Int) := by omega
          obtain ⟨⟨va', vc', hv, hp⟩, -⟩ := H.out.lv.below (bel_two BW.out hbw)
          simp at hv
          obtain ⟨rfl, rfl⟩ := hv
          rcases hp with hp | ⟨b, off, rfl, hb, hp⟩
          · rw [hp] at hlt; simp at hlt
          have cA := hp k hlt
          have HZ := hidIt (WF3.out _ (List.getElem_mem hlt))
          have HS := hidIt (show putAll ((uLv P.lv).take (k + 1)) G1 = updF (putAll ((uLv P.lv).take k) G1) P.lv[k] (2, 0) from by rw [putAll_step _ _ k (by rw [uLv_len]; exact hlt)]; simp [uLv])
          clear hp
          generalize P.lv[k] = z at cA HZ HS
          go_wp2_with (first | (at_mapUpdate; refine wpList_put _ rfl rfl _ _ _ rfl (w.heap.size + 1) (P.fr.length + k) _ rfl HM.out (by unfold maxLen; omega) z (2, 0) rfl rfl HZ.out ?_; intro w1 m1 g1) | go_in)
          have hb1 : Below W0.heap.size W0 w1 := bel_grown hbw g1 (fun j hj => by cases hj; omega)
          have M1 := hidIt m1
          clear m1 g1
          go_roundw
          case rel => exact ⟨k + 1, by omega, by go_num, hidIt (by rw [HS.out]; exact M1.out), hb1⟩
          case measure => simp [intOf]; omega
        · obtain rfl : k = P.lv.length := by omega
          have HM3 := hidIt (show MapF wq (w.heap.size + 1) (P.fr.length + P.lv.length) (putAll (uLv P.lv) G1) from by rw [← putAll_full (uLv P.lv) G1 P.lv.length (uLv_len _).symm]; exact HM.out)
          have HB3 := hidIt hbw
          have k3' := below_cell hbw hl0 k3
          clear HM HM2 k4'
          generalize hg2 : putAll (uLv P.lv) G1 = G2 at HM3
          have HG2 := hidIt hg2
          clear hg2
          have hlq : w.heap.size < wq.heap.size := by have := hbw.size; omega
          go_wp2_with fail
          go_loopw [37] (fun i wx => ∃ k : Nat, k ≤ P.L.length ∧ i = .int .i64 k ∧ Hid (MapF wx (w.heap.size + 1) (P.fr.length + P.lv.length + k) (putAll ((uLi P.L).take k) G2)) ∧ Below W0.heap.size W0 wx) (fun i _ => P.L.length - (intOf i).toNat)
          case atStart => exact ⟨0, Nat.zero_le _, rfl, HM3, HB3.out⟩
          case round =>
            rename World => wx
            clear hbw
            obtain ⟨k, hk, rfl, HM0, hbw⟩ := hrel
            by_cases hlt : k < P.L.length
            · have hlt' : (k : Int) < (P.L.length : Int) := by omega
              obtain ⟨la', lc', hv, -, hp⟩ := H.out.ag.limbo.below (bel_two BW.out hbw)
              simp at hv
              obtain ⟨rfl, rfl⟩ := hv
              rcases hp with hp | ⟨b, off, rfl, hb, hp⟩
              · rw [hp] at hlt; simp at hlt
              have cA := (hp k hlt).1
              have cB := (hp k hlt).2
              have HZ := hidIt (WF2.out _ (List.getElem_mem hlt))
              have HS := hidIt (show putAll ((uLi P.L).take (k + 1)) G2 = updF (putAll ((uLi P.L).take k) G2) P.L[k].1 (3, P.L[k].2) from by rw [putAll_step _ _ k (by rw [uLi_len]; exact hlt)]; simp [uLi])
              clear hp
              generalize P.L[k].1 = z at cA HZ HS
              generalize P.L[k].2 = y at cB HS
              have HM := hidIt (HM0.out.alloc (.cells #[.int .i64 z, .int .i64 y] 78))
              have hbx := hidIt (bel_al hbw (.cells #[.int .i64 z, .int .i64 y] 78))
              clear HM0
              go_wp2_with (first | (at_mapUpdate; refine wpList_put _ rfl rfl _ _ _ rfl (w.heap.size + 1) (P.fr.length + P.lv.length + k) _ rfl HM.out (by unfold maxLen; omega) z (3, y) rfl rfl HZ.out ?_; intro w1 m1 g1) | go_in)
              have hb1 : Below W0.heap.size W0 w1 := bel_grown hbx.out g1 (fun j hj => by cases hj; omega)
              have M1 := hidIt m1
              clear m1 g1
              go_roundw
              case rel => exact ⟨k + 1, by omega, by go_num, hidIt (by rw [HS.out]; exact M1.out), hb1⟩
              case measure => simp [intOf]; omega
            · obtain rfl : k = P.L.length := by omega
              have HM4 := hidIt (show MapF wx (w.heap.size + 1) (P.fr.length + P.lv.length + P.L.length) (stF P) from by rw [stF_eq, HG1.out, HG2.out, ← putAll_full (uLi P.L) G2 P.L.length (uLi_len _).symm]; exact HM0.out)
              clear HM0 HM3
              go_wp2
              go_ret
              exact ⟨_, rfl, HM4.out, by omega, bel_two BW.out hbw⟩
set_option maxHeartbeats 1600000 in
set_option maxRecDepth 100000 in
theorem impl_rises (w : World) (v : Value) (xs : List Int) (hn : xs.length ≤ 4194304) (h : IntsIn w v xs) :
    Calls Try.prog 37 #[v] w fun e w' => e = .returned (.bool (riseB xs)) ∧ Below w.heap.size w w' := by
  have H := hidIt h
  obtain ⟨va, vc, rfl, -⟩ := h.form
  clear h
  go_enter Try.func37, Try.ntmps37
  go_wp2
  go_loopw [3] (fun i wr => ∃ k : Nat, k ≤ xs.length ∧ i = .int .i64 ((k : Int) + 1) ∧ Hid (∀ j, 0 < j → j < k + 1 → ∀ hj : j < xs.length, xs[j - 1]'(by omega) < xs[j]) ∧ Below w.heap.size w wr) (fun i _ => xs.length + 1 - (intOf i).toNat)
  case atStart => exact ⟨0, Nat.zero_le _, rfl, hidIt (fun j h1 h2 => by omega), Below.refl _ _⟩
  case round =>
    rename World => wr
    obtain ⟨k, hk, rfl, HR, hbw⟩ := hrel
    by_cases hlt : k + 1 < xs.length
    · have hlt' : (k : Int) + 1 < (xs.length : Int) := by omega
      obtain ⟨⟨va', vc', hv, hp⟩, -⟩ := H.out.below hbw
      simp at hv
      obtain ⟨rfl, rfl⟩ := hv
      rcases hp with hp | ⟨b, off, rfl, hb, hp⟩
      · rw [hp] at hlt; simp at hlt
      have cA := hp (k + 1) hlt
      have cB := hp k (by omega)
      have HXY := hidIt (fun (e : xs[k] < xs[k + 1]) => (fun j h1 h2 hj => by
        by_cases hj2 : j = k + 1
        · subst hj2; exact e
        · exact HR.out j h1 (by omega) hj : ∀ j, 0 < j → j < k + 1 + 1 → ∀ hj : j < xs.length, xs[j - 1]'(by omega) < xs[j]))
      have HXN := hidIt (fun (e : ¬ xs[k] < xs[k + 1]) => riseB_no (xs := xs) (j := k + 1) (by omega) hlt e)
      clear hp HR
      generalize xs[k] = x at cB HXY HXN
      generalize xs[k + 1] = y at cA HXY HXN
      have hw1 : IntKind.i64.wrap (k : Int) = (k : Int) := by unfold IntKind.wrap; simp [IntKind.bits, IntKind.signed]; omega
      by_cases hxy : x < y
      · have HN := hidIt (HXY.out hxy)
        have hxy' : ¬ y ≤ x := by omega
        clear HXY HXN hxy
        go_wp2
        go_quiet (fail)
        go_wp2
        go_roundw
        case rel => exact ⟨k + 1, by omega, by go_num, hidIt HN.out, below_drewN hbw _⟩
        case measure => simp [intOf]; omega
      · have HN := hidIt (HXN.out hxy)
        have hxy' : y ≤ x := by omega
        clear HXY HXN hxy
        go_wp2
        go_quiet (fail)
        go_wp2
        go_ret
        exact ⟨ret_boolx HN.out.symm, below_drewN hbw _⟩
    · have HRI := hidIt (riseB_yes (xs := xs) (fun j h1 hj => HR.out j h1 (by omega) hj))
      have hlt2 : ¬ ((k : Int) + 1 < (xs.length : Int)) := by omega
      clear HR
      go_wp2
      go_ret
      exact ⟨ret_boolx HRI.out.symm, hbw⟩

end Go.Proofs.Ytdcnakpkmgepgaa
