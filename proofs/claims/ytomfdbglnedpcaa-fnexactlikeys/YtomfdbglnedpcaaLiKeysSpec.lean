/- The keys of a list from the head link on, by the model. -/
import Derived.Test.YtomfdbglnedpcaaRows
import Derived.WalkKit
import Derived.ProofKit
import Derived.OpenShut
import Derived.ShutString
import Derived.Test.YtomfdbglnedpcaaLiSmall
import Derived.Test.YtomfdbglnedpcaaTwoRows
import Derived.Test.YtomfdbglnedpcaaStItemsSpec
import Derived.Test.YtomfdbglnedpcaaOutMoves
namespace Go.Proofs.Ytomfdbglnedpcaa
open Go.ChangeShapes Go.WideShapes Go.ChangeAt Go.RowKit
set_option linter.unusedVariables false

theorem spec_likeys_no (n : Int) (a : Option Addr) (m c : Nat) (w : World) (hm : m ≤ 4194304) (h : ¬ (szB n = true ∧ (m : Int) = 1 + 2 * n)) :
    Calls Try.prog 27 #[.int .i64 n, .agg #[.slice a m c]] w fun e w' => ∃ v', e = .returned v' ∧ Row w' w.heap.size w'.heap.size v' (ints []) ∧ Below w.heap.size w w' := by
  by_cases hz : szB n = true
  · have hb : 1 ≤ n ∧ n ≤ 16 := of_decide_eq_true hz
    obtain ⟨n1, n2⟩ := hb
    have hne : ((m : Int) != 1 + 2 * n) = true := by simp; intro e; exact h ⟨hz, e⟩
    have HZ := hidIt hz
    clear h hz
    go_enter Try.func27, Try.ntmps27
    go_wp2_with (go_at_call 41; refine (spec_size n _).mono ?_; rintro e w1 ⟨rfl, rfl⟩; rw [HZ.out])
    go_ret
    exact ⟨_, rfl, ⟨_, _, rfl, .inl rfl⟩, (((Below.refl _ _).alloc (Nat.le_refl _) _).alloc (by simp) _).alloc (by simp <;> omega) _⟩
  · have hz : szB n = false := by simpa using hz
    clear h
    go_enter Try.func27, Try.ntmps27
    go_wp2_with (go_at_call 41; refine (spec_size n _).mono ?_; rintro e w1 ⟨rfl, rfl⟩; rw [hz])
    go_ret
    exact ⟨_, rfl, ⟨_, _, rfl, .inl rfl⟩, (((Below.refl _ _).alloc (Nat.le_refl _) _).alloc (by simp) _).alloc (by simp <;> omega) _⟩
theorem two_start (w : World) (X : Value) (t : TypeId) : Two w (((w.alloc (.cells #[X] t)).alloc (.cells #[] 3)).alloc (.cells #[] 3)) X (.slice (some ⟨w.heap.size + 1, 0, none⟩) 0 0) (.slice (some ⟨w.heap.size + 2, 0, none⟩) 0 0) [] [] := by
  refine ⟨(((Below.refl _ _).alloc (Nat.le_refl _) _).alloc (by simp) _).alloc (by simp <;> omega) _, by simp <;> omega, by simp [go_sem], ?_, ?_, by simp [Value.ownBlock]⟩
  · have := World.ownsRow_made (base := w.heap.size + 1) (e := 3) (size := 1) (w.alloc (.cells #[X] t)) #[] 0 (by simp) (by unfold maxLen; omega) (by simp)
    simpa using this.alloc _
  · have := World.ownsRow_made (base := w.heap.size + 1) (e := 3) (size := 1) ((w.alloc (.cells #[X] t)).alloc (.cells #[] 3)) #[] 0 (by simp) (by unfold maxLen; omega) (by simp)
    simpa using this
set_option maxHeartbeats 1600000 in
set_option maxRecDepth 100000 in
theorem spec_likeys_yes (N lo hi : Nat) (v : Value) (xs R : List Int) (w : World) (h1 : 1 ≤ N) (h2 : N ≤ 16) (hl : xs.length = 2 * N + 1) (hwf : ∀ z ∈ xs, -9223372036854775808 ≤ z ∧ z ≤ 9223372036854775807) (hh : hi ≤ w.heap.size) (r : Row w lo hi v (ints xs))
    (hR : R = liGo xs N (N + 1) (xs.getD 0 0) [] []) :
    Calls Try.prog 27 #[.int .i64 (N : Int), .agg #[v]] w fun e w' => ∃ v', e = .returned v' ∧ Row w' w.heap.size w'.heap.size v' (ints R) ∧ Below w.heap.size w w' := by
  obtain ⟨i0, hi0, hz0, hz1, hz2⟩ := info_parts info3
  have hz : szB N = true := decide_eq_true ⟨by omega, by omega⟩
  have HZ := hidIt hz
  obtain ⟨g, c, rfl, g1, g2, g3, -⟩ := r.ofSome (by omega)
  have hcell : ∀ j, j < 2 * N + 1 → w.cell? ⟨g, j, none⟩ = some (.int .i64 (xs.getD j 0)) := fun j hj => by rw [g3 j (by omega)]; simp [show j < xs.length by omega]
  have hbd : ∀ j, j < 2 * N + 1 → -9223372036854775808 ≤ xs.getD j 0 ∧ xs.getD j 0 ≤ 9223372036854775807 := fun j hj => by
    have := hwf xs[j] (List.getElem_mem (by omega))
    simpa [show j < xs.length by omega] using this
  have HG := hidIt hcell
  have HW := hidIt hbd
  have c0 := hcell 0 (by omega)
  obtain ⟨b1, b2⟩ := hbd 0 (by omega)
  generalize xs.getD 0 0 = x0 at c0 b1 b2 hR
  have HR := hidIt hR
  have hgz : g < w.heap.size := by omega
  rw [hl]
  clear hR hwf hz g3 r hcell hbd hl
  have hpos : (0 : Int) < ((2 * N + 1 : Nat) : Int) := by omega
  go_enter Try.func27, Try.ntmps27
  go_wp2_with fail
  refine (spec_size N _).mono ?_
  rintro e w1 ⟨rfl, rfl⟩
  rw [HZ.out]
  have hne : (2 * (N : Int) + 1 != 1 + 2 * (N : Int)) = false := by simp; omega
  have hT := two_start w (.slice (some ⟨g, 0, none⟩) (2 * N + 1) c) 28
  generalize hW : World.alloc (World.alloc (World.alloc _ _) _) _ = W0 at hT ⊢
  clear hW
  have T0 := hidIt hT
  have m0 := hT.mem
  have d0 := below_cell hT.below hgz c0
  have z0 := hT.more
  clear hT c0
  go_wp2
  go_loopw [5, 6, 7, 8] (fun u v i _ wr => KInv w (.slice (some ⟨g, 0, none⟩) (2 * N + 1) c) N xs R u v i wr) (fun _ v _ _ _ => N + 1 - sliceLen v)
  case atStart => exact KInv.mk x0 [] [] (N + 1) (by omega) (by omega) (by simp) (by omega) (by simp) T0.out HR.out ⟨by simp, by simp⟩
  case round =>
    obtain ⟨x, out, seen, f, rfl, x1, x2, hf, hf1, hol, hT, hI⟩ := hrel
    have HT := hidIt hT
    have HI := hidIt hI
    clear hT hI
    obtain ⟨f', rfl⟩ : ∃ f', f = f' + 1 := ⟨f - 1, by omega⟩
    have q1 := HT.out.mem
    have q2 := HT.out.more
    obtain ⟨au, cu, hu⟩ := (Row.of_owns HT.out.own1).form
    obtain ⟨av, cv, hv⟩ := (Row.of_owns HT.out.own2).form
    cases ht : thrB N x
    · have HH := hidIt ht
      cases hk : lnkB N x
      · have HK := hidIt hk
        have HE := hidIt (show R = [] by rw [HI.out.1, liGo_bad _ _ _ _ _ _ hk])
        clear hk ht
        go_wp2_with fail
        refine (spec_there N x _ x1 x2).mono ?_
        rintro e wr ⟨rfl, rfl⟩
        rw [HH.out]
        go_wp2_with fail
        refine (spec_link N x _ x1 x2).mono ?_
        rintro e wr ⟨rfl, rfl⟩
        rw [HK.out]
        go_wp2
        go_ret
        exact ⟨.slice none 0 0, rfl, by rw [HE.out]; exact ⟨none, 0, rfl, .inl rfl⟩, HT.out.below⟩
      · have HK := hidIt hk
        have HE := hidIt (show R = out by
          rw [HI.out.1]
          refine liGo_end _ _ _ _ _ _ hk ?_
          have h3 := lnkB_of hk
          unfold thrB at ht
          rw [hk] at ht
          simp at ht
          omega)
        clear hk ht
        subst hu
        go_wp2_with fail
        refine (spec_there N x _ x1 x2).mono ?_
        rintro e wr ⟨rfl, rfl⟩
        rw [HH.out]
        go_wp2_with fail
        refine (spec_link N x _ x1 x2).mono ?_
        rintro e wr ⟨rfl, rfl⟩
        rw [HK.out]
        go_wp2
        go_ret
        exact ⟨_, rfl, by rw [HE.out]; exact (Row.of_owns HT.out.own1).lo (by omega), HT.out.below⟩
    · have HH := hidIt ht
      have hk : lnkB N x = true := by unfold thrB at ht; simp at ht; exact ht.1
      obtain ⟨h3, h4⟩ := lnkB_of hk
      have h5 : 1 ≤ x / 2 := by unfold thrB at ht; simp at ht; exact ht.2
      obtain ⟨p, hp⟩ : ∃ p : Nat, x / 2 = (p : Int) + 1 := ⟨(x / 2 - 1).toNat, by omega⟩
      have EP := hidIt (show x / 2 - 1 = (p : Int) by omega)
      have hpn : p < N := by omega
      by_cases hm : (p : Int) ∈ seen
      · have HM := hidIt (show hasN seen p = true from decide_eq_true hm)
        have HE := hidIt (show R = [] by rw [HI.out.1]; exact liGo_twice _ _ _ _ _ _ (by omega) (by rw [EP.out]; exact hm))
        clear hm ht hk h4 h5 hp
        subst hv
        go_wp2_with fail
        refine (spec_there N x _ x1 x2).mono ?_
        rintro e wr ⟨rfl, rfl⟩
        rw [HH.out]
        go_wp2_with fail
        refine (spec_lnode x _ h3 x2).mono ?_
        rintro e wr ⟨rfl, rfl⟩
        rw [EP.out]
        go_wp2_with fail
        refine (spec_has _ _ _ seen p _ (by omega) (Row.of_owns HT.out.own2)).mono ?_
        rintro e wr ⟨rfl, rfl⟩
        rw [HM.out]
        go_wp2
        go_ret
        exact ⟨.slice none 0 0, rfl, by rw [HE.out]; exact ⟨none, 0, rfl, .inl rfl⟩, HT.out.below⟩
      · have HM := hidIt (show hasN seen p = false from decide_eq_false hm)
        have HNM := hidIt hm
        obtain ⟨y, hy⟩ : ∃ y, xs.getD (2 + 2 * p) 0 = y := ⟨_, rfl⟩
        obtain ⟨k, hky⟩ : ∃ k, xs.getD (1 + 2 * p) 0 = k := ⟨_, rfl⟩
        obtain ⟨y1, y2⟩ := HW.out (2 + 2 * p) (by omega)
        have cy := HG.out (2 + 2 * p) (by omega)
        have ck := HG.out (1 + 2 * p) (by omega)
        rw [hy] at y1 y2 cy
        rw [hky] at ck
        have HST := hidIt (show R = liGo xs N f' y (seen ++ [(p : Int)]) (if y % 2 = 0 then out ++ [k] else out) by
          rw [HI.out.1, liGo_step _ _ _ _ _ _ hk (by omega) (by rw [EP.out]; exact hm), EP.out, show (2 * (x / 2)).toNat = 2 + 2 * p by omega, show (2 * (x / 2) - 1).toNat = 1 + 2 * p by omega, hy, hky])
        have HND := hidIt HI.out.2
        clear hm ht hk h4 h5 hp hy hky HI
        subst hv hu
        go_wp2_with fail
        refine (spec_there N x _ x1 x2).mono ?_
        rintro e wr ⟨rfl, rfl⟩
        rw [HH.out]
        go_wp2_with fail
        refine (spec_lnode x _ h3 x2).mono ?_
        rintro e wr ⟨rfl, rfl⟩
        rw [EP.out]
        go_wp2_with fail
        refine (spec_has _ _ _ seen p _ (by omega) (Row.of_owns HT.out.own2)).mono ?_
        rintro e wr ⟨rfl, rfl⟩
        rw [HM.out]
        have TA := hidIt (HT.out.alloc (.cells #[.int .i64 (p : Int)] 3))
        go_wp2_with (at_builtin; refine wpList_append_lies _ rfl _ _ 22 rfl (w.heap.size + 1) 3 i0 (.int .i64 0) 1 8 Try.underlying22 hi0 hz0 hz1 hz2 rfl (by decide) _ _ _ rfl TA.out.own2 ⟨wr.heap.size, 0, none⟩ 1 1 [.int .i64 (p : Int)] rfl rfl ?c1 ?c2 (by decide) ?c3 ?c4 ?c5 (wr.heap.size + 1) (by simp) ?_)
        case c1 => exact cell_one_new _ _ _
        case c2 => intro u hu; simp at hu; subst hu; rfl
        case c3 => unfold maxLen; omega
        case c4 => omega
        case c5 => simp; omega
        intro g' cap w1 hown' hgrow hat hlt
        have T1 := hidIt (TA.out.app2 hown' hgrow (by simpa using hat))
        have r1 := T1.out.mem
        have r2 := T1.out.more
        have cy1 := below_cell T1.out.below hgz cy
        have ck1 := below_cell T1.out.below hgz ck
        have CK := hidIt ck1
        clear hown' hgrow hat hlt q1 q2 TA HT cy ck ck1
        have hgw : g < w1.heap.size := by omega
        have e1 : (2 + 2 * (p : Int)) < ((2 * N + 1 : Nat) : Int) := by omega
        have hnd : (seen ++ [(p : Int)]).Nodup := by
          rw [List.nodup_append]
          exact ⟨HND.out.1, by simp, fun a ha b hb => by simp at hb; subst hb; exact fun e => HNM.out (e ▸ ha)⟩
        have hal : ∀ z ∈ seen ++ [(p : Int)], 0 ≤ z ∧ z < (N : Int) := fun z hz => by
          rcases List.mem_append.1 hz with h | h
          · exact HND.out.2 z h
          · simp at h; omega
        have hfew := few N _ hnd hal
        simp at hfew
        have HNA := hidIt (And.intro hnd hal)
        clear hnd hal HND HNM
        by_cases hy0 : y < 0
        · have HS2 := hidIt (show R = liGo xs N f' y (seen ++ [(p : Int)]) out by
            have hb : lnkB N y = false := decide_eq_false (by omega)
            rw [HST.out, liGo_bad _ _ _ _ _ _ hb, liGo_bad _ _ _ _ _ _ hb])
          go_wp2
          go_roundw
          case rel => exact KInv.mk y (out) (seen ++ [(p : Int)]) f' y1 y2 (by simp; omega) (by omega) (by simp; omega) T1.out HS2.out HNA.out
          case measure => simp only [sliceLen]; omega
        · have hy1 : 0 ≤ y := by omega
          clear hy0
          by_cases hev : y % 2 = 0
          · have HS2 := hidIt (show R = liGo xs N f' y (seen ++ [(p : Int)]) (out ++ [k]) by rw [HST.out, if_pos hev])
            have hb : (y % 2 == 0) = true := by simpa using hev
            have ck1 := CK.out
            have TA := hidIt (T1.out.alloc (.cells #[.int .i64 k] 3))
            clear hev
            go_wp2_with (at_builtin; refine wpList_append_lies _ rfl _ _ 22 rfl (w.heap.size + 1) 3 i0 (.int .i64 0) 1 8 Try.underlying22 hi0 hz0 hz1 hz2 rfl (by decide) _ _ _ rfl TA.out.own1 ⟨w1.heap.size, 0, none⟩ 1 1 [.int .i64 k] rfl rfl ?c1 ?c2 (by decide) ?c3 ?c4 ?c5 (w1.heap.size + 1) (by simp) ?_)
            case c1 => exact cell_one_new _ _ _
            case c2 => intro u hu; simp at hu; subst hu; rfl
            case c3 => unfold maxLen; omega
            case c4 => omega
            case c5 => simp; omega
            intro g2' cap2 w2 hown' hgrow hat hlt
            have T2 := hidIt (TA.out.app1 hown' hgrow (by simpa using hat))
            clear hown' hgrow hat hlt hb ck1
            go_wp2
            go_roundw
            case rel => exact KInv.mk y (out ++ [k]) (seen ++ [(p : Int)]) f' y1 y2 (by simp; omega) (by omega) (by simp; omega) T2.out HS2.out HNA.out
            case measure => simp only [sliceLen]; omega
          · have HS2 := hidIt (show R = liGo xs N f' y (seen ++ [(p : Int)]) out by rw [HST.out, if_neg hev])
            have hb : (y % 2 == 0) = false := by simpa using hev
            clear hev
            go_wp2
            clear hb
            go_roundw
            case rel => exact KInv.mk y (out) (seen ++ [(p : Int)]) f' y1 y2 (by simp; omega) (by omega) (by simp; omega) T1.out HS2.out HNA.out
            case measure => simp only [sliceLen]; omega
theorem spec_likeys (n : Int) (lo hi : Nat) (v : Value) (xs : List Int) (w : World) (hn : xs.length ≤ 4194304) (hwf : ∀ z ∈ xs, -9223372036854775808 ≤ z ∧ z ≤ 9223372036854775807) (hh : hi ≤ w.heap.size) (r : Row w lo hi v (ints xs)) :
    Calls Try.prog 27 #[.int .i64 n, .agg #[v]] w fun e w' => ∃ v', e = .returned v' ∧ Row w' w.heap.size w'.heap.size v' (ints (liKeys n xs)) ∧ Below w.heap.size w w' := by
  by_cases h : szB n = true ∧ (xs.length : Int) = 1 + 2 * n
  · have hb : 1 ≤ n ∧ n ≤ 16 := of_decide_eq_true h.1
    obtain ⟨N, rfl⟩ : ∃ i : Nat, n = i := ⟨n.toNat, by omega⟩
    exact spec_likeys_yes N lo hi v xs _ w (by omega) (by omega) (by omega) hwf hh r (by unfold liKeys; rw [if_pos h]; simp)
  · have e : liKeys n xs = [] := by unfold liKeys; rw [if_neg h]
    rw [e]
    obtain ⟨a, c, rfl⟩ := r.form
    exact spec_likeys_no n a xs.length c w hn h

end Go.Proofs.Ytomfdbglnedpcaa
