/- The keys of a list from the head link on, by the program. -/
import Derived.Test.YtomfdbglnedpcaaRows
import Derived.WalkKit
import Derived.ProofKit
import Derived.OpenShut
import Derived.ShutString
import Derived.Test.YtomfdbglnedpcaaLiSmall
import Derived.Test.YtomfdbglnedpcaaTwoRows
import Derived.Test.YtomfdbglnedpcaaLiNewFns
import Derived.Test.YtomfdbglnedpcaaStackImpl2
import Derived.Test.YtomfdbglnedpcaaRiItemsPlain
import Derived.Test.YtomfdbglnedpcaaStPlain
import Derived.Deep.AppendLies
import Derived.Deep.RegionHeld3
namespace Go.Proofs.Ytomfdbglnedpcaa
open Go.ChangeShapes Go.WideShapes Go.ChangeAt Go.RowKit
set_option linter.unusedVariables false

def lstB (n : Int) (m : Nat) : Bool := szB n && decide ((m : Int) = 1 + 2 * n)
theorem impl_islist (n : Int) (a : Option Addr) (m c : Nat) (w : World) :
    Calls Try.prog 59 #[.int .i64 n, .agg #[.slice a m c]] w fun e w' => e = .returned (.bool (lstB n m)) ∧ Below w.heap.size w w' := by
  by_cases hz : szB n = true
  · have hb : 1 ≤ n ∧ n ≤ 16 := of_decide_eq_true hz
    obtain ⟨n1, n2⟩ := hb
    have HZ := hidIt hz
    by_cases he : (m : Int) = 1 + 2 * n
    · have e1 : lstB n m = true := by unfold lstB; simp [hz, he]
      have e2 : ((m : Int) == 1 + 2 * n) = true := by simpa using he
      rw [e1]
      clear e1 he hz
      go_enter Try.func59, Try.ntmps59
      go_wp2_with fail
      refine (impl_lsize n _).mono ?_
      rintro e w1 ⟨rfl, rfl⟩
      rw [HZ.out]
      go_wp2
      go_ret
      exact ⟨by simp, (Below.refl _ _).alloc (Nat.le_refl _) _⟩
    · have e1 : lstB n m = false := by unfold lstB; simp [he]
      have e2 : ((m : Int) == 1 + 2 * n) = false := by simpa using he
      rw [e1]
      clear e1 he hz
      go_enter Try.func59, Try.ntmps59
      go_wp2_with fail
      refine (impl_lsize n _).mono ?_
      rintro e w1 ⟨rfl, rfl⟩
      rw [HZ.out]
      go_wp2
      go_ret
      exact ⟨by simp, (Below.refl _ _).alloc (Nat.le_refl _) _⟩
  · have e1 : lstB n m = false := by unfold lstB; simp [hz]
    have hz : szB n = false := by simpa using hz
    rw [e1]
    clear e1
    go_enter Try.func59, Try.ntmps59
    go_wp2_with fail
    refine (impl_lsize n _).mono ?_
    rintro e w1 ⟨rfl, rfl⟩
    rw [hz]
    go_wp2
    go_ret
    exact ⟨rfl, (Below.refl _ _).alloc (Nat.le_refl _) _⟩
theorem lk_undrew {W Y : World} (h : Below W.drew.heap.size W.drew Y) : Below W.heap.size W Y := ⟨h.os, h.tape, h.output, h.size, h.block⟩
theorem lk_dr {W X : World} (h : Below W.heap.size W X) : Below W.heap.size W X.drew := h.drew
theorem impl_likeys_no (n : Int) (a : Option Addr) (m c : Nat) (w : World) (h : ¬ (szB n = true ∧ (m : Int) = 1 + 2 * n)) :
    Calls Try.prog 28 #[.int .i64 n, .agg #[.slice a m c]] w fun e w' => ∃ v', e = .returned v' ∧ Row w' w.heap.size w'.heap.size v' (ints []) ∧ Below w.heap.size w w' := by
  have hs : lstB n m = false := by
    unfold lstB
    rw [Bool.and_eq_false_iff, decide_eq_false_iff_not]
    by_cases hz : szB n = true
    · exact .inr fun e => h ⟨hz, e⟩
    · exact .inl (by simpa using hz)
  clear h
  go_enter Try.func28, Try.ntmps28
  go_wp2_with fail
  refine (impl_islist n _ _ c _).mono ?_
  rintro e w1 ⟨rfl, b1⟩
  rw [hs]
  go_wp2
  go_ret
  exact ⟨_, rfl, ⟨_, _, rfl, .inl rfl⟩, ((Below.refl _ _).alloc (Nat.le_refl _) _).trans (b1.mono (by simp))⟩
set_option maxHeartbeats 1600000 in
set_option maxRecDepth 100000 in
theorem impl_likeys_yes (N lo hi : Nat) (v : Value) (xs R : List Int) (w : World) (h1 : 1 ≤ N) (h2 : N ≤ 16) (hl : xs.length = 2 * N + 1) (hwf : ∀ z ∈ xs, -9223372036854775808 ≤ z ∧ z ≤ 9223372036854775807) (hh : hi ≤ w.heap.size) (r : Row w lo hi v (ints xs))
    (hR : R = liGo xs N (N + 1) (xs.getD 0 0) [] []) :
    Calls Try.prog 28 #[.int .i64 (N : Int), .agg #[v]] w fun e w' => ∃ v', e = .returned v' ∧ Row w' w.heap.size w'.heap.size v' (ints R) ∧ Below w.heap.size w w' := by
  obtain ⟨i0, hi0, hz0, hz1, hz2⟩ := info_parts info3
  have hs : lstB N (2 * N + 1) = true := by
    have : szB N = true := decide_eq_true ⟨by omega, by omega⟩
    unfold lstB
    rw [this]
    simp
    omega
  have HS := hidIt hs
  have HRow := hidIt r
  obtain ⟨g, c, rfl, g1, g2, -, -⟩ := r.ofSome (by omega)
  have hbd : ∀ j, j < 2 * N + 1 → -9223372036854775808 ≤ xs.getD j 0 ∧ xs.getD j 0 ≤ 9223372036854775807 := fun j hj => by
    have := hwf xs[j] (List.getElem_mem (by omega))
    simpa [show j < xs.length by omega] using this
  have HW := hidIt hbd
  have E0 := hidIt (show cellL xs 0 = xs.getD 0 0 by unfold cellL; rw [if_pos ⟨by omega, by omega⟩]; rfl)
  obtain ⟨b1, b2⟩ := hbd 0 (by omega)
  generalize xs.getD 0 0 = x0 at b1 b2 hR E0
  have HR := hidIt hR
  have hgz : g < w.heap.size := by omega
  have HL := hidIt hl
  rw [hl] at HRow ⊢
  clear hR hwf hs r hbd hl
  go_enter Try.func28, Try.ntmps28
  go_wp2_with fail
  refine (impl_islist N _ _ c _).mono ?_
  rintro e w1 ⟨rfl, b1'⟩
  rw [HS.out]
  have z1 := b1'.size
  simp at z1
  have c1 : w1.cell? ⟨w.heap.size, 0, none⟩ = some (.slice (some ⟨g, 0, none⟩) (2 * N + 1) c) := below_cell b1' (by simp) (by simp [go_sem])
  have B1 := hidIt (((Below.refl _ w).alloc (Nat.le_refl _) _).trans (b1'.mono (by simp)))
  clear b1'
  go_wp2_with fail
  refine (impl_cellof lo hi _ xs 0 _ (by rw [HL.out]; omega) (by omega) (HRow.out.below (B1.out.mono hh))).mono ?_
  rintro e w2 ⟨rfl, b2'⟩
  rw [E0.out]
  have z2 := b2'.size
  have c2 : w2.cell? ⟨w.heap.size, 0, none⟩ = some (.slice (some ⟨g, 0, none⟩) (2 * N + 1) c) := below_cell b2' (by omega) c1
  have B2 := hidIt (B1.out.trans (b2'.mono (by omega)))
  clear b2' c1 B1
  have T0 := hidIt (show Two w w2 (.slice (some ⟨g, 0, none⟩) (2 * N + 1) c) (.slice none 0 0) (.slice none 0 0) [] [] from ⟨B2.out, by omega, c2, World.ownsRow_nil _ _ _ _, World.ownsRow_nil _ _ _ _, by simp [Value.ownBlock]⟩)
  clear B2
  go_wp2
  go_loopw [5, 6, 7, 8] (fun u v i _ wr => KInv w (.slice (some ⟨g, 0, none⟩) (2 * N + 1) c) N xs R u v i wr) (fun _ v _ _ _ => N + 1 - sliceLen v)
  case atStart => exact KInv.mk x0 [] [] (N + 1) (by omega) (by omega) (by simp) (by omega) (by simp) T0.out HR.out ⟨by simp, by simp⟩
  case round =>
    obtain ⟨x, out, seen, f, rfl, x1, x2, hf, hf1, hol, hT, hI⟩ := hrel
    have HT := hidIt hT
    have HI := hidIt hI
    clear hT hI
    obtain ⟨f', rfl⟩ : ∃ f', f = f' + 1 := ⟨f - 1, by omega⟩
    have q1 := HT.out.mem
    have q2 := HT.out.more
    obtain ⟨au, cu, hu⟩ := (Row.of_owns HT.out.own1).form
    obtain ⟨av, cv, hv⟩ := (Row.of_owns HT.out.own2).form
    cases hk : lnkB N x
    · have HK := hidIt hk
      have HE := hidIt (show R = [] by rw [HI.out.1, liGo_bad _ _ _ _ _ _ hk])
      clear hk
      go_wp2_with fail
      refine (impl_link N x _ x1 x2).mono ?_
      rintro e wr ⟨rfl, rfl⟩
      rw [HK.out]
      go_wp2
      go_ret
      exact ⟨.slice none 0 0, rfl, by rw [HE.out]; exact ⟨none, 0, rfl, .inl rfl⟩, HT.out.below⟩
    · have HK := hidIt hk
      obtain ⟨h3, h4⟩ := lnkB_of hk
      by_cases hx0 : x / 2 = 0
      · have HE := hidIt (show R = out by rw [HI.out.1]; exact liGo_end _ _ _ _ _ _ hk hx0)
        have EP := hidIt (show x / 2 - 1 = -1 by omega)
        clear hk h4 hx0
        subst hu
        go_wp2_with fail
        refine (impl_link N x _ x1 x2).mono ?_
        rintro e wr ⟨rfl, rfl⟩
        rw [HK.out]
        go_wp2_with fail
        refine (impl_lnode x _ h3 x2).mono ?_
        rintro e wr ⟨rfl, rfl⟩
        rw [EP.out]
        go_wp2
        go_ret
        exact ⟨_, rfl, by rw [HE.out]; exact (Row.of_owns HT.out.own1).lo (by omega), HT.out.below⟩
      · obtain ⟨p, hp⟩ : ∃ p : Nat, x / 2 = (p : Int) + 1 := ⟨(x / 2 - 1).toNat, by omega⟩
        have EP := hidIt (show x / 2 - 1 = (p : Int) by omega)
        have hpn : p < N := by omega
        by_cases hm : (p : Int) ∈ seen
        · have HM := hidIt (show hasN seen p = true from decide_eq_true hm)
          have HE := hidIt (show R = [] by rw [HI.out.1]; exact liGo_twice _ _ _ _ _ _ (by omega) (by rw [EP.out]; exact hm))
          clear hm hk h4 hp hx0
          subst hv
          go_wp2_with fail
          refine (impl_link N x _ x1 x2).mono ?_
          rintro e wr ⟨rfl, rfl⟩
          rw [HK.out]
          go_wp2_with fail
          refine (impl_lnode x _ h3 x2).mono ?_
          rintro e wr ⟨rfl, rfl⟩
          rw [EP.out]
          go_wp2_with fail
          refine (impl_contains _ _ _ seen p _ (by omega) (Row.of_owns HT.out.own2)).mono ?_
          rintro e wr ⟨rfl, rfl⟩
          rw [HM.out]
          go_wp2
          go_ret
          exact ⟨.slice none 0 0, rfl, by rw [HE.out]; exact ⟨none, 0, rfl, .inl rfl⟩, HT.out.below⟩
        · have HM := hidIt (show hasN seen p = false from decide_eq_false hm)
          have HNM := hidIt hm
          obtain ⟨y, hy⟩ : ∃ y, xs.getD (2 + 2 * p) 0 = y := ⟨_, rfl⟩
          obtain ⟨k, hky⟩ : ∃ k, xs.getD (1 + 2 * p) 0 = k := ⟨_, rfl⟩
          obtain ⟨y1, y2⟩ := HW.out (2 + 2 * p) (by omega)
          rw [hy] at y1 y2
          have EY := hidIt (show cellL xs (2 + 2 * (p : Int)) = y by
            unfold cellL
            rw [if_pos ⟨by omega, by rw [HL.out]; omega⟩, show (2 + 2 * (p : Int)).toNat = 2 + 2 * p by omega, hy])
          have EK := hidIt (show cellL xs (1 + 2 * (p : Int)) = k by
            unfold cellL
            rw [if_pos ⟨by omega, by rw [HL.out]; omega⟩, show (1 + 2 * (p : Int)).toNat = 1 + 2 * p by omega, hky])
          have HST := hidIt (show R = liGo xs N f' y (seen ++ [(p : Int)]) (if y % 2 = 0 then out ++ [k] else out) by
            rw [HI.out.1, liGo_step _ _ _ _ _ _ hk (by omega) (by rw [EP.out]; exact hm), EP.out, show (2 * (x / 2)).toNat = 2 + 2 * p by omega, show (2 * (x / 2) - 1).toNat = 1 + 2 * p by omega, hy, hky])
          have HND := hidIt HI.out.2
          clear hm hk h4 hp hx0 hy hky HI
          subst hv hu
          go_wp2_with fail
          refine (impl_link N x _ x1 x2).mono ?_
          rintro e wr ⟨rfl, rfl⟩
          rw [HK.out]
          go_wp2_with fail
          refine (impl_lnode x _ h3 x2).mono ?_
          rintro e wr ⟨rfl, rfl⟩
          rw [EP.out]
          go_wp2_with fail
          refine (impl_contains _ _ _ seen p _ (by omega) (Row.of_owns HT.out.own2)).mono ?_
          rintro e wr ⟨rfl, rfl⟩
          rw [HM.out]
          have TA := hidIt (HT.out.alloc (.cells #[.int .i64 (p : Int)] 3))
          go_wp2_with (at_builtin; refine wpList_append_lies _ rfl _ _ 22 rfl (w.heap.size + 1) 3 i0 (.int .i64 0) 1 8 Try.underlying22 hi0 hz0 hz1 hz2 rfl (by decide) _ _ _ rfl TA.out.own2 ⟨wr.heap.size, 0, none⟩ 1 1 [.int .i64 (p : Int)] rfl rfl ?c1 ?c2 (by decide) ?c3 ?c4 ?c5 (wr.heap.size + 1) (by simp) ?_)
          case c1 => exact cell_one_new _ _ _
          case c2 => intro u hu; simp at hu; subst hu; rfl
          case c3 => unfold maxLen; omega
          case c4 => omega
          case c5 => simp; omega
          intro g' cap w1 hown' hgrow hat hlt
          have T1 := hidIt (TA.out.app2 hown' hgrow (by simpa using hat))
          have r1 := T1.out.mem
          have r2 := T1.out.more
          clear hown' hgrow hat hlt q1 q2 TA HT c2 z2 T0
          have OO := hidIt (fun (W : World) (h : Below w1.heap.size w1 W) => (⟨h, below_cell h r2 r1⟩ : Below w1.heap.size w1 W ∧ W.cell? ⟨w.heap.size, 0, none⟩ = some (.slice (some ⟨g, 0, none⟩) (2 * N + 1) c)))
          have RB := hidIt (fun (W : World) (h : Below w1.heap.size w1 W) => (⟨by have := h.size; omega, HRow.out.below ((T1.out.below.trans (h.mono (by omega))).mono hh)⟩ : hi ≤ W.heap.size ∧ Row W lo hi (.slice (some ⟨g, 0, none⟩) (2 * N + 1) c) (ints xs)))
          have h6 := OO.out _ (Below.refl _ w1)
          clear r1
          go_wp2_with fail
          go_region_held3 (fun w' => Below w1.heap.size w1 w' ∧ w'.cell? ⟨w.heap.size, 0, none⟩ = some (.slice (some ⟨g, 0, none⟩) (2 * N + 1) c))
            (first | exact OO.out _ (lk_dr (And.left (by assumption))) | exact OO.out _ (below_step (And.left (by assumption)) (by assumption)))
            (first | (go_at_call 68; refine (impl_linkcell _ _ (by omega) (by omega)).mono ?_; rintro e wp ⟨rfl, rfl⟩) | (go_at_call 65; refine (impl_cellof lo hi _ xs _ _ (by rw [HL.out]; omega) (RB.out _ (And.left (by assumption))).1 (RB.out _ (And.left (by assumption))).2).mono ?_; rintro e wc ⟨rfl, bc⟩; rw [EY.out]))
          rename_i h7
          have T2 := hidIt (T1.out.grow h7.1)
          clear h7 h6 OO RB bc T1 r2
          have hnd : (seen ++ [(p : Int)]).Nodup := by
            rw [List.nodup_append]
            exact ⟨HND.out.1, by simp, fun a ha b hb => by simp at hb; subst hb; exact fun e => HNM.out (e ▸ ha)⟩
          have hal : ∀ z ∈ seen ++ [(p : Int)], 0 ≤ z ∧ z < (N : Int) := fun z hz => by
            rcases List.mem_append.1 hz with h | h
            · exact HND.out.2 z h
            · simp at h; omega
          have hfew := few N _ hnd hal
          simp at hfew
          have HNA := hidIt (And.intro hnd hal)
          clear hnd hal HND HNM
          have r3 := T2.out.mem
          have r4 := T2.out.more
          by_cases hev : y % 2 = 0
          · have HS2 := hidIt (show R = liGo xs N f' y (seen ++ [(p : Int)]) (out ++ [k]) by rw [HST.out, if_pos hev])
            have HB := hidIt (show (y % 2 == 1) = false by simp; omega)
            clear hev
            go_wp2_with fail
            refine (impl_marked y _).mono ?_
            rintro e w2 ⟨rfl, rfl⟩
            rw [HB.out]
            go_wp2_with fail
            have hown := T2.out.own1
            have hz3 : ∀ q, Value.ownBlock (.slice au out.length cu) = some q → w.heap.size + 1 ≤ q := fun q hq => (hown.lt q hq).1
            have hlo : w.heap.size + 1 ≤ w2.heap.size := by omega
            have OO := hidIt (show ∀ W, Below (w.heap.size + 1) w2 W → Below (w.heap.size + 1) w2 W ∧ W.cell? ⟨w.heap.size, 0, none⟩ = some (.slice (some ⟨g, 0, none⟩) (2 * N + 1) c) from fun W h => ⟨h, below_cell h (by omega) r3⟩)
            have RB := hidIt (fun (W : World) (h : Below (w.heap.size + 1) w2 W) => (⟨by have := h.size; omega, HRow.out.below ((T2.out.below.trans (h.mono (by omega))).mono hh)⟩ : hi ≤ W.heap.size ∧ Row W lo hi (.slice (some ⟨g, 0, none⟩) (2 * N + 1) c) (ints xs)))
            have hS := OO.out _ (Below.refl _ w2)
            have hol2 : out.length ≤ N := by omega
            clear r3
            go_region_held3 (fun W => Below (w.heap.size + 1) w2 W ∧ W.cell? ⟨w.heap.size, 0, none⟩ = some (.slice (some ⟨g, 0, none⟩) (2 * N + 1) c))
              (first | (go_split_ands; refine OO.out _ ?_; repeat (first | with_reducible assumption | with_reducible exact Below.refl _ _ | with_reducible refine Below.drew ?_ | with_reducible refine below_al2 ?_ hlo _ | with_reducible refine below_gr2 ?_ hgrow hlo hz3 | with_reducible refine below_tr2 ?_ bc hlo)))
              (first | (go_at_call 70; refine (impl_keycell _ _ (by omega) (by omega)).mono ?_; rintro e wq ⟨rfl, rfl⟩) | (go_at_call 65; refine (impl_cellof lo hi _ xs _ _ (by rw [HL.out]; omega) (RB.out _ (And.left (by assumption))).1 (RB.out _ (And.left (by assumption))).2).mono ?_; rintro e wc ⟨rfl, bc⟩; rw [EK.out]; have bw : Below w2.heap.size w2 wc := (by first | exact bc | exact lk_undrew bc); have zc := bw.size) | ((refine step_append_lies _ (by rfl) _ _ _ (by rfl) (w.heap.size + 1) 3 i0 (.int .i64 0) 1 8 Try.underlying22 hi0 hz0 hz1 hz2 rfl (by decide) _ _ _ (by rfl) (own_below hown (by repeat (first | with_reducible exact bw | with_reducible refine below_al ?_ _))) ⟨wc.heap.size, 0, none⟩ 1 1 [.int .i64 k] (by rfl) (by rfl) (cell_one_new _ _ _) (by intro u hu; simp at hu; subst hu; rfl) (by decide) (by unfold maxLen; omega) (by omega) (by simp; omega) (wc.heap.size + 1) (by simp) ?_; intro g2' cap2 w3 hown' hgrow hat hlt)))
            all_goals
              have T3 := hidIt (((T2.out.grow bw).alloc (.cells #[.int .i64 k] 3)).app1 hown' hgrow (by simpa using hat))
              clear hown' hgrow hat hown OO hS RB bc bw T2 zc hlt
              go_wp2
              go_roundw
              case rel => exact KInv.mk y (out ++ [k]) (seen ++ [(p : Int)]) f' y1 y2 (by simp; omega) (by omega) (by simp; omega) T3.out HS2.out HNA.out
              case measure => simp only [sliceLen]; omega
          · have HS2 := hidIt (show R = liGo xs N f' y (seen ++ [(p : Int)]) out by rw [HST.out, if_neg hev])
            have HB := hidIt (show (y % 2 == 1) = true by simp; omega)
            clear hev
            go_wp2_with fail
            refine (impl_marked y _).mono ?_
            rintro e w2 ⟨rfl, rfl⟩
            rw [HB.out]
            go_wp2
            go_roundw
            case rel => exact KInv.mk y out (seen ++ [(p : Int)]) f' y1 y2 (by simp; omega) (by omega) (by simp; omega) T2.out HS2.out HNA.out
            case measure => simp only [sliceLen]; omega
theorem impl_likeys (n : Int) (lo hi : Nat) (v : Value) (xs : List Int) (w : World) (hwf : ∀ z ∈ xs, -9223372036854775808 ≤ z ∧ z ≤ 9223372036854775807) (hh : hi ≤ w.heap.size) (r : Row w lo hi v (ints xs)) :
    Calls Try.prog 28 #[.int .i64 n, .agg #[v]] w fun e w' => ∃ v', e = .returned v' ∧ Row w' w.heap.size w'.heap.size v' (ints (liKeys n xs)) ∧ Below w.heap.size w w' := by
  by_cases h : szB n = true ∧ (xs.length : Int) = 1 + 2 * n
  · have hb : 1 ≤ n ∧ n ≤ 16 := of_decide_eq_true h.1
    obtain ⟨N, rfl⟩ : ∃ i : Nat, n = i := ⟨n.toNat, by omega⟩
    exact impl_likeys_yes N lo hi v xs _ w (by omega) (by omega) (by omega) hwf hh r (by unfold liKeys; rw [if_pos h]; simp)
  · have e : liKeys n xs = [] := by unfold liKeys; rw [if_neg h]
    rw [e]
    obtain ⟨a, c, rfl⟩ := r.form
    exact impl_likeys_no n a xs.length c w h

end Go.Proofs.Ytomfdbglnedpcaa
