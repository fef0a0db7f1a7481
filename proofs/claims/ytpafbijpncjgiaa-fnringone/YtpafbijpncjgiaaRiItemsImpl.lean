/- The values of a ring from head to tail, by the program. -/
import Derived.Test.YtpafbijpncjgiaaRows
import Derived.WalkKit
import Derived.ProofKit
import Derived.OpenShut
import Derived.ShutString
import Derived.Test.YtpafbijpncjgiaaRiItemsPlain
import Derived.Test.YtpafbijpncjgiaaRiRing
import Derived.Test.YtpafbijpncjgiaaCellOfFns
import Derived.Test.YtpafbijpncjgiaaStPlain
import Derived.Deep.AppendLies
import Derived.Deep.RegionHeld3
namespace Go.Proofs.Ytpafbijpncjgiaa
open Go.ChangeShapes Go.WideShapes Go.ChangeAt Go.RowKit
set_option linter.unusedVariables false

theorem below_undrew {W Y : World} (h : Below W.drew.heap.size W.drew Y) : Below W.heap.size W Y := ⟨h.os, h.tape, h.output, h.size, h.block⟩
theorem below_dr {W X : World} (h : Below W.heap.size W X) : Below W.heap.size W X.drew := h.drew
theorem impl_num (n : Int) (w : World) :
    Calls Try.prog 42 #[.int .i64 n] w fun e w' => e = .returned (.bool (numB n)) ∧ w' = w := by
  by_cases h1 : 0 ≤ n
  · by_cases h2 : n ≤ 4294967295
    · have hb : numB n = true := decide_eq_true ⟨h1, h2⟩
      rw [hb]
      clear hb
      go_enter Try.func42, Try.ntmps42
      go_wp2
      go_ret
      simp
    · have hb : numB n = false := decide_eq_false (by omega)
      rw [hb]
      clear hb
      go_enter Try.func42, Try.ntmps42
      go_wp2
      go_ret
      simp
  · have hb : numB n = false := decide_eq_false (by omega)
    rw [hb]
    clear hb
    go_enter Try.func42, Try.ntmps42
    go_wp2
    go_ret
    exact ⟨rfl, rfl⟩
theorem impl_riitems_no (n : Int) (a : Option Addr) (m c : Nat) (w : World) (h : ¬ (rzB n = true ∧ (m : Int) = 2 + 2 * n)) :
    Calls Try.prog 15 #[.int .i64 n, .agg #[.slice a m c]] w fun e w' => ∃ v', e = .returned v' ∧ Row w' w.heap.size w'.heap.size v' (ints []) ∧ Below w.heap.size w w' := by
  have hs : rngB n m = false := by
    unfold rngB
    rw [Bool.and_eq_false_iff, decide_eq_false_iff_not]
    by_cases hz : rzB n = true
    · exact .inr fun e => h ⟨hz, e⟩
    · exact .inl (by simpa using hz)
  clear h
  go_enter Try.func15, Try.ntmps15
  go_wp2_with fail
  refine (impl_isring n _ _ c _).mono ?_
  rintro e w1 ⟨rfl, b1⟩
  rw [hs]
  go_wp2
  go_ret
  exact ⟨_, rfl, ⟨_, _, rfl, .inl rfl⟩, ((Below.refl _ _).alloc (Nat.le_refl _) _).trans (b1.mono (by simp))⟩

set_option maxHeartbeats 1600000 in
set_option maxRecDepth 100000 in
theorem impl_riitems_bad (N lo hi : Nat) (v : Value) (xs : List Int) (w : World) (h1 : 2 ≤ N) (h2 : N ≤ 16) (hl : xs.length = 2 + 2 * N) (hh : hi ≤ w.heap.size) (r : Row w lo hi v (ints xs))
    (hE : endsB N (xs.getD 0 0) (xs.getD 1 0) = false) :
    Calls Try.prog 15 #[.int .i64 (N : Int), .agg #[v]] w fun e w' => ∃ v', e = .returned v' ∧ Row w' w.heap.size w'.heap.size v' (ints []) ∧ Below w.heap.size w w' := by
  have hs : rngB N (2 + 2 * N) = true := by
    unfold rngB
    rw [show rzB N = true from decide_eq_true ⟨by omega, by omega⟩]
    simp
  have HS := hidIt hs
  have HRow := hidIt r
  obtain ⟨g, c, rfl, g1, g2, -, -⟩ := r.ofSome (by omega)
  have E0 := hidIt (show cellL xs 0 = xs.getD 0 0 by unfold cellL; rw [if_pos ⟨by omega, by omega⟩]; rfl)
  have E1 := hidIt (show cellL xs 1 = xs.getD 1 0 by unfold cellL; rw [if_pos ⟨by omega, by omega⟩]; rfl)
  generalize xs.getD 0 0 = t at E0 hE
  generalize xs.getD 1 0 = h at E1 hE
  have hgz : g < w.heap.size := by omega
  have HL := hidIt hl
  rw [hl] at HRow ⊢
  clear hs r hl
  go_enter Try.func15, Try.ntmps15
  go_wp2_with fail
  refine (impl_isring N _ _ c _).mono ?_
  rintro e w1 ⟨rfl, b1'⟩
  rw [HS.out]
  have z1 := b1'.size
  simp at z1
  have c1 : w1.cell? ⟨w.heap.size, 0, none⟩ = some (.slice (some ⟨g, 0, none⟩) (2 + 2 * N) c) := below_cell b1' (by simp) (by simp [go_sem])
  have B1 := hidIt (((Below.refl _ w).alloc (Nat.le_refl _) _).trans (b1'.mono (by simp)))
  clear b1'
  have OO := hidIt (fun (W : World) (h : Below w1.heap.size w1 W) => (⟨h, below_cell h (by omega) c1⟩ : Below w1.heap.size w1 W ∧ W.cell? ⟨w.heap.size, 0, none⟩ = some (.slice (some ⟨g, 0, none⟩) (2 + 2 * N) c)))
  have RB := hidIt (fun (W : World) (h : Below w1.heap.size w1 W) => (⟨by have := h.size; omega, HRow.out.below ((B1.out.trans (h.mono (by omega))).mono hh)⟩ : hi ≤ W.heap.size ∧ Row W lo hi (.slice (some ⟨g, 0, none⟩) (2 + 2 * N) c) (ints xs)))
  have h6 := OO.out _ (Below.refl _ w1)
  go_wp2_with fail
  go_region_held3 (fun W => Below w1.heap.size w1 W ∧ W.cell? ⟨w.heap.size, 0, none⟩ = some (.slice (some ⟨g, 0, none⟩) (2 + 2 * N) c))
    (first | exact OO.out _ (below_dr (And.left (by assumption))) | exact OO.out _ (below_step (And.left (by assumption)) (by assumption)))
    (first | (go_at_call 41; refine (impl_cellof lo hi _ xs _ _ (by rw [HL.out]; omega) (RB.out _ (And.left (by assumption))).1 (RB.out _ (And.left (by assumption))).2).mono ?_; rintro e wc ⟨rfl, bc⟩; first | rw [E0.out] | rw [E1.out]))
  rename_i h7
  rename World => w2
  have HB := hidIt (B1.out.trans (h7.1.mono (by omega)))
  clear h7 h6 OO RB B1 E0 E1 HRow
  cases hnt : numB t
  · have HT := hidIt hnt
    clear hnt hE
    go_wp2_with fail
    refine (impl_num t _).mono ?_
    rintro e w2 ⟨rfl, rfl⟩
    rw [HT.out]
    go_wp2
    go_ret
    exact ⟨_, rfl, ⟨_, _, rfl, .inl rfl⟩, HB.out⟩
  · cases hnh : numB h
    · have HT := hidIt hnt
      have HH := hidIt hnh
      clear hnt hnh hE
      go_wp2_with fail
      refine (impl_num t _).mono ?_
      rintro e w2 ⟨rfl, rfl⟩
      rw [HT.out]
      go_wp2_with fail
      refine (impl_num h _).mono ?_
      rintro e w2 ⟨rfl, rfl⟩
      rw [HH.out]
      go_wp2
      go_ret
      exact ⟨_, rfl, ⟨_, _, rfl, .inl rfl⟩, HB.out⟩
    · have ht := numB_of hnt
      have hb := numB_of hnh
      obtain ⟨t1, t2⟩ := ht
      obtain ⟨u1, u2⟩ := hb
      have hin : t < h ∨ (N : Int) < t - h := by
        unfold endsB at hE
        rw [hnt, hnh] at hE
        simp at hE
        omega
      have HT := hidIt hnt
      have HH := hidIt hnh
      clear hnt hnh hE
      by_cases hlt : t < h
      · clear hin
        go_wp2_with fail
        refine (impl_num t _).mono ?_
        rintro e w2 ⟨rfl, rfl⟩
        rw [HT.out]
        go_wp2_with fail
        refine (impl_num h _).mono ?_
        rintro e w2 ⟨rfl, rfl⟩
        rw [HH.out]
        go_wp2
        go_ret
        exact ⟨_, rfl, ⟨_, _, rfl, .inl rfl⟩, HB.out⟩
      · have hgt : (N : Int) < t - h := by omega
        clear hin
        go_wp2_with fail
        refine (impl_num t _).mono ?_
        rintro e w2 ⟨rfl, rfl⟩
        rw [HT.out]
        go_wp2_with fail
        refine (impl_num h _).mono ?_
        rintro e w2 ⟨rfl, rfl⟩
        rw [HH.out]
        go_wp2
        go_ret
        exact ⟨_, rfl, ⟨_, _, rfl, .inl rfl⟩, HB.out⟩

set_option maxHeartbeats 1600000 in
set_option maxRecDepth 100000 in
theorem impl_riitems_yes (N m lo hi : Nat) (h : Int) (v : Value) (xs : List Int) (w : World) (h1 : 2 ≤ N) (h2 : N ≤ 16) (hl : xs.length = 2 + 2 * N) (hh : hi ≤ w.heap.size) (r : Row w lo hi v (ints xs))
    (hx0 : xs.getD 0 0 = h + (m : Int)) (hx1 : xs.getD 1 0 = h) (u1 : 0 ≤ h) (u2 : h + (m : Int) ≤ 4294967295) (hm : m ≤ N) :
    Calls Try.prog 15 #[.int .i64 (N : Int), .agg #[v]] w fun e w' => ∃ v', e = .returned v' ∧ Row w' w.heap.size w'.heap.size v' (ints (riGo xs N h m)) ∧ Below w.heap.size w w' := by
  obtain ⟨i0, hi0, hz0, hz1, hz2⟩ := info_parts info3
  have HZ := hidIt (show rzB N = true from decide_eq_true ⟨by omega, by omega⟩)
  have hs : rngB N (2 + 2 * N) = true := by
    unfold rngB
    rw [show rzB N = true from decide_eq_true ⟨by omega, by omega⟩]
    simp
  have HS := hidIt hs
  have HRow := hidIt r
  obtain ⟨g, c, rfl, g1, g2, -, -⟩ := r.ofSome (by omega)
  have E0 := hidIt (show cellL xs 0 = xs.getD 0 0 by unfold cellL; rw [if_pos ⟨by omega, by omega⟩]; rfl)
  have E1 := hidIt (show cellL xs 1 = xs.getD 1 0 by unfold cellL; rw [if_pos ⟨by omega, by omega⟩]; rfl)
  rw [hx0] at E0
  rw [hx1] at E1
  clear hx0 hx1
  have hgz : g < w.heap.size := by omega
  have HL := hidIt hl
  rw [hl] at HRow ⊢
  clear hs r hl
  go_enter Try.func15, Try.ntmps15
  go_wp2_with fail
  refine (impl_isring N _ _ c _).mono ?_
  rintro e w1 ⟨rfl, b1'⟩
  rw [HS.out]
  have z1 := b1'.size
  simp at z1
  have c1 : w1.cell? ⟨w.heap.size, 0, none⟩ = some (.slice (some ⟨g, 0, none⟩) (2 + 2 * N) c) := below_cell b1' (by simp) (by simp [go_sem])
  have B1 := hidIt (((Below.refl _ w).alloc (Nat.le_refl _) _).trans (b1'.mono (by simp)))
  clear b1'
  have OO := hidIt (fun (W : World) (h : Below w1.heap.size w1 W) => (⟨h, below_cell h (by omega) c1⟩ : Below w1.heap.size w1 W ∧ W.cell? ⟨w.heap.size, 0, none⟩ = some (.slice (some ⟨g, 0, none⟩) (2 + 2 * N) c)))
  have RB := hidIt (fun (W : World) (h : Below w1.heap.size w1 W) => (⟨by have := h.size; omega, HRow.out.below ((B1.out.trans (h.mono (by omega))).mono hh)⟩ : hi ≤ W.heap.size ∧ Row W lo hi (.slice (some ⟨g, 0, none⟩) (2 + 2 * N) c) (ints xs)))
  have h6 := OO.out _ (Below.refl _ w1)
  go_wp2_with fail
  go_region_held3 (fun W => Below w1.heap.size w1 W ∧ W.cell? ⟨w.heap.size, 0, none⟩ = some (.slice (some ⟨g, 0, none⟩) (2 + 2 * N) c))
    (first | exact OO.out _ (below_dr (And.left (by assumption))) | exact OO.out _ (below_step (And.left (by assumption)) (by assumption)))
    (first | (go_at_call 41; refine (impl_cellof lo hi _ xs _ _ (by rw [HL.out]; omega) (RB.out _ (And.left (by assumption))).1 (RB.out _ (And.left (by assumption))).2).mono ?_; rintro e wc ⟨rfl, bc⟩; first | rw [E0.out] | rw [E1.out]))
  rename_i h7
  rename World => w2
  have c2 := h7.2
  have z2 := h7.1.size
  have HB := hidIt (B1.out.trans (h7.1.mono (by omega)))
  have HT := hidIt (show numB (h + (m : Int)) = true from decide_eq_true ⟨by omega, by omega⟩)
  have HH := hidIt (show numB h = true from decide_eq_true ⟨by omega, by omega⟩)
  clear h7 h6 OO RB B1 E0 E1 c1
  have hlt1 : ¬ h + (m : Int) < h := by omega
  have hsub : h + (m : Int) - h ≤ (N : Int) := by omega
  have hsub2 : h + (m : Int) - h = (m : Int) := by omega
  have hsub3 : ¬ (N : Int) < (m : Int) := by omega
  go_wp2_with fail
  refine (impl_num (h + (m : Int)) _).mono ?_
  rintro e w2 ⟨rfl, rfl⟩
  rw [HT.out]
  go_wp2_with fail
  refine (impl_num h _).mono ?_
  rintro e w2 ⟨rfl, rfl⟩
  rw [HH.out]
  go_wp2
  have d1 : decide (h + (m : Int) < h) = false := decide_eq_false (by omega)
  have d2 : decide (N < m) = false := decide_eq_false (by omega)
  simp only [d1, d2, Bool.or_self]
  clear d1 d2 hlt1 hsub hsub2 hsub3
  go_loopw [7, 8] (fun v i wr => ∃ j : Nat, j ≤ m ∧ i = .int .i64 (h + (j : Int)) ∧ w.heap.size < wr.heap.size ∧ wr.cell? ⟨w.heap.size, 0, none⟩ = some (.slice (some ⟨g, 0, none⟩) (2 + 2 * N) c) ∧ wr.ownsRow (w.heap.size + 1) 3 1 v j (ints (riGo xs N h j)) ∧ Below w.heap.size w wr) (fun _ i _ => (h + (m : Int) - intOf i).toNat)
  case atStart => exact ⟨0, Nat.zero_le _, by simp, by omega, c2, World.ownsRow_nil _ _ _ _, HB.out⟩
  case round =>
    obtain ⟨j, hj, rfl, hzr, q1, hown, hnx⟩ := hrel
    by_cases hlt : j < m
    · have hlt' : h + (j : Int) < h + (m : Int) := by omega
      have hq := rsq_bd (h + (j : Int)) HZ.out
      obtain ⟨q, hqe⟩ : ∃ q : Nat, rsq N (h + (j : Int)) + 1 = (q : Int) := ⟨(rsq N (h + (j : Int)) + 1).toNat, by omega⟩
      have HQ := hidIt hqe
      have EQ := hidIt (show cellL xs (q : Int) = xs.getD q 0 by unfold cellL; rw [if_pos ⟨by omega, by rw [HL.out]; omega⟩]; rfl)
      have hG := hidIt (riGo_succ xs N h j)
      rw [hqe] at hG
      rw [show ((q : Int)).toNat = q by omega] at hG
      generalize xs.getD q 0 = x at EQ hG
      have hgr : g < wr.heap.size := by omega
      have hj16 : j ≤ 16 := by omega
      have hlo : w.heap.size + 1 ≤ wr.heap.size := by omega
      have OO := hidIt (show ∀ W, Below (w.heap.size + 1) wr W → Below (w.heap.size + 1) wr W ∧ W.cell? ⟨w.heap.size, 0, none⟩ = some (.slice (some ⟨g, 0, none⟩) (2 + 2 * N) c) from fun W h => ⟨h, below_cell h (by omega) q1⟩)
      have RB := hidIt (fun (W : World) (h : Below (w.heap.size + 1) wr W) => (⟨by have := h.size; omega, HRow.out.below ((hnx.trans (h.mono (by omega))).mono hh)⟩ : hi ≤ W.heap.size ∧ Row W lo hi (.slice (some ⟨g, 0, none⟩) (2 + 2 * N) c) (ints xs)))
      have hS := OO.out _ (Below.refl _ wr)
      have hz3 := fun k hk => (hown.lt k hk).1
      clear hqe hq
      go_wp2_with fail
      go_region_held3 (fun W => Below (w.heap.size + 1) wr W ∧ W.cell? ⟨w.heap.size, 0, none⟩ = some (.slice (some ⟨g, 0, none⟩) (2 + 2 * N) c))
        (first | (go_split_ands; refine OO.out _ ?_; repeat (first | with_reducible assumption | with_reducible exact Below.refl _ _ | with_reducible refine Below.drew ?_ | with_reducible refine below_al2 ?_ hlo _ | with_reducible refine below_gr2 ?_ hgrow hlo hz3 | with_reducible refine below_tr2 ?_ bc hlo)))
        (first | (go_at_call 43; refine (impl_value N (h + (j : Int)) _ HZ.out).mono ?_; rintro e wq ⟨rfl, rfl⟩; rw [HQ.out]) | (go_at_call 41; refine (impl_cellof lo hi _ xs (q : Int) _ (by rw [HL.out]; omega) (RB.out _ (And.left (by assumption))).1 (RB.out _ (And.left (by assumption))).2).mono ?_; rintro e wc ⟨rfl, bc⟩; rw [EQ.out]; have bw : Below wr.heap.size wr wc := (by first | exact bc | exact below_undrew bc); have zc := bw.size) | ((refine step_append_lies _ (by rfl) _ _ _ (by rfl) (w.heap.size + 1) 3 i0 (.int .i64 0) 1 8 Try.underlying24 hi0 hz0 hz1 hz2 rfl (by decide) _ _ _ (by rfl) (own_below hown (by repeat (first | with_reducible exact bw | with_reducible refine below_al ?_ _))) ⟨wc.heap.size, 0, none⟩ 1 1 [.int .i64 x] (by rfl) (by rfl) (cell_one_new _ _ _) (by intro u hu; simp at hu; subst hu; rfl) (by decide) (by unfold maxLen; omega) (by omega) (by simp; omega) (wc.heap.size + 1) (by simp) ?_; intro g' cap w1x hown' hgrow hat hlt)))
      all_goals
        rename_i hHeld
        have hb := hHeld.1
        clear hHeld OO hS RB
        have HB2 := hidIt (hnx.trans (hb.mono (Nat.le_succ _)))
        have q1' := below_cell hb (by omega) q1
        have zb := hb.size
        have HO := hidIt hown'
        clear hown' hgrow hat hb hown hnx bc bw
        go_wp2
        go_roundw
        case rel => exact ⟨j + 1, by omega, by go_num, by omega, q1', by rw [hG.out]; simpa using HO.out, HB2.out⟩
        case measure => simp [intOf]; omega
    · obtain rfl : j = m := by omega
      clear hlt
      go_wp2
      go_ret
      exact ⟨_, rfl, (Row.of_owns (by rw [← riGo_len xs N h j] at hown; simpa [riGo_len] using hown)).lo (by omega), hnx⟩
theorem impl_riitems (n : Int) (lo hi : Nat) (v : Value) (xs : List Int) (w : World) (hh : hi ≤ w.heap.size) (r : Row w lo hi v (ints xs)) :
    Calls Try.prog 15 #[.int .i64 n, .agg #[v]] w fun e w' => ∃ v', e = .returned v' ∧ Row w' w.heap.size w'.heap.size v' (ints (riItems n xs)) ∧ Below w.heap.size w w' := by
  by_cases h : rzB n = true ∧ (xs.length : Int) = 2 + 2 * n
  · have hb : 2 ≤ n ∧ n ≤ 16 := of_decide_eq_true h.1
    obtain ⟨N, rfl⟩ : ∃ i : Nat, n = i := ⟨n.toNat, by omega⟩
    have eR : riItems N xs = _ := if_pos h
    rw [eR]
    cases hE : endsB N (xs.getD 0 0) (xs.getD 1 0)
    · rw [if_neg (by simp)]
      exact impl_riitems_bad N lo hi v xs w (by omega) (by omega) (by omega) hh r hE
    · rw [if_pos rfl]
      unfold endsB at hE
      rw [Bool.and_eq_true, Bool.and_eq_true, decide_eq_true_iff] at hE
      obtain ⟨e1, e2, e3⟩ := hE
      have e1 := numB_of e1
      have e2 := numB_of e2
      exact impl_riitems_yes N _ lo hi _ v xs w (by omega) (by omega) (by omega) hh r (by omega) rfl (by omega) (by omega) (by omega)
  · have e : riItems n xs = [] := if_neg h
    rw [e]
    obtain ⟨a, c, rfl⟩ := r.form
    exact impl_riitems_no n a xs.length c w h

end Go.Proofs.Ytpafbijpncjgiaa
