/- The values of a ring from head to tail, by the model. -/
import Derived.Test.YtpafbijpncjgiaaRows
import Derived.WalkKit
import Derived.ProofKit
import Derived.OpenShut
import Derived.ShutString
import Derived.Test.YtpafbijpncjgiaaRiItemsPlain
import Derived.Test.YtpafbijpncjgiaaRiMod
import Derived.Test.YtpafbijpncjgiaaStackSpec1
import Derived.Test.YtpafbijpncjgiaaCellRow
import Derived.Test.YtpafbijpncjgiaaOutMoves
import Derived.Deep.AppendLies
import Derived.Deep.RegionHeld3
namespace Go.Proofs.Ytpafbijpncjgiaa
open Go.ChangeShapes Go.WideShapes Go.ChangeAt Go.RowKit
set_option linter.unusedVariables false

theorem spec_num (n : Int) (w : World) :
    Calls Try.prog 55 #[.int .i64 n] w fun e w' => e = .returned (.bool (numB n)) ∧ w' = w := by
  by_cases h1 : 0 ≤ n
  · by_cases h2 : n ≤ 4294967295
    · have hb : numB n = true := decide_eq_true ⟨h1, h2⟩
      rw [hb]
      clear hb
      go_enter Try.func55, Try.ntmps55
      go_wp2
      go_ret
      simp
    · have hb : numB n = false := decide_eq_false (by omega)
      rw [hb]
      clear hb
      go_enter Try.func55, Try.ntmps55
      go_wp2
      go_ret
      simp
  · have hb : numB n = false := decide_eq_false (by omega)
    rw [hb]
    clear hb
    go_enter Try.func55, Try.ntmps55
    go_wp2
    go_ret
    exact ⟨rfl, rfl⟩
theorem spec_riitems_no (n : Int) (a : Option Addr) (m c : Nat) (w : World) (hm : m ≤ 4194304) (h : ¬ (rzB n = true ∧ (m : Int) = 2 + 2 * n)) :
    Calls Try.prog 29 #[.int .i64 n, .agg #[.slice a m c]] w fun e w' => ∃ v', e = .returned v' ∧ Row w' w.heap.size w'.heap.size v' (ints []) ∧ Below w.heap.size w w' := by
  by_cases hz : rzB n = true
  · have hb : 2 ≤ n ∧ n ≤ 16 := of_decide_eq_true hz
    obtain ⟨n1, n2⟩ := hb
    have hne : ((m : Int) != 2 + 2 * n) = true := by simp; intro e; exact h ⟨hz, e⟩
    have HZ := hidIt hz
    clear h hz
    go_enter Try.func29, Try.ntmps29
    go_wp2_with (go_at_call 44; refine (spec_rsize n _).mono ?_; rintro e w1 ⟨rfl, rfl⟩; rw [HZ.out])
    go_ret
    exact ⟨_, rfl, ⟨_, _, rfl, .inl rfl⟩, ((Below.refl _ _).alloc (Nat.le_refl _) _).alloc (by simp) _⟩
  · have hz : rzB n = false := by simpa using hz
    clear h
    go_enter Try.func29, Try.ntmps29
    go_wp2_with (go_at_call 44; refine (spec_rsize n _).mono ?_; rintro e w1 ⟨rfl, rfl⟩; rw [hz])
    go_ret
    exact ⟨_, rfl, ⟨_, _, rfl, .inl rfl⟩, ((Below.refl _ _).alloc (Nat.le_refl _) _).alloc (by simp) _⟩

set_option maxHeartbeats 1600000 in
set_option maxRecDepth 100000 in
theorem spec_riitems_bad (N lo hi : Nat) (v : Value) (xs : List Int) (w : World) (h1 : 2 ≤ N) (h2 : N ≤ 16) (hl : xs.length = 2 + 2 * N) (hwf : ∀ z ∈ xs, -9223372036854775808 ≤ z ∧ z ≤ 9223372036854775807) (hh : hi ≤ w.heap.size) (r : Row w lo hi v (ints xs))
    (hE : endsB N (xs.getD 0 0) (xs.getD 1 0) = false) :
    Calls Try.prog 29 #[.int .i64 (N : Int), .agg #[v]] w fun e w' => ∃ v', e = .returned v' ∧ Row w' w.heap.size w'.heap.size v' (ints []) ∧ Below w.heap.size w w' := by
  have hz : rzB N = true := decide_eq_true ⟨by omega, by omega⟩
  have HZ := hidIt hz
  obtain ⟨g, c, rfl, g1, g2, g3, -⟩ := r.ofSome (by omega)
  have hcell : ∀ j, j < 2 + 2 * N → w.cell? ⟨g, j, none⟩ = some (.int .i64 (xs.getD j 0)) := fun j hj => by rw [g3 j (by omega)]; simp [show j < xs.length by omega]
  have c0 := hcell 0 (by omega)
  have c1 := hcell 1 (by omega)
  generalize xs.getD 0 0 = t at c0 hE
  generalize xs.getD 1 0 = h at c1 hE
  have hgz : g < w.heap.size := by omega
  rw [hl]
  clear hwf hz g3 r hcell hl
  have hpos : (0 : Int) < 2 + 2 * (N : Int) := by omega
  have hpos1 : (1 : Int) < 2 + 2 * (N : Int) := by omega
  cases hnt : numB t
  · have HT := hidIt hnt
    clear hnt hE
    go_enter Try.func29, Try.ntmps29
    go_wp2_with (first | (go_at_call 44; refine (spec_rsize N _).mono ?_; rintro e w1 ⟨rfl, rfl⟩; rw [HZ.out]) | (go_at_call 55; refine (spec_num t _).mono ?_; rintro e w1 ⟨rfl, rfl⟩; rw [HT.out]))
    go_ret
    exact ⟨_, rfl, ⟨_, _, rfl, .inl rfl⟩, ((Below.refl _ _).alloc (Nat.le_refl _) _).alloc (by simp) _⟩
  · cases hnh : numB h
    · have HT := hidIt hnt
      have HH := hidIt hnh
      clear hnt hnh hE
      go_enter Try.func29, Try.ntmps29
      go_wp2_with fail
      refine (spec_rsize N _).mono ?_
      rintro e w1 ⟨rfl, rfl⟩
      rw [HZ.out]
      go_wp2_with fail
      refine (spec_num t _).mono ?_
      rintro e w1 ⟨rfl, rfl⟩
      rw [HT.out]
      go_wp2_with fail
      refine (spec_num h _).mono ?_
      rintro e w1 ⟨rfl, rfl⟩
      rw [HH.out]
      go_wp2
      go_ret
      exact ⟨_, rfl, ⟨_, _, rfl, .inl rfl⟩, ((Below.refl _ _).alloc (Nat.le_refl _) _).alloc (by simp) _⟩
    · have ht := numB_of hnt
      have hb := numB_of hnh
      obtain ⟨t1, t2⟩ := ht
      obtain ⟨u1, u2⟩ := hb
      have hin : inB (t - h) 0 N = false := by
        unfold endsB at hE
        rw [hnt, hnh] at hE
        simpa [inB] using hE
      have HT := hidIt hnt
      have HH := hidIt hnh
      have HN := hidIt hin
      clear hnt hnh hE hin
      go_enter Try.func29, Try.ntmps29
      go_wp2_with fail
      refine (spec_rsize N _).mono ?_
      rintro e w1 ⟨rfl, rfl⟩
      rw [HZ.out]
      go_wp2_with fail
      refine (spec_num t _).mono ?_
      rintro e w1 ⟨rfl, rfl⟩
      rw [HT.out]
      go_wp2_with fail
      refine (spec_num h _).mono ?_
      rintro e w1 ⟨rfl, rfl⟩
      rw [HH.out]
      go_wp2_with fail
      refine (spec_in (t - h) 0 N _).mono ?_
      rintro e w1 ⟨rfl, rfl⟩
      rw [HN.out]
      go_wp2
      go_ret
      exact ⟨_, rfl, ⟨_, _, rfl, .inl rfl⟩, ((Below.refl _ _).alloc (Nat.le_refl _) _).alloc (by simp) _⟩

set_option maxHeartbeats 1600000 in
set_option maxRecDepth 100000 in
theorem spec_riitems_yes (N m lo hi : Nat) (h : Int) (v : Value) (xs : List Int) (w : World) (h1 : 2 ≤ N) (h2 : N ≤ 16) (hl : xs.length = 2 + 2 * N) (hh : hi ≤ w.heap.size) (r : Row w lo hi v (ints xs))
    (hx0 : xs.getD 0 0 = h + (m : Int)) (hx1 : xs.getD 1 0 = h) (u1 : 0 ≤ h) (u2 : h + (m : Int) ≤ 4294967295) (hm : m ≤ N) :
    Calls Try.prog 29 #[.int .i64 (N : Int), .agg #[v]] w fun e w' => ∃ v', e = .returned v' ∧ Row w' w.heap.size w'.heap.size v' (ints (riGo xs N h m)) ∧ Below w.heap.size w w' := by
  obtain ⟨i0, hi0, hz0, hz1, hz2⟩ := info_parts info3
  have hz : rzB N = true := decide_eq_true ⟨by omega, by omega⟩
  have HZ := hidIt hz
  obtain ⟨g, c, rfl, g1, g2, g3, -⟩ := r.ofSome (by omega)
  have hcell : ∀ j, j < 2 + 2 * N → w.cell? ⟨g, j, none⟩ = some (.int .i64 (xs.getD j 0)) := fun j hj => by rw [g3 j (by omega)]; simp [show j < xs.length by omega]
  have HG := hidIt hcell
  have c0 := hcell 0 (by omega)
  have c1 := hcell 1 (by omega)
  rw [hx0] at c0
  rw [hx1] at c1
  have hgz : g < w.heap.size := by omega
  have HT := hidIt (show numB (h + (m : Int)) = true from decide_eq_true ⟨by omega, by omega⟩)
  have HH := hidIt (show numB h = true from decide_eq_true ⟨by omega, by omega⟩)
  have HN := hidIt (show inB (m : Int) 0 N = true from decide_eq_true ⟨by omega, by omega⟩)
  rw [hl]
  clear hz g3 r hcell hl hx0 hx1
  have hpos : (0 : Int) < 2 + 2 * (N : Int) := by omega
  have hpos1 : (1 : Int) < 2 + 2 * (N : Int) := by omega
  have hsub : h + (m : Int) - h = (m : Int) := by omega
  go_enter Try.func29, Try.ntmps29
  go_wp2_with fail
  refine (spec_rsize N _).mono ?_
  rintro e w1 ⟨rfl, rfl⟩
  rw [HZ.out]
  go_wp2_with fail
  refine (spec_num (h + (m : Int)) _).mono ?_
  rintro e w1 ⟨rfl, rfl⟩
  rw [HT.out]
  go_wp2_with fail
  refine (spec_num h _).mono ?_
  rintro e w1 ⟨rfl, rfl⟩
  rw [HH.out]
  go_wp2_with fail
  try rw [hsub]
  refine (spec_in (m : Int) 0 N _).mono ?_
  rintro e w1 ⟨rfl, rfl⟩
  rw [HN.out]
  clear c0 c1 hpos hpos1 hsub
  go_wp2
  go_loopw [5, 8] (fun v i wr => ∃ j : Nat, j ≤ m ∧ i = .int .i64 (h + (j : Int)) ∧ w.heap.size < wr.heap.size ∧ wr.cell? ⟨w.heap.size, 0, none⟩ = some (.slice (some ⟨g, 0, none⟩) (2 + 2 * N) c) ∧ wr.ownsRow (w.heap.size + 1) 3 1 v j (ints (riGo xs N h j)) ∧ Below w.heap.size w wr) (fun _ i _ => (h + (m : Int) - intOf i).toNat)
  case atStart => exact ⟨0, Nat.zero_le _, by simp, by simp <;> omega, by simp [go_sem], by have := World.ownsRow_made (base := w.heap.size + 1) (e := 3) (size := 1) (w.alloc (.cells #[.slice (some ⟨g, 0, none⟩) (2 + 2 * N) c] 26)) #[] 0 (by simp) (by unfold maxLen; omega) (by simp); simpa [riGo] using this, ((Below.refl _ _).alloc (Nat.le_refl _) _).alloc (by simp) _⟩
  case round =>
    obtain ⟨j, hj, rfl, hzr, q1, hown, hnx⟩ := hrel
    by_cases hlt : j < m
    · have hlt' : h + (j : Int) < h + (m : Int) := by omega
      have hq := rsq_bd (h + (j : Int)) HZ.out
      obtain ⟨q, hqe⟩ : ∃ q : Nat, rsq N (h + (j : Int)) = (q : Int) - 1 := ⟨(rsq N (h + (j : Int)) + 1).toNat, by omega⟩
      rw [hqe] at hq
      have HQ := hidIt hqe
      have hx : wr.cell? ⟨g, q, none⟩ = some (.int .i64 (xs.getD q 0)) := below_cell hnx hgz (HG.out q (by omega))
      have hG := hidIt (riGo_succ xs N h j)
      rw [hqe] at hG
      rw [show ((q : Int) - 1 + 1).toNat = q by omega] at hG
      generalize xs.getD q 0 = x at hx hG
      have hq2 : (q : Int) < 2 + 2 * (N : Int) := by omega
      have hq3 : (q : Int) ≤ 33 := by omega
      have hq4 : (3 : Int) ≤ (q : Int) := by omega
      have hw1 : IntKind.i64.wrap (q : Int) = (q : Int) := by rw [IntKind.wrap_i64]; omega
      have hw2 : IntKind.i64.wrap ((q : Int) - 1 + 1) = (q : Int) := by rw [IntKind.wrap_i64]; omega
      have hgr : g < wr.heap.size := by omega
      have hj16 : j ≤ 16 := by omega
      have OO := hidIt (show ∀ W, Below (w.heap.size + 1) wr W → Below (w.heap.size + 1) wr W ∧ W.cell? ⟨w.heap.size, 0, none⟩ = some (.slice (some ⟨g, 0, none⟩) (2 + 2 * N) c) ∧ W.cell? ⟨g, q, none⟩ = some (.int .i64 x) from fun W h => ⟨h, below_cell h (by omega) q1, below_cell h (by omega) hx⟩)
      have hlo : w.heap.size + 1 ≤ wr.heap.size := by omega
      have hS := OO.out _ (Below.refl _ wr)
      have hz3 := fun k hk => (hown.lt k hk).1
      clear hqe hq
      go_wp2_with fail
      go_region_held3 (fun W => Below (w.heap.size + 1) wr W ∧ W.cell? ⟨w.heap.size, 0, none⟩ = some (.slice (some ⟨g, 0, none⟩) (2 + 2 * N) c) ∧ W.cell? ⟨g, q, none⟩ = some (.int .i64 x))
        (first | (go_split_ands; refine OO.out _ ?_; repeat (first | with_reducible assumption | with_reducible exact Below.refl _ _ | with_reducible refine Below.drew ?_ | with_reducible refine below_al2 ?_ hlo _ | with_reducible refine below_gr2 ?_ hgrow hlo hz3)))
        (first | (go_at_call 47; refine (spec_seq N (h + (j : Int)) _ HZ.out).mono ?_; rintro e wq ⟨rfl, rfl⟩; rw [HQ.out]) | ((refine step_append_lies _ (by rfl) _ _ _ (by rfl) (w.heap.size + 1) 3 i0 (.int .i64 0) 1 8 Try.underlying24 hi0 hz0 hz1 hz2 rfl (by decide) _ _ _ (by rfl) (own_below hown (by repeat (first | with_reducible exact Below.refl _ _ | with_reducible refine Below.drew ?_ | with_reducible refine Below.alloc ?_ (by simp) _))) ⟨wr.heap.size, 0, none⟩ 1 1 [.int .i64 x] (by rfl) (by rfl) (cell_one_new _ _ _) (by intro u hu; simp at hu; subst hu; rfl) (by decide) (by unfold maxLen; omega) (by omega) (by simp; omega) (wr.heap.size + 1) (by simp) ?_; intro g' cap w1x hown' hgrow hat hlt)))
      all_goals
        rename_i hHeld
        have hb := hHeld.1
        clear hHeld OO hS
        have HB := hidIt (hnx.trans (hb.mono (Nat.le_succ _)))
        have q1' := below_cell hb (by omega) q1
        have zb := hb.size
        have HO := hidIt hown'
        clear hown' hgrow hat hb hown hnx
        go_wp2
        go_roundw
        case rel => exact ⟨j + 1, by omega, by go_num, by omega, q1', by rw [hG.out]; simpa using HO.out, HB.out⟩
        case measure => simp [intOf]; omega
    · obtain rfl : j = m := by omega
      clear hlt
      go_wp2
      go_ret
      exact ⟨_, rfl, (Row.of_owns (by rw [← riGo_len xs N h j] at hown; simpa [riGo_len] using hown)).lo (by omega), hnx⟩
theorem spec_riitems (n : Int) (lo hi : Nat) (v : Value) (xs : List Int) (w : World) (hn : xs.length ≤ 4194304) (hwf : ∀ z ∈ xs, -9223372036854775808 ≤ z ∧ z ≤ 9223372036854775807) (hh : hi ≤ w.heap.size) (r : Row w lo hi v (ints xs)) :
    Calls Try.prog 29 #[.int .i64 n, .agg #[v]] w fun e w' => ∃ v', e = .returned v' ∧ Row w' w.heap.size w'.heap.size v' (ints (riItems n xs)) ∧ Below w.heap.size w w' := by
  by_cases h : rzB n = true ∧ (xs.length : Int) = 2 + 2 * n
  · have hb : 2 ≤ n ∧ n ≤ 16 := of_decide_eq_true h.1
    obtain ⟨N, rfl⟩ : ∃ i : Nat, n = i := ⟨n.toNat, by omega⟩
    have eR : riItems N xs = _ := if_pos h
    rw [eR]
    cases hE : endsB N (xs.getD 0 0) (xs.getD 1 0)
    · rw [if_neg (by simp)]
      exact spec_riitems_bad N lo hi v xs w (by omega) (by omega) (by omega) hwf hh r hE
    · rw [if_pos rfl]
      unfold endsB at hE
      rw [Bool.and_eq_true, Bool.and_eq_true, decide_eq_true_iff] at hE
      obtain ⟨e1, e2, e3⟩ := hE
      have e1 := numB_of e1
      have e2 := numB_of e2
      exact spec_riitems_yes N _ lo hi _ v xs w (by omega) (by omega) (by omega) hh r (by omega) rfl (by omega) (by omega) (by omega)
  · have e : riItems n xs = [] := if_neg h
    rw [e]
    obtain ⟨a, c, rfl⟩ := r.form
    exact spec_riitems_no n a xs.length c w hn h

end Go.Proofs.Ytpafbijpncjgiaa
