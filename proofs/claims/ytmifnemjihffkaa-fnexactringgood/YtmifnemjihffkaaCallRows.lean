/- Rows of calls: measured, copied, held against one another. -/
import Derived.Test.YtmifnemjihffkaaRows
import Derived.WalkKit
import Derived.ProofKit
import Derived.OpenShut
import Derived.ShutString
import Derived.Test.YtmifnemjihffkaaCrewPlain
import Derived.Test.YtmifnemjihffkaaCallFns
import Derived.Deep.RegionHeld3
namespace Go.Proofs.Ytmifnemjihffkaa
open Go.ChangeShapes Go.WideShapes Go.ChangeAt Go.RowKit
set_option linter.unusedVariables false

theorem infoCall : (Try.prog.info? 66).map (fun i => (i.zero, i.size, i.bytes)) = some (some (.agg #[.int .i64 clZero.k, .int .i64 clZero.a, .int .i64 clZero.x, .int .i64 clZero.pc, .int .i64 clZero.p, .int .i64 clZero.c, .int .i64 clZero.w, .int .i64 clZero.r, .int .i64 clZero.v, .bool clZero.d]), 10, 80) := by kernel_rfl
def put10 (w : World) (g o : Nat) (c : Cl) : World := (((((((((w.setCell ⟨g, o, none⟩ (.int .i64 c.k)).setCell ⟨g, o + 1, none⟩ (.int .i64 c.a)).setCell ⟨g, o + 2, none⟩ (.int .i64 c.x)).setCell ⟨g, o + 3, none⟩ (.int .i64 c.pc)).setCell ⟨g, o + 4, none⟩ (.int .i64 c.p)).setCell ⟨g, o + 5, none⟩ (.int .i64 c.c)).setCell ⟨g, o + 6, none⟩ (.int .i64 c.w)).setCell ⟨g, o + 7, none⟩ (.int .i64 c.r)).setCell ⟨g, o + 8, none⟩ (.int .i64 c.v)).setCell ⟨g, o + 9, none⟩ (.bool c.d)
theorem put10_other (w : World) (g o : Nat) (c : Cl) (b q : Nat) (h : b ≠ g ∨ q < o ∨ o + 10 ≤ q) : (put10 w g o c).cell? ⟨b, q, none⟩ = w.cell? ⟨b, q, none⟩ := by
  unfold put10
  repeat rw [World.cell?_setCell_other _ _ _ _ (by simp; omega)]
theorem put10_frozen (w : World) (g o : Nat) (c : Cl) (b q : Nat) : (put10 w g o c).frozen? ⟨b, q, none⟩ = w.frozen? ⟨b, q, none⟩ := by
  unfold put10
  simp only [World.frozen?_setCell]
theorem put10_size (w : World) (g o : Nat) (c : Cl) : (put10 w g o c).heap.size = w.heap.size := by unfold put10; simp
theorem put10_kp (bs : List Nat) (u w : World) (g o : Nat) (c : Cl) (h : Kp bs u w) (hg : g ∈ bs ∨ u.heap.size ≤ g) : Kp bs u (put10 w g o c) := by
  unfold put10
  exact (((((((((h.setCell hg).setCell hg).setCell hg).setCell hg).setCell hg).setCell hg).setCell hg).setCell hg).setCell hg).setCell hg
theorem put10_below (B : Nat) (u w : World) (g o : Nat) (c : Cl) (h : Below B u w) (hg : B ≤ g) : Below B u (put10 w g o c) := by
  unfold put10
  exact (((((((((h.setCell hg _).setCell hg _).setCell hg _).setCell hg _).setCell hg _).setCell hg _).setCell hg _).setCell hg _).setCell hg _).setCell hg _
theorem setc_same {w : World} {b q : Nat} {x : Value} (h : ∃ y, w.cell? ⟨b, q, none⟩ = some y) : (w.setCell ⟨b, q, none⟩ x).cell? ⟨b, q, none⟩ = some x := by
  obtain ⟨y, hy⟩ := h
  exact World.cell?_setCell_same _ _ _ hy
theorem setc_any {w : World} {b q b' q' : Nat} {x : Value} (h : ∃ y, w.cell? ⟨b, q, none⟩ = some y) : ∃ y, (w.setCell ⟨b', q', none⟩ x).cell? ⟨b, q, none⟩ = some y := by
  by_cases e : (⟨b, q, none⟩ : Addr) = ⟨b', q', none⟩
  · obtain ⟨y, hy⟩ := h
    have e2 : b = b' ∧ q = q' := by simpa using e
    obtain ⟨rfl, rfl⟩ := e2
    exact ⟨x, World.cell?_setCell_same _ _ _ hy⟩
  · rw [World.cell?_setCell_other _ _ _ _ (fun h => e h.symm)]
    exact h
theorem setc_up {w : World} {b q q' : Nat} {x v : Value} (h : q < q') (k : w.cell? ⟨b, q, none⟩ = some v) : (w.setCell ⟨b, q', none⟩ x).cell? ⟨b, q, none⟩ = some v := by
  rw [World.cell?_setCell_other _ _ _ _ (by simp <;> omega)]
  exact k
theorem put10_same (w : World) (g o : Nat) (c : Cl) (h : ∀ i, i < 10 → ∃ y, w.cell? ⟨g, o + i, none⟩ = some y) : At10 (put10 w g o c) g o c := by
  have h0 := h 0 (by omega)
  have h1 := h 1 (by omega)
  have h2 := h 2 (by omega)
  have h3 := h 3 (by omega)
  have h4 := h 4 (by omega)
  have h5 := h 5 (by omega)
  have h6 := h 6 (by omega)
  have h7 := h 7 (by omega)
  have h8 := h 8 (by omega)
  have h9 := h 9 (by omega)
  rw [Nat.add_zero] at h0
  unfold put10
  refine ⟨?_, ?_, ?_, ?_, ?_, ?_, ?_, ?_, ?_, ?_⟩
  all_goals (repeat (refine setc_up ?_ ?_; (focus omega)))
  all_goals (refine setc_same ?_; repeat (first | with_reducible assumption | refine setc_any ?_))
theorem put10_at (w : World) (g o : Nat) (c c' : Cl) (b q : Nat) (h : At10 w b q c') (hn : b ≠ g ∨ q + 10 ≤ o ∨ o + 10 ≤ q) : At10 (put10 w g o c) b q c' := by
  have k := fun i (hi : i < 10) => put10_other w g o c b (q + i) (by omega)
  obtain ⟨h0, h1, h2, h3, h4, h5, h6, h7, h8, h9⟩ := h
  generalize put10 w g o c = W at k
  exact ⟨(k 0 (by omega)).trans h0, (k 1 (by omega)).trans h1, (k 2 (by omega)).trans h2, (k 3 (by omega)).trans h3, (k 4 (by omega)).trans h4, (k 5 (by omega)).trans h5, (k 6 (by omega)).trans h6, (k 7 (by omega)).trans h7, (k 8 (by omega)).trans h8, (k 9 (by omega)).trans h9⟩
def CallsNew (w w' : World) (v : Value) (L : List Cl) : Prop := ∃ fp, CallsO w' v L fp ∧ fp.Nodup ∧ (∀ g ∈ fp, w.heap.size ≤ g) ∧ Below w.heap.size w w'

theorem sz_calls (a : Option Addr) (n c : Nat) (l : Int) (w : World) (hn : n ≤ 9223372036854775807) (h1 : 0 ≤ l) (h2 : l ≤ 4194304) :
    Calls Try.prog 70 #[.slice a n c, .int .i64 l] w fun e w' => e = .returned (.int .i64 (if l < n then -1 else l - n)) ∧ w' = w := by
  by_cases h : l < n
  · rw [if_pos h]
    go_enter Try.func70, Try.ntmps70
    go_wp2
    go_ret
    exact ⟨rfl, rfl⟩
  · rw [if_neg h]
    go_enter Try.func70, Try.ntmps70
    go_wp2
    go_ret
    exact ⟨rfl, rfl⟩

theorem eq_calls_zero (a b : Option Addr) (c d : Nat) (w : World) :
    Calls Try.prog 72 #[.slice a 0 c, .slice b 0 d] w fun e w' => e = .returned (.bool true) ∧ Below w.heap.size w w' := by
  go_enter Try.func72, Try.ntmps72
  go_wp2
  go_loop [5] (fun i => i = .int .i64 0) (fun _ => 0)
  case atStart => rfl
  case round =>
    subst hrel
    go_wp2
    go_ret
    exact ⟨rfl, Below.refl _ _⟩

theorem At10.keep {w w' : World} {b o : Nat} {c : Cl} (h : At10 w b o c) (hz : b < w.heap.size) (hb : Below w.heap.size w w') : At10 w' b o c := h.of (cells_of_block (hb.block b hz))
def Two10 (W0 W : World) (a p b q : Nat) (c : Cl) : Prop := Below W0.heap.size W0 W ∧ At10 W a p c ∧ At10 W b q c ∧ a < W.heap.size ∧ b < W.heap.size
theorem Two10.keep {W0 W W' : World} {a p b q : Nat} {c : Cl} (h : Two10 W0 W a p b q c) (hb : Below W.heap.size W W') : Two10 W0 W' a p b q c := by
  obtain ⟨h0, h1, h2, h3, h4⟩ := h
  have := hb.size
  exact ⟨below_step h0 hb, h1.keep h3 hb, h2.keep h4 hb, by omega, by omega⟩
def lim10 (W0 W : World) (a p b q : Nat) (c : Cl) : Prop := Two10 W0 W a p b q c ∧ W.cell? ⟨a, p, none⟩ = some (.int .i64 c.k) ∧ W.cell? ⟨a, p + 1, none⟩ = some (.int .i64 c.a) ∧ W.cell? ⟨a, p + 2, none⟩ = some (.int .i64 c.x) ∧ W.cell? ⟨a, p + 3, none⟩ = some (.int .i64 c.pc) ∧ W.cell? ⟨a, p + 4, none⟩ = some (.int .i64 c.p) ∧ W.cell? ⟨a, p + 5, none⟩ = some (.int .i64 c.c) ∧ W.cell? ⟨a, p + 6, none⟩ = some (.int .i64 c.w) ∧ W.cell? ⟨a, p + 7, none⟩ = some (.int .i64 c.r) ∧ W.cell? ⟨a, p + 8, none⟩ = some (.int .i64 c.v) ∧ W.cell? ⟨a, p + 9, none⟩ = some (.bool c.d) ∧
  W.cell? ⟨b, q, none⟩ = some (.int .i64 c.k) ∧ W.cell? ⟨b, q + 1, none⟩ = some (.int .i64 c.a) ∧ W.cell? ⟨b, q + 2, none⟩ = some (.int .i64 c.x) ∧ W.cell? ⟨b, q + 3, none⟩ = some (.int .i64 c.pc) ∧ W.cell? ⟨b, q + 4, none⟩ = some (.int .i64 c.p) ∧ W.cell? ⟨b, q + 5, none⟩ = some (.int .i64 c.c) ∧ W.cell? ⟨b, q + 6, none⟩ = some (.int .i64 c.w) ∧ W.cell? ⟨b, q + 7, none⟩ = some (.int .i64 c.r) ∧ W.cell? ⟨b, q + 8, none⟩ = some (.int .i64 c.v) ∧ W.cell? ⟨b, q + 9, none⟩ = some (.bool c.d)
theorem lim10_of {W0 W : World} {a p b q : Nat} {c : Cl} (h : Two10 W0 W a p b q c) : lim10 W0 W a p b q c := by
  have h' := h
  obtain ⟨-, ⟨h0, h1, h2, h3, h4, h5, h6, h7, h8, h9⟩, ⟨g0, g1, g2, g3, g4, g5, g6, g7, g8, g9⟩, -⟩ := h
  exact ⟨h', h0, h1, h2, h3, h4, h5, h6, h7, h8, h9, g0, g1, g2, g3, g4, g5, g6, g7, g8, g9⟩

set_option maxHeartbeats 1600000 in
set_option maxRecDepth 100000 in
theorem eq_calls_some (g og h oh c d : Nat) (L : List Cl) (w : World) (hn : L.length ≤ 4194304) (h0 : 0 < L.length) (hg : g < w.heap.size) (hh : h < w.heap.size)
    (hA : ∀ j (hj : j < L.length), At10 w g (og + j * 10) L[j]) (hB : ∀ j (hj : j < L.length), At10 w h (oh + j * 10) L[j]) :
    Calls Try.prog 72 #[.slice (some ⟨g, og, none⟩) L.length c, .slice (some ⟨h, oh, none⟩) L.length d] w fun e w' => e = .returned (.bool true) ∧ Below w.heap.size w w' := by
  have HA := hidIt hA
  have HB := hidIt hB
  clear hA hB
  go_enter Try.func72, Try.ntmps72
  go_wp2
  go_loopw [5] (fun i wr => ∃ k : Nat, k ≤ L.length ∧ i = .int .i64 k ∧ Below w.heap.size w wr) (fun i _ => L.length - (intOf i).toNat)
  case atStart => exact ⟨0, Nat.zero_le _, rfl, Below.refl _ _⟩
  case round =>
    rename World => wr
    obtain ⟨k, hk, rfl, hb⟩ := hrel
    by_cases hlt : k < L.length
    · have cA := HA.out k hlt
      have cB := HB.out k hlt
      have hlt' : (k : Int) < (L.length : Int) := by omega
      generalize L[k] = x at cA cB
      have hS : lim10 w wr g (og + k * 10) h (oh + k * 10) x := lim10_of ⟨hb, cA.keep hg hb, cB.keep hh hb, Nat.lt_of_lt_of_le hg hb.size, Nat.lt_of_lt_of_le hh hb.size⟩
      clear cA cB hb
      unfold lim10 at hS
      go_wp2_with fail
      go_region_held3 (fun W => Two10 w W g (og + k * 10) h (oh + k * 10) x ∧ W.cell? ⟨g, og + k * 10, none⟩ = some (.int .i64 x.k) ∧ W.cell? ⟨g, og + k * 10 + 1, none⟩ = some (.int .i64 x.a) ∧ W.cell? ⟨g, og + k * 10 + 2, none⟩ = some (.int .i64 x.x) ∧ W.cell? ⟨g, og + k * 10 + 3, none⟩ = some (.int .i64 x.pc) ∧ W.cell? ⟨g, og + k * 10 + 4, none⟩ = some (.int .i64 x.p) ∧ W.cell? ⟨g, og + k * 10 + 5, none⟩ = some (.int .i64 x.c) ∧ W.cell? ⟨g, og + k * 10 + 6, none⟩ = some (.int .i64 x.w) ∧ W.cell? ⟨g, og + k * 10 + 7, none⟩ = some (.int .i64 x.r) ∧ W.cell? ⟨g, og + k * 10 + 8, none⟩ = some (.int .i64 x.v) ∧ W.cell? ⟨g, og + k * 10 + 9, none⟩ = some (.bool x.d) ∧
          W.cell? ⟨h, oh + k * 10, none⟩ = some (.int .i64 x.k) ∧ W.cell? ⟨h, oh + k * 10 + 1, none⟩ = some (.int .i64 x.a) ∧ W.cell? ⟨h, oh + k * 10 + 2, none⟩ = some (.int .i64 x.x) ∧ W.cell? ⟨h, oh + k * 10 + 3, none⟩ = some (.int .i64 x.pc) ∧ W.cell? ⟨h, oh + k * 10 + 4, none⟩ = some (.int .i64 x.p) ∧ W.cell? ⟨h, oh + k * 10 + 5, none⟩ = some (.int .i64 x.c) ∧ W.cell? ⟨h, oh + k * 10 + 6, none⟩ = some (.int .i64 x.w) ∧ W.cell? ⟨h, oh + k * 10 + 7, none⟩ = some (.int .i64 x.r) ∧ W.cell? ⟨h, oh + k * 10 + 8, none⟩ = some (.int .i64 x.v) ∧ W.cell? ⟨h, oh + k * 10 + 9, none⟩ = some (.bool x.d))
        (first | exact lim10_of (Two10.keep (And.left (by assumption)) (Below.refl _ _).drew) | exact lim10_of (Two10.keep (And.left (by assumption)) (by assumption)))
        (first | (go_at_call 83; refine (eq_call x _).mono ?_; rintro e wa ⟨rfl, ba⟩))
      rename_i hH
      have hb := hH.1.1
      clear hH
      go_wp2
      go_roundw
      case rel => exact ⟨k + 1, by omega, by go_num, hb⟩
      case measure => simp [intOf]; omega
    · go_wp2
      go_ret
      exact ⟨rfl, hb⟩
theorem len_zero {α : Type} {L : List α} (h : ¬ 0 < L.length) : L = [] := List.length_eq_zero_iff.1 (by omega)
theorem eq_calls (w : World) (v1 v2 : Value) (L : List Cl) (hn : L.length ≤ 4194304) (r1 : CallsIn w v1 L) (r2 : CallsIn w v2 L) :
    Calls Try.prog 72 #[v1, v2] w fun e w' => e = .returned (.bool true) ∧ Below w.heap.size w w' := by
  obtain ⟨a, c, rfl, -, q1⟩ := r1
  obtain ⟨b, d, rfl, -, q2⟩ := r2
  by_cases h0 : 0 < L.length
  · rcases q1 with rfl | ⟨g, og, rfl, g1, q1⟩
    · exact absurd h0 (by simp)
    · rcases q2 with rfl | ⟨h, oh, rfl, h1, q2⟩
      · exact absurd h0 (by simp)
      · exact eq_calls_some g og h oh c d L w hn h0 g1 h1 q1 q2
  · obtain rfl := len_zero h0
    exact eq_calls_zero _ _ c d w
theorem clZero_cells (n j : Nat) (hj : j < n * 10) : ∃ y, (madeCells (.agg #[.int .i64 clZero.k, .int .i64 clZero.a, .int .i64 clZero.x, .int .i64 clZero.pc, .int .i64 clZero.p, .int .i64 clZero.c, .int .i64 clZero.w, .int .i64 clZero.r, .int .i64 clZero.v, .bool clZero.d] : Value).cells (n * 10))[j]? = some y := by
  have h : j < (madeCells (.agg #[.int .i64 clZero.k, .int .i64 clZero.a, .int .i64 clZero.x, .int .i64 clZero.pc, .int .i64 clZero.p, .int .i64 clZero.c, .int .i64 clZero.w, .int .i64 clZero.r, .int .i64 clZero.v, .bool clZero.d] : Value).cells (n * 10)).size := by simp [madeCells]; exact hj
  exact ⟨_, Array.getElem?_eq_getElem h⟩

set_option maxHeartbeats 1600000 in
set_option maxRecDepth 100000 in
theorem to_calls_some (b off c : Nat) (L : List Cl) (w : World) (hn : L.length ≤ 4194304) (h0 : 0 < L.length) (hb : b < w.heap.size)
    (hA : ∀ j (hj : j < L.length), At10 w b (off + j * 10) L[j]) :
    Calls Try.prog 71 #[.slice (some ⟨b, off, none⟩) L.length c] w fun e w' => ∃ v', e = .returned v' ∧ CallsNew w w' v' L := by
  obtain ⟨i0, hi, hz0, hz1, hz2⟩ := info_parts infoCall
  have HA := hidIt hA
  clear hA
  go_enter Try.func71, Try.ntmps71
  go_wp2_with (at_make; refine wpList_make_full _ rfl _ _ 62 rfl w.heap.size 66 i0 (.agg #[.int .i64 clZero.k, .int .i64 clZero.a, .int .i64 clZero.x, .int .i64 clZero.pc, .int .i64 clZero.p, .int .i64 clZero.c, .int .i64 clZero.w, .int .i64 clZero.r, .int .i64 clZero.v, .bool clZero.d]) 10 Try.underlying62 hi hz0 hz1 .i64 .i64 _ _ L.length rfl rfl rfl rfl (by rw [hz2]; omega) (by unfold maxLen; omega) (Nat.le_refl _) ?_; intro w1 hown hgrow)
  have hb1 : Below w.heap.size w w1 := (Below.refl _ _).grown hgrow (Nat.le_refl _) (fun k hk => by cases hk)
  have hgz : w.heap.size < w1.heap.size ∧ (∀ j, j < L.length * 10 → ∃ x, w1.cell? ⟨w.heap.size, j, none⟩ = some x) ∧ ∀ j, w1.frozen? ⟨w.heap.size, j, none⟩ = false := by
    rcases own_cells2 hown with ⟨h, _⟩ | ⟨g, cap, hv, h1, h2, h3, h4, h5, h6, h7⟩
    · cases h
    · simp at hv
      obtain ⟨rfl, _⟩ := hv
      refine ⟨h2, fun j hj => ?_, h7⟩
      have hl : j < (madeCells (.agg #[.int .i64 clZero.k, .int .i64 clZero.a, .int .i64 clZero.x, .int .i64 clZero.pc, .int .i64 clZero.p, .int .i64 clZero.c, .int .i64 clZero.w, .int .i64 clZero.r, .int .i64 clZero.v, .bool clZero.d] : Value).cells (L.length * 10)).toList.length := by omega
      exact ⟨_, h6 j hl⟩
  clear hown hgrow
  obtain ⟨hgs, hg1, hg2⟩ := hgz
  have HG := hidIt hg1
  have HF := hidIt hg2
  clear hg1 hg2
  go_wp2
  go_loopw [4] (fun i wr => ∃ k : Nat, k ≤ L.length ∧ i = .int .i64 k ∧ w.heap.size < wr.heap.size ∧ Below w.heap.size w wr ∧ Hid ((∀ j (hj : j < L.length), j < k → At10 wr w.heap.size (j * 10) L[j]) ∧ (∀ j, k * 10 ≤ j → j < L.length * 10 → ∃ x, wr.cell? ⟨w.heap.size, j, none⟩ = some x) ∧ ∀ j, wr.frozen? ⟨w.heap.size, j, none⟩ = false)) (fun i _ => L.length - (intOf i).toNat)
  case atStart => exact ⟨0, Nat.zero_le _, rfl, hgs, hb1, ⟨fun j _ hj => by omega, fun j _ hj => HG.out j hj, HF.out⟩⟩
  case round =>
    rename World => wr
    obtain ⟨k, hk, rfl, hgr, hbw, HS⟩ := hrel
    by_cases hlt : k < L.length
    · have hlt' : (k : Int) < (L.length : Int) := by omega
      obtain ⟨r0, r1, r2, r3, r4, r5, r6, r7, r8, r9⟩ := (HA.out k hlt).of (fun q => hbw.cell (p := ⟨b, q, none⟩) hb)
      obtain ⟨y, hy⟩ : ∃ y, L[k] = y := ⟨_, rfl⟩
      have HY := hidIt hy
      rw [hy] at r0 r1 r2 r3 r4 r5 r6 r7 r8 r9
      clear hy
      go_wp2_with fail
      refine (to_call y _).mono ?_
      rintro e wt ⟨rfl, bt⟩
      have zt := bt.size
      have hx : ∀ i, i < 10 → ∃ z, wt.cell? ⟨w.heap.size, k * 10 + i, none⟩ = some z := fun i hi => by
        obtain ⟨z, hz⟩ := HS.out.2.1 (k * 10 + i) (by omega) (by omega)
        exact ⟨z, below_cell bt hgr hz⟩
      obtain ⟨x0, c0⟩ := hx 0 (by omega)
      obtain ⟨x1, c1⟩ := hx 1 (by omega)
      obtain ⟨x2, c2⟩ := hx 2 (by omega)
      obtain ⟨x3, c3⟩ := hx 3 (by omega)
      obtain ⟨x4, c4⟩ := hx 4 (by omega)
      obtain ⟨x5, c5⟩ := hx 5 (by omega)
      obtain ⟨x6, c6⟩ := hx 6 (by omega)
      obtain ⟨x7, c7⟩ := hx 7 (by omega)
      obtain ⟨x8, c8⟩ := hx 8 (by omega)
      obtain ⟨x9, c9⟩ := hx 9 (by omega)
      rw [Nat.add_zero] at c0
      have HX := hidIt hx
      have hz : ∀ j, wt.frozen? ⟨w.heap.size, j, none⟩ = false := fun j => below_frozen bt hgr (HS.out.2.2 j)
      have BT := hidIt bt
      clear bt r0 r1 r2 r3 r4 r5 r6 r7 r8 r9 hx
      go_wp2
      go_roundw
      case rel =>
        refine ⟨k + 1, by omega, by go_num, by simp; omega, put10_below _ _ _ _ (k * 10) y (below_step hbw (BT.out.mono (by omega))) (Nat.le_refl _), ⟨fun j hj hjk => ?_, fun j hj1 hj2 => ?_, fun j => ?_⟩⟩
        · by_cases ej : j = k
          · subst ej
            rw [HY.out]
            exact put10_same wt _ (j * 10) y HX.out
          · exact put10_at wt _ (k * 10) y _ _ _ (At10.keep (HS.out.1 j hj (by omega)) hgr BT.out) (by omega)
        · obtain ⟨z, hz⟩ := HS.out.2.1 j (by omega) hj2
          exact ⟨z, (put10_other wt w.heap.size (k * 10) y w.heap.size j (by omega)).trans (below_cell BT.out hgr hz)⟩
        · exact (put10_frozen wt w.heap.size (k * 10) y w.heap.size j).trans (below_frozen BT.out hgr (HS.out.2.2 j))
      case measure => simp [intOf]; omega
    · go_wp2
      go_ret
      exact ⟨.slice (some ⟨w.heap.size, 0, none⟩) L.length L.length, rfl, [w.heap.size], ⟨_, L.length, rfl, Nat.le_refl _, .inr ⟨w.heap.size, rfl, rfl, hgr, fun j hj => HS.out.1 j hj (by omega), HS.out.2.2⟩⟩, by simp, by simp, hbw⟩

theorem to_calls_zero (a : Option Addr) (c : Nat) (w : World) :
    Calls Try.prog 71 #[.slice a 0 c] w fun e w' => ∃ v', e = .returned v' ∧ CallsNew w w' v' [] := by
  obtain ⟨i0, hi, hz0, hz1, hz2⟩ := info_parts infoCall
  go_enter Try.func71, Try.ntmps71
  go_wp2_with (at_make; refine wpList_make_full _ rfl _ _ 62 rfl w.heap.size 66 i0 (.agg #[.int .i64 clZero.k, .int .i64 clZero.a, .int .i64 clZero.x, .int .i64 clZero.pc, .int .i64 clZero.p, .int .i64 clZero.c, .int .i64 clZero.w, .int .i64 clZero.r, .int .i64 clZero.v, .bool clZero.d]) 10 Try.underlying62 hi hz0 hz1 .i64 .i64 _ _ 0 rfl rfl rfl rfl (by omega) (by unfold maxLen; omega) (Nat.le_refl _) ?_; intro w1 hown hgrow)
  have hb1 : Below w.heap.size w w1 := (Below.refl _ _).grown hgrow (Nat.le_refl _) (fun k hk => by cases hk)
  clear hown hgrow
  go_wp2
  go_loop [4] (fun i => i = .int .i64 0) (fun _ => 0)
  case atStart => rfl
  case round =>
    subst hrel
    go_wp2
    go_ret
    exact ⟨.slice (some ⟨w.heap.size, 0, none⟩) 0 0, rfl, [], ⟨_, 0, rfl, Nat.le_refl _, .inl ⟨rfl, rfl⟩⟩, by simp, by simp, hb1⟩

theorem to_calls (w : World) (v : Value) (L : List Cl) (hn : L.length ≤ 4194304) (h : CallsIn w v L) :
    Calls Try.prog 71 #[v] w fun e w' => ∃ v', e = .returned v' ∧ CallsNew w w' v' L := by
  obtain ⟨a, cap, rfl, -, h⟩ := h
  by_cases h0 : 0 < L.length
  · rcases h with rfl | ⟨b, off, rfl, h1, h2⟩
    · exact absurd h0 (by simp)
    · exact to_calls_some b off cap L w hn h0 h1 h2
  · obtain rfl := len_zero h0
    exact to_calls_zero _ cap w

end Go.Proofs.Ytmifnemjihffkaa
