/- Threads and rows of threads that came in, copied. -/
import Derived.Test.YtikliofkplbdpaaRows
import Derived.WalkKit
import Derived.ProofKit
import Derived.OpenShut
import Derived.ShutString
import Derived.Test.YtikliofkplbdpaaThRows
namespace Go.Proofs.Ytikliofkplbdpaa
open Go.ChangeShapes Go.WideShapes Go.ChangeAt Go.RowKit
set_option linter.unusedVariables false

/- a variable of the call's own: all its cells, and that it may be written -/
def Bx (W : World) (b : Nat) (xs : Array Value) : Prop := b < W.heap.size ∧ (∀ o, W.cell? ⟨b, o, none⟩ = xs[o]?) ∧ ∀ o, W.frozen? ⟨b, o, none⟩ = false
theorem Bx.block {W W' : World} {b : Nat} {xs : Array Value} (h : Bx W b xs) (hz : W.heap.size ≤ W'.heap.size) (e : W'.heap[b]? = W.heap[b]?) : Bx W' b xs :=
  ⟨Nat.lt_of_lt_of_le h.1 hz, fun o => (cells_of_block e o).trans (h.2.1 o), fun o => (frozen_of_block e o).trans (h.2.2 o)⟩
theorem Bx.below {W W' : World} {b : Nat} {xs : Array Value} (h : Bx W b xs) (hb : Below W.heap.size W W') : Bx W' b xs := h.block hb.size (hb.block b h.1)
theorem Bx.alloc {W : World} {b : Nat} {xs : Array Value} (h : Bx W b xs) (o : Obj) : Bx (W.alloc o) b xs := h.below ((Below.refl _ _).alloc (Nat.le_refl _) _)
theorem Bx.drew {W : World} {b : Nat} {xs : Array Value} (h : Bx W b xs) : Bx W.drew b xs := h.below ((Below.refl _ _).drew)
theorem Bx.new (W : World) (xs : Array Value) (T : TypeId) : Bx (W.alloc (.cells xs T)) W.heap.size xs := ⟨by simp, fun o => by simp [go_sem], fun o => by simp [go_sem]⟩
theorem Bx.newAt {W : World} {n : Nat} (xs : Array Value) (T : TypeId) (hn : n = W.heap.size) : Bx (W.alloc (.cells xs T)) n xs := by subst hn; exact Bx.new W xs T
theorem bx2 (w : World) (A B : Array Value) (Ta Tb : TypeId) : Bx ((w.alloc (.cells A Ta)).alloc (.cells B Tb)) w.heap.size A ∧ Bx ((w.alloc (.cells A Ta)).alloc (.cells B Tb)) (w.heap.size + 1) B ∧ Below w.heap.size w ((w.alloc (.cells A Ta)).alloc (.cells B Tb)) ∧ ((w.alloc (.cells A Ta)).alloc (.cells B Tb)).heap.size = w.heap.size + 2 :=
  ⟨(Bx.new w _ _).alloc _, Bx.newAt _ _ (by simp), ((Below.refl w.heap.size w).alloc (Nat.le_refl _) _).alloc (by simp) _, by simp⟩
theorem bx3 (w : World) (A B C : Array Value) (Ta Tb Tc : TypeId) : Bx (((w.alloc (.cells A Ta)).alloc (.cells B Tb)).alloc (.cells C Tc)) w.heap.size A ∧ Bx (((w.alloc (.cells A Ta)).alloc (.cells B Tb)).alloc (.cells C Tc)) (w.heap.size + 1) B ∧ Bx (((w.alloc (.cells A Ta)).alloc (.cells B Tb)).alloc (.cells C Tc)) (w.heap.size + 1 + 1) C ∧ Below w.heap.size w (((w.alloc (.cells A Ta)).alloc (.cells B Tb)).alloc (.cells C Tc)) ∧ (((w.alloc (.cells A Ta)).alloc (.cells B Tb)).alloc (.cells C Tc)).heap.size = w.heap.size + 3 :=
  ⟨((Bx.new w _ _).alloc _).alloc _, (Bx.newAt _ _ (by simp)).alloc _, Bx.newAt _ _ (by simp), (((Below.refl w.heap.size w).alloc (Nat.le_refl _) _).alloc (by simp) _).alloc (by simp <;> omega) _, by simp⟩
theorem Bx.set {W : World} {b i : Nat} {xs : Array Value} (h : Bx W b xs) (x : Value) (hi : i < xs.size) : Bx (W.setCell ⟨b, i, none⟩ x) b (xs.setIfInBounds i x) := by
  refine ⟨by simpa using h.1, fun o => ?_, fun o => by rw [World.frozen?_setCell]; exact h.2.2 o⟩
  by_cases e : o = i
  · subst e
    refine (World.cell?_setCell_same _ _ _ ((h.2.1 o).trans (Array.getElem?_eq_getElem hi))).trans ?_
    simp [hi]
  · rw [World.cell?_setCell_other _ _ _ _ (by simp <;> omega), h.2.1 o, Array.getElem?_setIfInBounds_ne (by omega)]
theorem Bx.other {W : World} {b p i : Nat} {xs : Array Value} (h : Bx W b xs) (x : Value) (hp : b ≠ p) : Bx (W.setCell ⟨p, i, none⟩ x) b xs :=
  h.block (by simp) (Below.heap_setCell _ _ _ _ (by simpa using hp))
theorem CallsO.set {w : World} {v : Value} {xs : List Cl} {fp : List Nat} (h : CallsO w v xs fp) {p i : Nat} {x : Value} (hp : ¬ p ∈ fp) : CallsO (w.setCell ⟨p, i, none⟩ x) v xs fp :=
  h.loc (by simp) (fun g hg => Below.heap_setCell _ _ _ _ (by show g ≠ p; intro e; exact hp (e ▸ hg)))
theorem IntsO.set {w : World} {v : Value} {xs : List Int} {fp : List Nat} (h : IntsO w v xs fp) {p i : Nat} {x : Value} (hp : ¬ p ∈ fp) : IntsO (w.setCell ⟨p, i, none⟩ x) v xs fp :=
  h.loc (by simp) (fun g hg => Below.heap_setCell _ _ _ _ (by show g ≠ p; intro e; exact hp (e ▸ hg)))
theorem ThO.set {w : World} {v0 v2 v3 : Value} {t : Th} {fp : List Nat} (h : ThO w v0 v2 v3 t fp) {p i : Nat} {x : Value} (hp : ¬ p ∈ fp) : ThO (w.setCell ⟨p, i, none⟩ x) v0 v2 v3 t fp :=
  h.loc (by simp) (fun g hg => Below.heap_setCell _ _ _ _ (by show g ≠ p; intro e; exact hp (e ▸ hg)))
theorem ThsO.set {w : World} {v : Value} {ts : List Th} {fp : List Nat} (h : ThsO w v ts fp) {p i : Nat} {x : Value} (hp : ¬ p ∈ fp) : ThsO (w.setCell ⟨p, i, none⟩ x) v ts fp :=
  h.loc (by simp) (fun g hg => Below.heap_setCell _ _ _ _ (by show g ≠ p; intro e; exact hp (e ▸ hg)))
theorem not_mem_lt {fp : List Nat} {p s : Nat} (h : ∀ g ∈ fp, s ≤ g) (hp : p < s) : ¬ p ∈ fp := fun hm => by have := h p hm; omega
/- a row of integers, copied: it is owned, and its length is within its room -/
def IntsNew (w w' : World) (v : Value) (xs : List Int) : Prop := ∃ fp, IntsO w' v xs fp ∧ fp.Nodup ∧ (∀ g ∈ fp, w.heap.size ≤ g) ∧ Below w.heap.size w w'
def ThNew (w w' : World) (v0 v2 v3 : Value) (t : Th) : Prop := ∃ fp, ThO w' v0 v2 v3 t fp ∧ fp.Nodup ∧ (∀ g ∈ fp, w.heap.size ≤ g) ∧ Below w.heap.size w w'
def ThsNew (w w' : World) (v : Value) (ts : List Th) : Prop := ∃ fp, ThsO w' v ts fp ∧ fp.Nodup ∧ (∀ g ∈ fp, w.heap.size ≤ g) ∧ Below w.heap.size w w'
def CwNew (w w' : World) (vm vt : Value) (C : Cw) : Prop := ∃ fp, CwO w' vm vt C fp ∧ fp.Nodup ∧ (∀ g ∈ fp, w.heap.size ≤ g) ∧ Below w.heap.size w w'
set_option maxHeartbeats 800000 in
set_option maxRecDepth 100000 in
theorem to_ints_some (b off c : Nat) (xs : List Int) (w : World) (hn : xs.length ≤ 4194304) (h0 : 0 < xs.length) (hb : b < w.heap.size)
    (hA : ∀ j (hj : j < xs.length), w.cell? ⟨b, off + j, none⟩ = some (.int .i64 xs[j])) :
    Calls Try.prog 16 #[.slice (some ⟨b, off, none⟩) xs.length c] w fun e w' => ∃ v', e = .returned v' ∧ IntsNew w w' v' xs := by
  obtain ⟨i0, hi, hz0, hz1, hz2⟩ := info_parts info3
  have HA : Hid _ := hA
  clear hA
  go_enter Try.func16, Try.ntmps16
  go_wp2_with (at_make; refine wpList_make_full _ rfl _ _ 22 rfl w.heap.size 3 i0 (.int .i64 0) 1 Try.underlying22 hi hz0 hz1 .i64 .i64 _ _ xs.length rfl rfl rfl rfl (by rw [hz2]; omega) (by unfold maxLen; omega) (Nat.le_refl _) ?_; intro w1 hown hgrow)
  have hb1 : Below w.heap.size w w1 := (Below.refl _ _).grown hgrow (Nat.le_refl _) (fun k hk => by cases hk)
  have hgz : w.heap.size < w1.heap.size ∧ (∀ j, j < xs.length → ∃ x, w1.cell? ⟨w.heap.size, j, none⟩ = some x) ∧ ∀ j, w1.frozen? ⟨w.heap.size, j, none⟩ = false := by
    rcases own_cells hown with ⟨h, _⟩ | ⟨g, cap, hv, h1, h2, h3, h4, h5, h6, h7⟩
    · cases h
    · simp at hv
      obtain ⟨rfl, _⟩ := hv
      refine ⟨h2, fun j hj => ?_, h7⟩
      have hl : j < (madeCells (Value.int .i64 0).cells (xs.length * 1)).toList.length := by omega
      exact ⟨_, h6 j hl⟩
  clear hown hgrow
  obtain ⟨hgs, hg1, hg2⟩ := hgz
  have HG : Hid _ := hg1
  have HF : Hid _ := hg2
  clear hg1 hg2
  go_wp2
  go_loopw [4] (fun i wr => ∃ k : Nat, k ≤ xs.length ∧ i = .int .i64 k ∧ w.heap.size < wr.heap.size ∧ Below w.heap.size w wr ∧ Hid ((∀ j (hj : j < xs.length), j < k → wr.cell? ⟨w.heap.size, j, none⟩ = some (.int .i64 xs[j])) ∧ (∀ j, k ≤ j → j < xs.length → ∃ x, wr.cell? ⟨w.heap.size, j, none⟩ = some x) ∧ ∀ j, wr.frozen? ⟨w.heap.size, j, none⟩ = false)) (fun i _ => xs.length - (intOf i).toNat)
  case atStart => exact ⟨0, Nat.zero_le _, rfl, hgs, hb1, ⟨fun j _ hj => by omega, fun j _ hj => HG.out j hj, HF.out⟩⟩
  case round =>
    obtain ⟨k, hk, rfl, hgr, hbw, HS⟩ := hrel
    by_cases hlt : k < xs.length
    · obtain ⟨x, hx⟩ := HS.out.2.1 k (Nat.le_refl _) hlt
      have hz := HS.out.2.2 k
      have hlt' : (k : Int) < (xs.length : Int) := by omega
      have hr := (hbw.cell (p := ⟨b, off + k, none⟩) hb).trans (HA.out k hlt)
      obtain ⟨y, hy⟩ : ∃ y, xs[k] = y := ⟨_, rfl⟩
      rw [hy] at hr
      have HY : Hid _ := hy
      clear hy
      go_wp2
      go_roundw
      case rel =>
        refine ⟨k + 1, by omega, by go_num, by simp; omega, hbw.setCell (Nat.le_refl _) _, ⟨fun j hj hjk => ?_, fun j hj1 hj2 => ?_, fun j => ?_⟩⟩
        · by_cases ej : j = k
          · subst ej; refine (World.cell?_setCell_same _ _ _ hx).trans ?_; rw [HY.out]
          · rw [World.cell?_setCell_other _ _ _ _ (by simp <;> omega)]; exact HS.out.1 j hj (by omega)
        · rw [World.cell?_setCell_other _ _ _ _ (by simp <;> omega)]; exact HS.out.2.1 j (by omega) hj2
        · rw [World.frozen?_setCell]; exact HS.out.2.2 j
      case measure => simp [intOf]; omega
    · go_wp2
      go_ret
      exact ⟨.slice (some ⟨w.heap.size, 0, none⟩) xs.length xs.length, rfl, [w.heap.size], ⟨_, xs.length, rfl, trivial, .inr ⟨w.heap.size, rfl, rfl, hgr, fun j hj => HS.out.1 j hj (by omega), HS.out.2.2⟩⟩, by simp, by simp, hbw⟩
theorem to_ints_zero (a : Option Addr) (c : Nat) (w : World) :
    Calls Try.prog 16 #[.slice a 0 c] w fun e w' => ∃ v', e = .returned v' ∧ IntsNew w w' v' [] := by
  obtain ⟨i0, hi, hz0, hz1, hz2⟩ := info_parts info3
  go_enter Try.func16, Try.ntmps16
  go_wp2_with (at_make; refine wpList_make_full _ rfl _ _ 22 rfl w.heap.size 3 i0 (.int .i64 0) 1 Try.underlying22 hi hz0 hz1 .i64 .i64 _ _ 0 rfl rfl rfl rfl (by omega) (by unfold maxLen; omega) (Nat.le_refl _) ?_; intro w1 hown hgrow)
  have hb1 : Below w.heap.size w w1 := (Below.refl _ _).grown hgrow (Nat.le_refl _) (fun k hk => by cases hk)
  clear hown hgrow
  go_wp2
  go_loop [4] (fun i => i = .int .i64 0) (fun _ => 0)
  case atStart => rfl
  case round =>
    subst hrel
    go_wp2
    go_ret
    exact ⟨.slice (some ⟨w.heap.size, 0, none⟩) 0 0, rfl, [], ⟨_, 0, rfl, trivial, .inl ⟨rfl, rfl⟩⟩, by simp, by simp, hb1⟩
theorem to_ints (w : World) (v : Value) (xs : List Int) (hn : xs.length ≤ 4194304) (h : IntsIn w v xs) :
    Calls Try.prog 16 #[v] w fun e w' => ∃ v', e = .returned v' ∧ IntsNew w w' v' xs := by
  obtain ⟨⟨a, cap, rfl, h⟩, -⟩ := h
  by_cases h0 : 0 < xs.length
  · rcases h with rfl | ⟨b, off, rfl, h1, h2⟩
    · exact absurd h0 (by simp)
    · exact to_ints_some b off cap xs w hn h0 h1 h2
  · obtain rfl := len_zero h0
    exact to_ints_zero _ cap w
theorem infoTh4 (n j : Nat) (hj : j < n * 4) : ∃ y, (madeCells (Value.agg #[.slice none 0 0, .int .i64 0, .slice none 0 0, .slice none 0 0]).cells (n * 4))[j]? = some y := by
  have h : j < (madeCells (Value.agg #[.slice none 0 0, .int .i64 0, .slice none 0 0, .slice none 0 0]).cells (n * 4)).size := by simp [madeCells]; exact hj
  exact ⟨_, Array.getElem?_eq_getElem h⟩
def put4 (w : World) (g o : Nat) (x0 x1 x2 x3 : Value) : World := (((w.setCell ⟨g, o, none⟩ x0).setCell ⟨g, o + 1, none⟩ x1).setCell ⟨g, o + 2, none⟩ x2).setCell ⟨g, o + 3, none⟩ x3
theorem put4_other (w : World) (g o : Nat) (x0 x1 x2 x3 : Value) (b q : Nat) (h : b ≠ g ∨ q < o ∨ o + 4 ≤ q) : (put4 w g o x0 x1 x2 x3).cell? ⟨b, q, none⟩ = w.cell? ⟨b, q, none⟩ := by
  unfold put4
  repeat rw [World.cell?_setCell_other _ _ _ _ (by simp; omega)]
theorem put4_frozen (w : World) (g o : Nat) (x0 x1 x2 x3 : Value) (b q : Nat) : (put4 w g o x0 x1 x2 x3).frozen? ⟨b, q, none⟩ = w.frozen? ⟨b, q, none⟩ := by
  unfold put4
  simp only [World.frozen?_setCell]
theorem put4_size (w : World) (g o : Nat) (x0 x1 x2 x3 : Value) : (put4 w g o x0 x1 x2 x3).heap.size = w.heap.size := by unfold put4; simp
theorem put4_block (w : World) (g o : Nat) (x0 x1 x2 x3 : Value) (b : Nat) (h : b ≠ g) : (put4 w g o x0 x1 x2 x3).heap[b]? = w.heap[b]? := by
  unfold put4
  exact (Below.heap_setCell _ _ _ _ h).trans ((Below.heap_setCell _ _ _ _ h).trans ((Below.heap_setCell _ _ _ _ h).trans (Below.heap_setCell _ _ _ _ h)))
theorem put4_below (B : Nat) (u w : World) (g o : Nat) (x0 x1 x2 x3 : Value) (h : Below B u w) (hg : B ≤ g) : Below B u (put4 w g o x0 x1 x2 x3) := by
  unfold put4
  exact (((h.setCell hg _).setCell hg _).setCell hg _).setCell hg _
theorem put4_same (w : World) (g o : Nat) (x0 x1 x2 x3 : Value) (h : ∀ i, i < 4 → ∃ y, w.cell? ⟨g, o + i, none⟩ = some y) : At4 (put4 w g o x0 x1 x2 x3) g o x0 x1 x2 x3 := by
  have h0 := h 0 (by omega)
  have h1 := h 1 (by omega)
  have h2 := h 2 (by omega)
  have h3 := h 3 (by omega)
  rw [Nat.add_zero] at h0
  unfold put4
  refine ⟨?_, ?_, ?_, ?_⟩
  all_goals (repeat (refine setc_up ?_ ?_; (focus omega)))
  all_goals (refine setc_same ?_; repeat (first | with_reducible assumption | refine setc_any ?_))
theorem put4_at (w : World) (g o : Nat) (x0 x1 x2 x3 : Value) (b q : Nat) (y0 y1 y2 y3 : Value) (h : At4 w b q y0 y1 y2 y3) (hn : b ≠ g ∨ q + 4 ≤ o ∨ o + 4 ≤ q) : At4 (put4 w g o x0 x1 x2 x3) b q y0 y1 y2 y3 := by
  have k := fun i (hi : i < 4) => put4_other w g o x0 x1 x2 x3 b (q + i) (by omega)
  obtain ⟨h0, h1, h2, h3⟩ := h
  generalize put4 w g o x0 x1 x2 x3 = W at k
  exact ⟨(k 0 (by omega)).trans h0, (k 1 (by omega)).trans h1, (k 2 (by omega)).trans h2, (k 3 (by omega)).trans h3⟩
theorem At4.keep {w w' : World} {b o : Nat} {v0 v1 v2 v3 : Value} (h : At4 w b o v0 v1 v2 v3) (hz : b < w.heap.size) (hb : Below w.heap.size w w') : At4 w' b o v0 v1 v2 v3 := h.of (cells_of_block (hb.block b hz))
def TsFit (ts : List Th) : Prop := ∀ j (hj : j < ts.length), ts[j].cs.length ≤ 4194304 ∧ ts[j].bs.length ≤ 4194304 ∧ ts[j].es.length ≤ 4194304
/- the first k threads of a row, copied into block g -/
def ThsMade (wr : World) (lo g : Nat) (ts : List Th) (k : Nat) (fps : Nat → List Nat) : Prop :=
  (∀ j (hj : j < ts.length), j < k → ∃ v0 v2 v3, At4 wr g (j * 4) v0 (.int .i64 ts[j].at_) v2 v3 ∧ ThO wr v0 v2 v3 ts[j] (fps j)) ∧
  (∀ j, k * 4 ≤ j → j < ts.length * 4 → ∃ x, wr.cell? ⟨g, j, none⟩ = some x) ∧ (∀ j, wr.frozen? ⟨g, j, none⟩ = false) ∧
  (g :: (List.range k).flatMap fps).Nodup ∧ (∀ x ∈ (List.range k).flatMap fps, g < x ∧ x < wr.heap.size) ∧ lo ≤ g ∧ g < wr.heap.size

end Go.Proofs.Ytikliofkplbdpaa
