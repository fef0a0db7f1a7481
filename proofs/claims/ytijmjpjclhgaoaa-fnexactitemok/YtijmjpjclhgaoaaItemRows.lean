/- Rows of items: read, owned, measured, copied, held against one another, marked. -/
import Derived.Test.YtijmjpjclhgaoaaRows
import Derived.WalkKit
import Derived.ProofKit
import Derived.OpenShut
import Derived.ShutString
import Derived.Test.YtijmjpjclhgaoaaCallRows
import Derived.Test.YtijmjpjclhgaoaaMarkText
import Derived.Test.YtijmjpjclhgaoaaStrRows
import Derived.Test.YtijmjpjclhgaoaaCrewMark
import Derived.Test.YtijmjpjclhgaoaaCrewHeld
import Derived.Deep.RegionHeld3
import Derived.Deep.RegionWith
namespace Go.Proofs.Ytijmjpjclhgaoaa
open Go.ChangeShapes Go.WideShapes Go.ChangeAt Go.RowKit
set_option linter.unusedVariables false

structure It where
  k : ByteArray
  v : ByteArray
  f : Int
def itemZero : It := ⟨ByteArray.empty, ByteArray.empty, 0⟩
instance : Inhabited It := ⟨itemZero⟩
def ItemAt (w : World) (b o : Nat) (c : It) : Prop := w.cell? ⟨b, o, none⟩ = some (.string c.k) ∧ w.cell? ⟨b, o + 1, none⟩ = some (.string c.v) ∧ w.cell? ⟨b, o + 2, none⟩ = some (.int .i64 c.f)
theorem ItemAt.of {w w' : World} {b o : Nat} {c : It} (h : ItemAt w b o c) (hb : ∀ q, w'.cell? ⟨b, q, none⟩ = w.cell? ⟨b, q, none⟩) : ItemAt w' b o c := by
  obtain ⟨h0, h1, h2⟩ := h
  exact ⟨(hb _).trans h0, (hb _).trans h1, (hb _).trans h2⟩
theorem ItemAt.keep {w w' : World} {b o : Nat} {c : It} (h : ItemAt w b o c) (hz : b < w.heap.size) (hb : Below w.heap.size w w') : ItemAt w' b o c := h.of (cells_of_block (hb.block b hz))
theorem ItemAt.eqv {W : World} {b o : Nat} {c c' : It} (h : ItemAt W b o c) (e : c = c') : ItemAt W b o c' := e ▸ h
def ItemsIn (w : World) (v : Value) (cs : List It) : Prop :=
  ∃ a cap, v = .slice a cs.length cap ∧ cs.length ≤ cap ∧ (cs = [] ∨ ∃ b off, a = some ⟨b, off, none⟩ ∧ b < w.heap.size ∧ ∀ j (hj : j < cs.length), ItemAt w b (off + j * 3) cs[j])
theorem ItemsIn.below {w w' : World} {v : Value} {cs : List It} (h : ItemsIn w v cs) (hb : Below w.heap.size w w') : ItemsIn w' v cs := by
  obtain ⟨a, cap, hv, hc, h⟩ := h
  refine ⟨a, cap, hv, hc, ?_⟩
  rcases h with h | ⟨b, off, ha, h1, h2⟩
  · exact .inl h
  · exact .inr ⟨b, off, ha, Nat.lt_of_lt_of_le h1 hb.size, fun j hj => (h2 j hj).of (cells_of_block (hb.block b h1))⟩
theorem ItemsIn.form {w : World} {v : Value} {cs : List It} (h : ItemsIn w v cs) : ∃ a c, v = .slice a cs.length c ∧ cs.length ≤ c := by
  obtain ⟨a, c, h1, h2, _⟩ := h
  exact ⟨a, c, h1, h2⟩
def ItemsO (w : World) (v : Value) (cs : List It) (fp : List Nat) : Prop :=
  ∃ a cap, v = .slice a cs.length cap ∧ cs.length ≤ cap ∧ ((cs = [] ∧ fp = []) ∨ ∃ g, a = some ⟨g, 0, none⟩ ∧ fp = [g] ∧ g < w.heap.size ∧ (∀ j (hj : j < cs.length), ItemAt w g (j * 3) cs[j]) ∧ ∀ j, w.frozen? ⟨g, j, none⟩ = false)
theorem ItemsO.loc' {w w' : World} {v : Value} {xs : List It} {fp : List Nat} (h : ItemsO w v xs fp) (hb : ∀ g ∈ fp, w'.heap[g]? = w.heap[g]?) : ItemsO w' v xs fp := by
  obtain ⟨a, cap, hv, hc, h⟩ := h
  refine ⟨a, cap, hv, hc, ?_⟩
  rcases h with h | ⟨g, ha, hf, h1, h2, h3⟩
  · exact .inl h
  · have e := hb g (by rw [hf]; exact List.mem_singleton.2 rfl)
    exact .inr ⟨g, ha, hf, lt_of_block e h1, fun j hj => (h2 j hj).of (cells_of_block e), fun j => (frozen_of_block e j).trans (h3 j)⟩
theorem ItemsO.lt {w : World} {v : Value} {xs : List It} {fp : List Nat} (h : ItemsO w v xs fp) : ∀ g ∈ fp, g < w.heap.size := by
  obtain ⟨a, cap, hv, hc, ⟨-, rfl⟩ | ⟨g, ha, rfl, h1, -⟩⟩ := h
  · simp
  · simpa using h1
theorem ItemsO.below {w w' : World} {v : Value} {xs : List It} {fp : List Nat} (h : ItemsO w v xs fp) (hb : Below w.heap.size w w') : ItemsO w' v xs fp := h.loc' (fun g hg => hb.block g (h.lt g hg))
theorem ItemsO.rd {w : World} {v : Value} {xs : List It} {fp : List Nat} (h : ItemsO w v xs fp) : ItemsIn w v xs := by
  obtain ⟨a, cap, hv, hc, h⟩ := h
  refine ⟨a, cap, hv, hc, ?_⟩
  rcases h with ⟨h, -⟩ | ⟨g, ha, -, h1, h2, -⟩
  · exact .inl h
  · exact .inr ⟨g, 0, ha, h1, fun j hj => by rw [Nat.zero_add]; exact h2 j hj⟩
theorem ItemsO.set {w : World} {v : Value} {xs : List It} {fp : List Nat} (h : ItemsO w v xs fp) {p i : Nat} {x : Value} (hp : ¬ p ∈ fp) : ItemsO (w.setCell ⟨p, i, none⟩ x) v xs fp :=
  h.loc' (fun g hg => Below.heap_setCell _ _ _ _ (by show g ≠ p; intro e; exact hp (e ▸ hg)))
def ItemsNew (w w' : World) (v : Value) (L : List It) : Prop := ∃ fp, ItemsO w' v L fp ∧ fp.Nodup ∧ (∀ g ∈ fp, w.heap.size ≤ g) ∧ Below w.heap.size w w'
theorem ItemsO.within {lo hi : Nat} {v : Value} {cs : List It} {fp : List Nat} (h : ∀ g ∈ fp, lo ≤ g ∧ g < hi) : Loc lo hi (fun W => ItemsO W v cs fp) :=
  fun w w' p hk => p.loc' (fun g hg => hk g (h g hg).1 (h g hg).2)
theorem Kp.items {bs : List Nat} {w w' : World} {v : Value} {t : List It} {fp : List Nat} (h : Kp bs w w') (a : ItemsO w v t fp) (hn : ∀ x ∈ fp, ¬ x ∈ bs) : ItemsO w' v t fp := a.loc' (fun x hx => h.block x (a.lt x hx) (hn x hx))
theorem infoItem : (Try.prog.info? 26).map (fun i => (i.zero, i.size, i.bytes)) = some (some (.agg #[.string itemZero.k, .string itemZero.v, .int .i64 itemZero.f]), 3, 40) := by kernel_rfl
def putItem (w : World) (g o : Nat) (c : It) : World := ((w.setCell ⟨g, o, none⟩ (.string c.k)).setCell ⟨g, o + 1, none⟩ (.string c.v)).setCell ⟨g, o + 2, none⟩ (.int .i64 c.f)
theorem putItem_other (w : World) (g o : Nat) (c : It) (b q : Nat) (h : b ≠ g ∨ q < o ∨ o + 3 ≤ q) : (putItem w g o c).cell? ⟨b, q, none⟩ = w.cell? ⟨b, q, none⟩ := by
  unfold putItem
  repeat rw [World.cell?_setCell_other _ _ _ _ (by simp; omega)]
theorem putItem_frozen (w : World) (g o : Nat) (c : It) (b q : Nat) : (putItem w g o c).frozen? ⟨b, q, none⟩ = w.frozen? ⟨b, q, none⟩ := by
  unfold putItem
  simp only [World.frozen?_setCell]
theorem putItem_size (w : World) (g o : Nat) (c : It) : (putItem w g o c).heap.size = w.heap.size := by unfold putItem; simp
theorem putItem_kp (bs : List Nat) (u w : World) (g o : Nat) (c : It) (h : Kp bs u w) (hg : g ∈ bs ∨ u.heap.size ≤ g) : Kp bs u (putItem w g o c) := by
  unfold putItem
  exact ((h.setCell hg).setCell hg).setCell hg
theorem putItem_below (B : Nat) (u w : World) (g o : Nat) (c : It) (h : Below B u w) (hg : B ≤ g) : Below B u (putItem w g o c) := by
  unfold putItem
  exact ((h.setCell hg _).setCell hg _).setCell hg _
theorem putItem_same (w : World) (g o : Nat) (c : It) (h : ∀ i, i < 3 → ∃ y, w.cell? ⟨g, o + i, none⟩ = some y) : ItemAt (putItem w g o c) g o c := by
  have h0 := h 0 (by omega)
  have h1 := h 1 (by omega)
  have h2 := h 2 (by omega)
  rw [Nat.add_zero] at h0
  unfold putItem
  refine ⟨?_, ?_, ?_⟩
  all_goals (repeat (refine setc_up ?_ ?_; (focus omega)))
  all_goals (refine setc_same ?_; repeat (first | with_reducible assumption | refine setc_any ?_))
theorem putItem_at (w : World) (g o : Nat) (c c' : It) (b q : Nat) (h : ItemAt w b q c') (hn : b ≠ g ∨ q + 3 ≤ o ∨ o + 3 ≤ q) : ItemAt (putItem w g o c) b q c' := by
  have k := fun i (hi : i < 3) => putItem_other w g o c b (q + i) (by omega)
  obtain ⟨h0, h1, h2⟩ := h
  generalize putItem w g o c = W at k
  exact ⟨(k 0 (by omega)).trans h0, (k 1 (by omega)).trans h1, (k 2 (by omega)).trans h2⟩
theorem putItem_block (w : World) (g o : Nat) (c : It) (b : Nat) (h : b ≠ g) : (putItem w g o c).heap[b]? = w.heap[b]? := by
  unfold putItem
  repeat rw [Below.heap_setCell _ _ _ _ (by simpa using h)]

set_option maxRecDepth 100000 in
theorem to_item (c : It) (w : World) :
    Calls Try.prog 11 #[.agg #[.string c.k, .string c.v, .int .i64 c.f]] w fun e w' => e = .returned (.agg #[.string c.k, .string c.v, .int .i64 c.f]) ∧ Below w.heap.size w w' := by
  go_enter Try.func11, Try.ntmps11
  go_wp2
  refine bodyPost_ret (v := .agg #[.string c.k, .string c.v, .int .i64 c.f]) (by simp [results, Try.results11, go_sem]) rfl ⟨rfl, ?_⟩
  repeat (first | exact Below.refl _ _ | refine Below.setCell ?_ (by simp <;> omega) _ | refine Below.alloc ?_ (by simp <;> omega) _)
set_option maxRecDepth 100000 in
theorem eq_item (c : It) (w : World) :
    Calls Try.prog 66 #[.agg #[.string c.k, .string c.v, .int .i64 c.f], .agg #[.string c.k, .string c.v, .int .i64 c.f]] w fun e w' => e = .returned (.bool true) ∧ Below w.heap.size w w' := by
  go_enter Try.func66, Try.ntmps66
  go_wp2
  go_ret
  exact ⟨rfl, ((Below.refl _ _).alloc (Nat.le_refl _) _).alloc (by simp) _⟩
def szIt (c : It) : Nat := c.k.size + c.v.size
def szItS (L : List It) : Nat := (L.map szIt).sum
theorem szItS_take (L : List It) (k : Nat) (hk : k < L.length) : szItS (L.take (k + 1)) = szItS (L.take k) + szIt L[k] := by
  unfold szItS
  rw [List.take_succ_eq_append_getElem hk, List.map_append, List.sum_append, List.map_cons, List.map_nil, List.sum_cons, List.sum_nil, Nat.add_zero]
theorem szItS_le (L : List It) (k : Nat) : szItS (L.take k) ≤ szItS L := by
  unfold szItS
  have := List.take_append_drop k L
  have e : (L.map szIt).sum = ((L.take k).map szIt).sum + ((L.drop k).map szIt).sum := by
    rw [← List.sum_append, ← List.map_append, this]
  omega
def szRI (L : List It) (l : Int) : Int := if ((L.length + szItS L : Nat) : Int) ≤ l then l - (L.length + szItS L : Nat) else -1
def ItLim (c : It) : Prop := c.k.size ≤ 9223372036854775807 ∧ c.v.size ≤ 9223372036854775807
theorem ret_iv {a b : Int} (h : a = b) : Value.int .i64 a = .int .i64 b := by rw [h]
theorem sz_item (c : It) (l : Int) (w : World) (hc : ItLim c) (h1 : 0 ≤ l) (h2 : l ≤ 4194304) :
    Calls Try.prog 9 #[.agg #[.string c.k, .string c.v, .int .i64 c.f], .int .i64 l] w fun e w' => e = .returned (.int .i64 (if ((szIt c : Nat) : Int) ≤ l then l - (szIt c : Nat) else -1)) ∧ Below w.heap.size w w' := by
  obtain ⟨q1, q2⟩ := hc
  unfold szIt
  by_cases h : ((c.k.size : Nat) : Int) ≤ l
  · by_cases h' : ((c.k.size + c.v.size : Nat) : Int) ≤ l
    · rw [if_pos h']
      go_enter Try.func9, Try.ntmps9
      go_wp2
      go_ret
      exact ⟨ret_ints (by omega), (Below.refl _ _).alloc (Nat.le_refl _) _⟩
    · rw [if_neg h']
      go_enter Try.func9, Try.ntmps9
      go_wp2
      go_ret
      exact ⟨rfl, (Below.refl _ _).alloc (Nat.le_refl _) _⟩
  · rw [if_neg (by omega)]
    go_enter Try.func9, Try.ntmps9
    go_wp2
    go_ret
    exact ⟨rfl, (Below.refl _ _).alloc (Nat.le_refl _) _⟩
theorem sz_items_zero (a : Option Addr) (c : Nat) (l : Int) (w : World) (h1 : 0 ≤ l) (h2 : l ≤ 4194304) :
    Calls Try.prog 32 #[.slice a 0 c, .int .i64 l] w fun e w' => e = .returned (.int .i64 l) ∧ Below w.heap.size w w' := by
  go_enter Try.func32, Try.ntmps32
  go_wp2
  go_loop [5, 1] (fun i k => i = .int .i64 0 ∧ k = .int .i64 l) (fun _ _ => 0)
  case atStart => exact ⟨rfl, ret_iv (by omega)⟩
  case round =>
    obtain ⟨rfl, rfl⟩ := hrel
    go_wp2
    go_ret
    exact ⟨rfl, Below.refl _ _⟩
set_option maxHeartbeats 800000 in
set_option maxRecDepth 100000 in
theorem sz_items_some (b off c : Nat) (L : List It) (l : Int) (w : World) (hn : L.length ≤ 9223372036854775807) (h0 : 0 < L.length) (hb : b < w.heap.size) (h1 : 0 ≤ l) (h2 : l ≤ 4194304)
    (hA : ∀ j (hj : j < L.length), ItemAt w b (off + j * 3) L[j]) (hz : ∀ x ∈ L, ItLim x) :
    Calls Try.prog 32 #[.slice (some ⟨b, off, none⟩) L.length c, .int .i64 l] w fun e w' => e = .returned (.int .i64 (szRI L l)) ∧ Below w.heap.size w w' := by
  have HA := hidIt hA
  have HZ := hidIt hz
  clear hA hz
  by_cases hl : ((L.length : Nat) : Int) ≤ l
  · go_enter Try.func32, Try.ntmps32
    go_wp2
    go_loopw [5, 1] (fun i kk wr => ∃ (k : Nat) (z : Int), k ≤ L.length ∧ i = .int .i64 k ∧ kk = .int .i64 z ∧ Below w.heap.size w wr ∧ 0 ≤ z ∧ z ≤ 4194304 ∧ Hid (z = l - ((L.length + szItS (L.take k) : Nat) : Int))) (fun i _ _ => L.length - (intOf i).toNat)
    case atStart => exact ⟨0, l - (L.length : Nat), Nat.zero_le _, rfl, rfl, Below.refl _ _, by omega, by omega, by show _ = _; simp [szItS]⟩
    case round =>
      rename World => wr
      obtain ⟨k, z, hk, rfl, rfl, hbw, hz0, hz1, HS⟩ := hrel
      by_cases hlt : k < L.length
      · have hlt' : (k : Int) < (L.length : Int) := by omega
        obtain ⟨r0, r1, r2⟩ := (HA.out k hlt).of (fun q => hbw.cell (p := ⟨b, q, none⟩) hb)
        have hy := HZ.out L[k] (List.getElem_mem hlt)
        have hT := hidIt (szItS_take L k hlt)
        have hW := hidIt (szItS_le L (k + 1))
        generalize L[k] = y at r0 r1 r2 hy hT
        have HY := hidIt hy
        clear hy
        go_wp2_with fail
        refine (sz_item y z _ HY.out hz0 hz1).mono ?_
        rintro e wt ⟨rfl, bt⟩
        have zt := bt.size
        by_cases hs : ((szIt y : Nat) : Int) ≤ z
        · rw [if_pos hs]
          have BT := hidIt bt
          clear bt r0 r1 r2
          go_wp2
          go_roundw
          case rel => exact ⟨k + 1, z - (szIt y : Nat), by omega, by go_num, rfl, below_step hbw (BT.out.mono (by omega)), by omega, by omega, by have := HS.out; have := hT.out; show _ = _; omega⟩
          case measure => simp [intOf]; omega
        · rw [if_neg hs]
          have hf : ¬ ((L.length + szItS L : Nat) : Int) ≤ l := by have := HS.out; have := hT.out; have := hW.out; omega
          go_wp2
          go_ret
          exact ⟨ret_ints (by unfold szRI; rw [if_neg (by omega)]), below_step hbw (bt.mono (by omega))⟩
      · have HK : Hid (k = L.length) := (by omega : k = L.length)
        have HF : Hid (z = l - ((L.length + szItS L : Nat) : Int)) := by have := HS.out; rw [HK.out, List.take_length] at this; exact this
        go_wp2
        go_ret
        exact ⟨ret_ints (by unfold szRI; have := HF.out; rw [if_pos (by omega)]; omega), hbw⟩
  · go_enter Try.func32, Try.ntmps32
    go_wp2
    go_ret
    exact ⟨ret_ints (by unfold szRI; rw [if_neg (by omega)]), Below.refl _ _⟩
theorem sz_items (w : World) (v : Value) (L : List It) (l : Int) (hn : L.length ≤ 9223372036854775807) (h1 : 0 ≤ l) (h2 : l ≤ 4194304) (h : ItemsIn w v L) (hz : ∀ x ∈ L, ItLim x) :
    Calls Try.prog 32 #[v, .int .i64 l] w fun e w' => e = .returned (.int .i64 (szRI L l)) ∧ Below w.heap.size w w' := by
  obtain ⟨a, cap, rfl, -, h⟩ := h
  by_cases h0 : 0 < L.length
  · rcases h with rfl | ⟨b, off, rfl, q1, q2⟩
    · exact absurd h0 (by simp)
    · exact sz_items_some b off cap L l w hn h0 q1 h1 h2 q2 hz
  · obtain rfl := len_zero h0
    refine (sz_items_zero a cap l w h1 h2).mono ?_
    rintro e w' ⟨rfl, b⟩
    exact ⟨ret_ints (by unfold szRI; rw [if_pos (by simp [szItS]; omega)]; simp [szItS]), b⟩
theorem eq_items_zero (a b : Option Addr) (c d : Nat) (w : World) :
    Calls Try.prog 46 #[.slice a 0 c, .slice b 0 d] w fun e w' => e = .returned (.bool true) ∧ Below w.heap.size w w' := by
  go_enter Try.func46, Try.ntmps46
  go_wp2
  go_loop [5] (fun i => i = .int .i64 0) (fun _ => 0)
  case atStart => rfl
  case round =>
    subst hrel
    go_wp2
    go_ret
    exact ⟨rfl, Below.refl _ _⟩
def TwoItem (W0 W : World) (a p b q : Nat) (c : It) : Prop := Below W0.heap.size W0 W ∧ ItemAt W a p c ∧ ItemAt W b q c ∧ a < W.heap.size ∧ b < W.heap.size
theorem TwoItem.keep {W0 W W' : World} {a p b q : Nat} {c : It} (h : TwoItem W0 W a p b q c) (hb : Below W.heap.size W W') : TwoItem W0 W' a p b q c := by
  obtain ⟨h0, h1, h2, h3, h4⟩ := h
  have := hb.size
  exact ⟨below_step h0 hb, h1.keep h3 hb, h2.keep h4 hb, by omega, by omega⟩
def limItem (W0 W : World) (a p b q : Nat) (c : It) : Prop := TwoItem W0 W a p b q c ∧ W.cell? ⟨a, p, none⟩ = some (.string c.k) ∧ W.cell? ⟨a, p + 1, none⟩ = some (.string c.v) ∧ W.cell? ⟨a, p + 2, none⟩ = some (.int .i64 c.f) ∧
  W.cell? ⟨b, q, none⟩ = some (.string c.k) ∧ W.cell? ⟨b, q + 1, none⟩ = some (.string c.v) ∧ W.cell? ⟨b, q + 2, none⟩ = some (.int .i64 c.f)
theorem limItem_of {W0 W : World} {a p b q : Nat} {c : It} (h : TwoItem W0 W a p b q c) : limItem W0 W a p b q c := by
  have h' := h
  obtain ⟨-, ⟨h0, h1, h2⟩, ⟨g0, g1, g2⟩, -⟩ := h
  exact ⟨h', h0, h1, h2, g0, g1, g2⟩
set_option maxHeartbeats 1600000 in
set_option maxRecDepth 100000 in
theorem eq_items_some (g og h oh c d : Nat) (L : List It) (w : World) (hn : L.length ≤ 4194304) (h0 : 0 < L.length) (hg : g < w.heap.size) (hh : h < w.heap.size)
    (hA : ∀ j (hj : j < L.length), ItemAt w g (og + j * 3) L[j]) (hB : ∀ j (hj : j < L.length), ItemAt w h (oh + j * 3) L[j]) :
    Calls Try.prog 46 #[.slice (some ⟨g, og, none⟩) L.length c, .slice (some ⟨h, oh, none⟩) L.length d] w fun e w' => e = .returned (.bool true) ∧ Below w.heap.size w w' := by
  have HA := hidIt hA
  have HB := hidIt hB
  clear hA hB
  go_enter Try.func46, Try.ntmps46
  go_wp2
  go_loopw [5] (fun i wr => ∃ k : Nat, k ≤ L.length ∧ i = .int .i64 k ∧ Below w.heap.size w wr) (fun i _ => L.length - (intOf i).toNat)
  case atStart => exact ⟨0, Nat.zero_le _, rfl, Below.refl _ _⟩
  case round =>
    rename World => wr
    obtain ⟨k, hk, rfl, hb⟩ := hrel
    by_cases hlt : k < L.length
    · have cA := HA.out k hlt
      have cB := HB.out k hlt
      have hlt' : (k : Int) < (L.length : Int) := by omega
      generalize L[k] = x at cA cB
      have hS : limItem w wr g (og + k * 3) h (oh + k * 3) x := limItem_of ⟨hb, cA.keep hg hb, cB.keep hh hb, Nat.lt_of_lt_of_le hg hb.size, Nat.lt_of_lt_of_le hh hb.size⟩
      clear cA cB hb
      unfold limItem at hS
      go_wp2_with fail
      go_region_held3 (fun W => TwoItem w W g (og + k * 3) h (oh + k * 3) x ∧ W.cell? ⟨g, og + k * 3, none⟩ = some (.string x.k) ∧ W.cell? ⟨g, og + k * 3 + 1, none⟩ = some (.string x.v) ∧ W.cell? ⟨g, og + k * 3 + 2, none⟩ = some (.int .i64 x.f) ∧
          W.cell? ⟨h, oh + k * 3, none⟩ = some (.string x.k) ∧ W.cell? ⟨h, oh + k * 3 + 1, none⟩ = some (.string x.v) ∧ W.cell? ⟨h, oh + k * 3 + 2, none⟩ = some (.int .i64 x.f))
        (first | exact limItem_of (TwoItem.keep (And.left (by assumption)) (Below.refl _ _).drew) | exact limItem_of (TwoItem.keep (And.left (by assumption)) (by assumption)))
        (first | (go_at_call 66; refine (eq_item x _).mono ?_; rintro e wa ⟨rfl, ba⟩))
      rename_i hH
      have hb := hH.1.1
      clear hH
      go_wp2
      go_roundw
      case rel => exact ⟨k + 1, by omega, by go_num, hb⟩
      case measure => simp [intOf]; omega
    · go_wp2
      go_ret
      exact ⟨rfl, hb⟩
theorem eq_items (w : World) (v1 v2 : Value) (L : List It) (hn : L.length ≤ 4194304) (r1 : ItemsIn w v1 L) (r2 : ItemsIn w v2 L) :
    Calls Try.prog 46 #[v1, v2] w fun e w' => e = .returned (.bool true) ∧ Below w.heap.size w w' := by
  obtain ⟨a, c, rfl, -, q1⟩ := r1
  obtain ⟨b, d, rfl, -, q2⟩ := r2
  by_cases h0 : 0 < L.length
  · rcases q1 with rfl | ⟨g, og, rfl, g1, q1⟩
    · exact absurd h0 (by simp)
    · rcases q2 with rfl | ⟨h, oh, rfl, h1, q2⟩
      · exact absurd h0 (by simp)
      · exact eq_items_some g og h oh c d L w hn h0 g1 h1 q1 q2
  · obtain rfl := len_zero h0
    exact eq_items_zero _ _ c d w
set_option maxHeartbeats 1600000 in
set_option maxRecDepth 100000 in
theorem to_items_some (b off c : Nat) (L : List It) (w : World) (hn : L.length ≤ 4194304) (h0 : 0 < L.length) (hb : b < w.heap.size)
    (hA : ∀ j (hj : j < L.length), ItemAt w b (off + j * 3) L[j]) :
    Calls Try.prog 38 #[.slice (some ⟨b, off, none⟩) L.length c] w fun e w' => ∃ v', e = .returned v' ∧ ItemsNew w w' v' L := by
  obtain ⟨i0, hi, hz0, hz1, hz2⟩ := info_parts infoItem
  have HA := hidIt hA
  clear hA
  go_enter Try.func38, Try.ntmps38
  go_wp2_with (at_make; refine wpList_make_full _ rfl _ _ 35 rfl w.heap.size 26 i0 (.agg #[.string itemZero.k, .string itemZero.v, .int .i64 itemZero.f]) 3 Try.underlying35 hi hz0 hz1 .i64 .i64 _ _ L.length rfl rfl rfl rfl (by rw [hz2]; omega) (by unfold maxLen; omega) (Nat.le_refl _) ?_; intro w1 hown hgrow)
  have hb1 : Below w.heap.size w w1 := (Below.refl _ _).grown hgrow (Nat.le_refl _) (fun k hk => by cases hk)
  have hgz : w.heap.size < w1.heap.size ∧ (∀ j, j < L.length * 3 → ∃ x, w1.cell? ⟨w.heap.size, j, none⟩ = some x) ∧ ∀ j, w1.frozen? ⟨w.heap.size, j, none⟩ = false := by
    rcases own_cells2 hown with ⟨h, _⟩ | ⟨g, cap, hv, h1, h2, h3, h4, h5, h6, h7⟩
    · cases h
    · simp at hv
      obtain ⟨rfl, _⟩ := hv
      refine ⟨h2, fun j hj => ?_, h7⟩
      have hl : j < (madeCells (.agg #[.string itemZero.k, .string itemZero.v, .int .i64 itemZero.f] : Value).cells (L.length * 3)).toList.length := by omega
      exact ⟨_, h6 j hl⟩
  clear hown hgrow
  obtain ⟨hgs, hg1, hg2⟩ := hgz
  have HG := hidIt hg1
  have HF := hidIt hg2
  clear hg1 hg2
  go_wp2
  go_loopw [4] (fun i wr => ∃ k : Nat, k ≤ L.length ∧ i = .int .i64 k ∧ w.heap.size < wr.heap.size ∧ Below w.heap.size w wr ∧ Hid ((∀ j (hj : j < L.length), j < k → ItemAt wr w.heap.size (j * 3) L[j]) ∧ (∀ j, k * 3 ≤ j → j < L.length * 3 → ∃ x, wr.cell? ⟨w.heap.size, j, none⟩ = some x) ∧ ∀ j, wr.frozen? ⟨w.heap.size, j, none⟩ = false)) (fun i _ => L.length - (intOf i).toNat)
  case atStart => exact ⟨0, Nat.zero_le _, rfl, hgs, hb1, ⟨fun j _ hj => by omega, fun j _ hj => HG.out j hj, HF.out⟩⟩
  case round =>
    rename World => wr
    obtain ⟨k, hk, rfl, hgr, hbw, HS⟩ := hrel
    by_cases hlt : k < L.length
    · have hlt' : (k : Int) < (L.length : Int) := by omega
      obtain ⟨r0, r1, r2⟩ := (HA.out k hlt).of (fun q => hbw.cell (p := ⟨b, q, none⟩) hb)
      obtain ⟨y, hy⟩ : ∃ y, L[k] = y := ⟨_, rfl⟩
      have HY := hidIt hy
      rw [hy] at r0 r1 r2
      clear hy
      go_wp2_with fail
      refine (to_item y _).mono ?_
      rintro e wt ⟨rfl, bt⟩
      have zt := bt.size
      have hx : ∀ i, i < 3 → ∃ z, wt.cell? ⟨w.heap.size, k * 3 + i, none⟩ = some z := fun i hi => by
        obtain ⟨z, hz⟩ := HS.out.2.1 (k * 3 + i) (by omega) (by omega)
        exact ⟨z, below_cell bt hgr hz⟩
      obtain ⟨x0, c0⟩ := hx 0 (by omega)
      obtain ⟨x1, c1⟩ := hx 1 (by omega)
      obtain ⟨x2, c2⟩ := hx 2 (by omega)
      rw [Nat.add_zero] at c0
      have HX := hidIt hx
      have hz : ∀ j, wt.frozen? ⟨w.heap.size, j, none⟩ = false := fun j => below_frozen bt hgr (HS.out.2.2 j)
      have BT := hidIt bt
      clear bt r0 r1 r2 hx
      go_wp2
      go_roundw
      case rel =>
        refine ⟨k + 1, by omega, by go_num, by simp; omega, putItem_below _ _ _ _ (k * 3) y (below_step hbw (BT.out.mono (by omega))) (Nat.le_refl _), ⟨fun j hj hjk => ?_, fun j hj1 hj2 => ?_, fun j => ?_⟩⟩
        · by_cases ej : j = k
          · subst ej
            rw [HY.out]
            exact putItem_same wt _ (j * 3) y HX.out
          · exact putItem_at wt _ (k * 3) y _ _ _ (ItemAt.keep (HS.out.1 j hj (by omega)) hgr BT.out) (by omega)
        · obtain ⟨z, hz⟩ := HS.out.2.1 j (by omega) hj2
          exact ⟨z, (putItem_other wt w.heap.size (k * 3) y w.heap.size j (by omega)).trans (below_cell BT.out hgr hz)⟩
        · exact (putItem_frozen wt w.heap.size (k * 3) y w.heap.size j).trans (below_frozen BT.out hgr (HS.out.2.2 j))
      case measure => simp [intOf]; omega
    · go_wp2
      go_ret
      exact ⟨.slice (some ⟨w.heap.size, 0, none⟩) L.length L.length, rfl, [w.heap.size], ⟨_, L.length, rfl, Nat.le_refl _, .inr ⟨w.heap.size, rfl, rfl, hgr, fun j hj => HS.out.1 j hj (by omega), HS.out.2.2⟩⟩, by simp, by simp, hbw⟩
theorem to_items_zero (a : Option Addr) (c : Nat) (w : World) :
    Calls Try.prog 38 #[.slice a 0 c] w fun e w' => ∃ v', e = .returned v' ∧ ItemsNew w w' v' [] := by
  obtain ⟨i0, hi, hz0, hz1, hz2⟩ := info_parts infoItem
  go_enter Try.func38, Try.ntmps38
  go_wp2_with (at_make; refine wpList_make_full _ rfl _ _ 35 rfl w.heap.size 26 i0 (.agg #[.string itemZero.k, .string itemZero.v, .int .i64 itemZero.f]) 3 Try.underlying35 hi hz0 hz1 .i64 .i64 _ _ 0 rfl rfl rfl rfl (by omega) (by unfold maxLen; omega) (Nat.le_refl _) ?_; intro w1 hown hgrow)
  have hb1 : Below w.heap.size w w1 := (Below.refl _ _).grown hgrow (Nat.le_refl _) (fun k hk => by cases hk)
  clear hown hgrow
  go_wp2
  go_loop [4] (fun i => i = .int .i64 0) (fun _ => 0)
  case atStart => rfl
  case round =>
    subst hrel
    go_wp2
    go_ret
    exact ⟨.slice (some ⟨w.heap.size, 0, none⟩) 0 0, rfl, [], ⟨_, 0, rfl, Nat.le_refl _, .inl ⟨rfl, rfl⟩⟩, by simp, by simp, hb1⟩
theorem to_items (w : World) (v : Value) (L : List It) (hn : L.length ≤ 4194304) (h : ItemsIn w v L) :
    Calls Try.prog 38 #[v] w fun e w' => ∃ v', e = .returned v' ∧ ItemsNew w w' v' L := by
  obtain ⟨a, cap, rfl, -, h⟩ := h
  by_cases h0 : 0 < L.length
  · rcases h with rfl | ⟨b, off, rfl, h1, h2⟩
    · exact absurd h0 (by simp)
    · exact to_items_some b off cap L w hn h0 h1 h2
  · obtain rfl := len_zero h0
    exact to_items_zero _ cap w
def mkItem (k : Nat) : It := ⟨mt k, mt (k + 1), ((k + 2 : Nat) : Int)⟩
def mkItems (k n : Nat) : List It := (List.range n).map fun j => mkItem (k + 3 * j)
theorem mkItems_len (k n : Nat) : (mkItems k n).length = n := by simp [mkItems]
theorem mkItems_at (k n j : Nat) (hj : j < (mkItems k n).length) : (mkItems k n)[j] = mkItem (k + 3 * j) := by simp [mkItems]
theorem mark_items_zero (a : Option Addr) (c k0 : Nat) (w : World) :
    Calls Try.prog 48 #[.slice a 0 c, .int .i64 k0] w fun e w' => e = .returned (.int .i64 k0) ∧ w' = w := by
  go_enter Try.func48, Try.ntmps48
  go_wp2
  go_loop [5, 1] (fun i k => i = .int .i64 0 ∧ k = .int .i64 k0) (fun _ _ => 0)
  case atStart => exact ⟨rfl, rfl⟩
  case round =>
    obtain ⟨rfl, rfl⟩ := hrel
    go_wp2
    go_ret
    exact ⟨rfl, rfl⟩
theorem held_items_zero (a : Option Addr) (c k0 : Nat) (w : World) :
    Calls Try.prog 50 #[.slice a 0 c, .int .i64 k0] w fun e w' => e = .returned (.int .i64 k0) ∧ w' = w := by
  go_enter Try.func50, Try.ntmps50
  go_wp2
  go_loop [5, 1] (fun i k => i = .int .i64 0 ∧ k = .int .i64 k0) (fun _ _ => 0)
  case atStart => exact ⟨rfl, rfl⟩
  case round =>
    obtain ⟨rfl, rfl⟩ := hrel
    go_wp2
    go_ret
    exact ⟨rfl, rfl⟩
theorem ItemAt.of' {w w' : World} {b o : Nat} {c : It} (h : ItemAt w b o c) (hb : ∀ i, i < 3 → w'.cell? ⟨b, o + i, none⟩ = w.cell? ⟨b, o + i, none⟩) : ItemAt w' b o c := by
  obtain ⟨h0, h1, h2⟩ := h
  exact ⟨(hb 0 (by omega)).trans h0, (hb 1 (by omega)).trans h1, (hb 2 (by omega)).trans h2⟩
theorem setc_ex {w : World} {a p : Addr} {x : Value} (h : ∃ z, w.cell? p = some z) : ∃ z, (w.setCell a x).cell? p = some z := by
  obtain ⟨z, hz⟩ := h
  by_cases e : p = a
  · subst e
    exact ⟨x, World.cell?_setCell_same _ _ _ hz⟩
  · exact ⟨z, (World.cell?_setCell_other _ _ _ _ (fun h => e h.symm)).trans hz⟩
theorem mark3 (w wr w1 w2 w3 : World) (g k n : Nat) (v0 v1 v2 : Value) (hgr : g < wr.heap.size) (kp : Kp [g] w wr) (b1 : Below wr.heap.size wr w1) (b3 : Below w2.heap.size w2 w3)
    (e2 : w2 = w1.setCell ⟨g, k * 3, none⟩ v0) (x1 : ∃ z, w3.cell? ⟨g, k * 3 + 1, none⟩ = some z) (x2 : ∃ z, w3.cell? ⟨g, k * 3 + 2, none⟩ = some z) (q0 : w3.cell? ⟨g, k * 3, none⟩ = some v0) (f3 : ∀ j, w3.frozen? ⟨g, j, none⟩ = false) :
    let W := (w3.setCell ⟨g, k * 3 + 1, none⟩ v1).setCell ⟨g, k * 3 + 2, none⟩ v2
    Kp [g] w W ∧ g < W.heap.size ∧ (W.cell? ⟨g, k * 3, none⟩ = some v0 ∧ W.cell? ⟨g, k * 3 + 1, none⟩ = some v1 ∧ W.cell? ⟨g, k * 3 + 2, none⟩ = some v2) ∧ (∀ j, j < k * 3 ∨ k * 3 + 3 ≤ j → W.cell? ⟨g, j, none⟩ = wr.cell? ⟨g, j, none⟩) ∧ (∀ j, W.frozen? ⟨g, j, none⟩ = false) ∧ W.heap.size = w3.heap.size := by
  have z1 := b1.size
  have z2 : w2.heap.size = w1.heap.size := by rw [e2]; simp
  have z3 := b3.size
  have h2 : Kp [g] w w2 := by rw [e2]; exact (kp.trans (Kp.of_below b1)).setCell (.inl (by simp))
  have hc : ∀ j, j < k * 3 ∨ k * 3 + 3 ≤ j → w3.cell? ⟨g, j, none⟩ = wr.cell? ⟨g, j, none⟩ := fun j hj => by
    rw [b3.cell (p := ⟨g, j, none⟩) (by show g < _; omega), e2, World.cell?_setCell_other _ _ _ _ (by simp <;> omega)]
    exact b1.cell (p := ⟨g, j, none⟩) hgr
  refine ⟨((h2.trans (Kp.of_below b3)).setCell (.inl (by simp))).setCell (.inl (by simp)), by simp; omega, ⟨?_, ?_, ?_⟩, fun j hj => ?_, fun j => ?_, by simp⟩
  · rw [World.cell?_setCell_other _ _ _ _ (by simp), World.cell?_setCell_other _ _ _ _ (by simp)]
    exact q0
  · rw [World.cell?_setCell_other _ _ _ _ (by simp)]
    obtain ⟨z, hz⟩ := x1
    exact World.cell?_setCell_same _ _ _ hz
  · obtain ⟨z, hz⟩ := setc_ex (a := ⟨g, k * 3 + 1, none⟩) (x := v1) x2
    exact World.cell?_setCell_same _ _ _ hz
  · rw [World.cell?_setCell_other _ _ _ _ (by simp <;> omega), World.cell?_setCell_other _ _ _ _ (by simp <;> omega)]
    exact hc j hj
  · simp only [World.frozen?_setCell]
    exact f3 j
set_option maxHeartbeats 1600000 in
set_option maxRecDepth 100000 in
theorem mark_items_some (g c n k0 : Nat) (w : World) (hn : n ≤ 1048576) (h1 : 1 ≤ k0) (h2 : k0 ≤ 1048576) (hg : g < w.heap.size)
    (hA : ∀ j, j < n * 3 → ∃ x, w.cell? ⟨g, j, none⟩ = some x) (hF : ∀ j, w.frozen? ⟨g, j, none⟩ = false) :
    Calls Try.prog 48 #[.slice (some ⟨g, 0, none⟩) n c, .int .i64 k0] w fun e w' => e = .returned (.int .i64 ((k0 + 3 * n : Nat) : Int)) ∧
      (∀ j, j < n → ItemAt w' g (j * 3) (mkItem (k0 + 3 * j))) ∧ (∀ j, w'.frozen? ⟨g, j, none⟩ = false) ∧ Kp [g] w w' := by
  have HA := hidIt hA
  have HF := hidIt hF
  clear hA hF
  go_enter Try.func48, Try.ntmps48
  go_wp2
  go_loopw [5, 1] (fun i kk wr => ∃ k : Nat, k ≤ n ∧ i = .int .i64 k ∧ kk = .int .i64 ((k0 + 3 * k : Nat) : Int) ∧ g < wr.heap.size ∧ Hid (Kp [g] w wr ∧ (∀ j, j < k → ItemAt wr g (j * 3) (mkItem (k0 + 3 * j))) ∧ (∀ j, k * 3 ≤ j → j < n * 3 → ∃ x, wr.cell? ⟨g, j, none⟩ = some x) ∧ ∀ j, wr.frozen? ⟨g, j, none⟩ = false)) (fun i _ _ => n - (intOf i).toNat)
  case atStart => exact ⟨0, Nat.zero_le _, rfl, rfl, hg, ⟨Kp.refl _ _, fun j hj => by omega, fun j _ hj => HA.out j hj, HF.out⟩⟩
  case round =>
    rename World => wr
    obtain ⟨k, hk, rfl, rfl, hgr, HS⟩ := hrel
    by_cases hlt : k < n
    · have hx : ∀ i, i < 3 → ∃ z, wr.cell? ⟨g, k * 3 + i, none⟩ = some z := fun i hi => HS.out.2.2.1 (k * 3 + i) (by omega) (by omega)
      have HX := hidIt hx
      clear hx
      have hlt' : (k : Int) < (n : Int) := by omega
      go_wp2_with fail
      refine (mark_text (k0 + 3 * k) wr (by omega) (by omega)).mono ?_
      rintro e w1 ⟨rfl, b1⟩
      have z1 := b1.size
      have hx1 : ∀ i, i < 3 → ∃ z, w1.cell? ⟨g, k * 3 + i, none⟩ = some z := fun i hi => by
        obtain ⟨z, hz⟩ := HX.out i hi
        exact ⟨z, below_cell b1 hgr hz⟩
      have f1 : ∀ j, w1.frozen? ⟨g, j, none⟩ = false := fun j => below_frozen b1 hgr (HS.out.2.2.2 j)
      obtain ⟨x0, c0⟩ := hx1 0 (by omega)
      rw [Nat.add_zero] at c0
      have HX1 := hidIt hx1
      have HB1 := hidIt b1
      have HF1 := hidIt f1
      have fz := f1 (k * 3)
      clear hx1 b1 f1
      go_wp2_with fail
      clear fz c0
      generalize hW2 : World.setCell w1 _ _ = w2
      have y2 : w2.heap.size = w1.heap.size := by rw [← hW2]; simp
      have e2 := hidIt hW2.symm
      clear hW2
      refine (mark_text (k0 + 3 * k + 1) w2 (by omega) (by omega)).mono ?_
      rintro e w3 ⟨rfl, b3⟩
      have z3 := b3.size
      have hg2 : g < w2.heap.size := by omega
      have hx3 : ∀ i, i < 3 → ∃ z, w3.cell? ⟨g, k * 3 + i, none⟩ = some z := fun i hi => by
        obtain ⟨z, hz⟩ := HX1.out i hi
        obtain ⟨z', hz'⟩ := setc_ex (a := ⟨g, k * 3, none⟩) (x := .string (mt (k0 + 3 * k))) ⟨z, hz⟩
        exact ⟨z', below_cell b3 hg2 (by rw [e2.out]; exact hz')⟩
      have f3 : ∀ j, w3.frozen? ⟨g, j, none⟩ = false := fun j => below_frozen b3 hg2 (by rw [e2.out, World.frozen?_setCell]; exact HF1.out j)
      obtain ⟨x1, c1⟩ := hx3 1 (by omega)
      obtain ⟨x2, c2⟩ := hx3 2 (by omega)
      have HX3 := hidIt hx3
      have HB3 := hidIt b3
      have HF3 := hidIt f3
      have fz1 := f3 (k * 3 + 1)
      have fz2 := f3 (k * 3 + 2)
      clear hx3 b3 f3
      go_wp2
      go_roundw
      case rel =>
        have q0 : w3.cell? ⟨g, k * 3, none⟩ = some (.string (mt (k0 + 3 * k))) := below_cell HB3.out hg2 (by
          obtain ⟨z, hz⟩ := HX1.out 0 (by omega)
          rw [e2.out]; exact World.cell?_setCell_same _ _ _ hz)
        have key := mark3 w wr w1 w2 w3 g k n (.string (mt (k0 + 3 * k))) (.string (mt (k0 + 3 * k + 1))) (.int .i64 ((k0 : Int) + 3 * (k : Int) + 1 + 1)) hgr HS.out.1 HB1.out HB3.out e2.out (HX3.out 1 (by omega)) (HX3.out 2 (by omega)) q0 HF3.out
        obtain ⟨k1, k2, k3, k4, k5, k6⟩ := key
        refine ⟨k + 1, by omega, by go_num, by go_num, by simp; omega, ⟨k1, fun j hj => ?_, fun j hj1 hj2 => ?_, k5⟩⟩
        · by_cases ej : j = k
          · subst ej
            exact ⟨k3.1, k3.2.1, k3.2.2.trans (by show _ = some (Value.int .i64 (((k0 + 3 * j + 2 : Nat)) : Int)); rw [show (((k0 + 3 * j + 2 : Nat)) : Int) = (k0 : Int) + 3 * (j : Int) + 1 + 1 by push_cast; omega])⟩
          · exact ItemAt.of' (HS.out.2.1 j (by omega)) (fun i hi => k4 (j * 3 + i) (by omega))
        · obtain ⟨z, hz⟩ := HS.out.2.2.1 j (by omega) hj2
          exact ⟨z, (k4 j (by omega)).trans hz⟩
      case measure => simp [intOf]; omega
    · have HK : Hid (k = n) := (by omega : k = n)
      go_wp2
      go_ret
      exact ⟨ret_ints (by rw [HK.out]), by rw [← HK.out]; exact HS.out.2.1, HS.out.2.2.2, HS.out.1⟩
theorem mark_items (w : World) (v : Value) (xs : List It) (fp : List Nat) (k0 : Nat) (hn : xs.length ≤ 1048576) (h1 : 1 ≤ k0) (h2 : k0 ≤ 1048576) (h : ItemsO w v xs fp) :
    Calls Try.prog 48 #[v, .int .i64 k0] w fun e w' => e = .returned (.int .i64 ((k0 + 3 * xs.length : Nat) : Int)) ∧ ItemsO w' v (mkItems k0 xs.length) fp ∧ Kp fp w w' := by
  obtain ⟨a, cap, rfl, hc, h⟩ := h
  by_cases h0 : 0 < xs.length
  · rcases h with ⟨rfl, -⟩ | ⟨g, rfl, rfl, g1, g2, g3⟩
    · exact absurd h0 (by simp)
    · refine (mark_items_some g cap xs.length k0 w hn h1 h2 g1 (fun j hj => ?_) g3).mono ?_
      · obtain ⟨q, r, hr, rfl⟩ : ∃ q r, r < 3 ∧ j = q * 3 + r := ⟨j / 3, j % 3, by omega, by omega⟩
        obtain ⟨m0, m1, m2⟩ := g2 q (by omega)
        match r, hr with
        | 0, _ => exact ⟨_, m0⟩
        | 1, _ => exact ⟨_, m1⟩
        | 2, _ => exact ⟨_, m2⟩
      · rintro e w' ⟨rfl, m1, m2, m3⟩
        exact ⟨rfl, ⟨_, cap, by rw [mkItems_len], by rw [mkItems_len]; exact hc, .inr ⟨g, rfl, rfl, Nat.lt_of_lt_of_le g1 m3.size, fun j hj => by rw [mkItems_at]; exact m1 j (by rw [mkItems_len] at hj; exact hj), m2⟩⟩, m3⟩
  · obtain rfl := len_zero h0
    rcases h with ⟨-, rfl⟩ | ⟨g, rfl, rfl, g1, g2, g3⟩
    · refine (mark_items_zero a cap k0 w).mono ?_
      rintro e w' ⟨rfl, rfl⟩
      exact ⟨rfl, ⟨a, cap, rfl, hc, .inl ⟨rfl, rfl⟩⟩, Kp.refl _ _⟩
    · refine (mark_items_zero _ cap k0 w).mono ?_
      rintro e w' ⟨rfl, rfl⟩
      exact ⟨rfl, ⟨_, cap, rfl, hc, .inr ⟨g, rfl, rfl, g1, fun j hj => by simp [mkItems] at hj, g3⟩⟩, Kp.refl _ _⟩
set_option maxHeartbeats 1600000 in
set_option maxRecDepth 100000 in
theorem held_items_some (g c n k0 : Nat) (w : World) (hn : n ≤ 1048576) (h1 : 1 ≤ k0) (h2 : k0 ≤ 1048576) (hg : g < w.heap.size)
    (hA : ∀ j, j < n → ItemAt w g (j * 3) (mkItem (k0 + 3 * j))) :
    Calls Try.prog 50 #[.slice (some ⟨g, 0, none⟩) n c, .int .i64 k0] w fun e w' => e = .returned (.int .i64 ((k0 + 3 * n : Nat) : Int)) ∧ Below w.heap.size w w' := by
  have HA := hidIt hA
  clear hA
  go_enter Try.func50, Try.ntmps50
  go_wp2
  go_loopw [5, 1] (fun i kk wr => ∃ k : Nat, k ≤ n ∧ i = .int .i64 k ∧ kk = .int .i64 ((k0 + 3 * k : Nat) : Int) ∧ Below w.heap.size w wr) (fun i _ _ => n - (intOf i).toNat)
  case atStart => exact ⟨0, Nat.zero_le _, rfl, rfl, Below.refl _ _⟩
  case round =>
    rename World => wr
    obtain ⟨k, hk, rfl, rfl, hb⟩ := hrel
    have hsz := hb.size
    by_cases hlt : k < n
    · obtain ⟨r0, r1, r2⟩ := (HA.out k hlt).of (fun q => hb.cell (p := ⟨g, q, none⟩) hg)
      simp only [mkItem] at r0 r1 r2
      have hlt' : (k : Int) < (n : Int) := by omega
      have hgr : g < wr.heap.size := by omega
      have r2' : wr.cell? ⟨g, k * 3 + 2, none⟩ = some (.int .i64 ((k0 : Int) + 3 * (k : Int) + 1 + 1)) := r2.trans (by rw [show (((k0 + 3 * k + 2 : Nat)) : Int) = (k0 : Int) + 3 * (k : Int) + 1 + 1 by push_cast; omega])
      clear r2
      generalize hm0 : mt (k0 + 3 * k) = y0 at r0
      generalize hm1 : mt (k0 + 3 * k + 1) = y1 at r1
      have HM0 := hidIt hm0
      have HM1 := hidIt hm1
      clear hm0 hm1
      have HR := hidIt (And.intro r1 r2')
      clear r1 r2'
      go_wp2
      go_region_with (go_at_call 67; refine (mark_text (k0 + 3 * k) _ (by omega) (by omega)).mono ?_; rintro e w1 ⟨rfl, hb1⟩; have cx := (hb1.cell (p := ⟨g, k * 3, none⟩) hgr).trans r0; rw [HM0.out])
      all_goals
        have z1 := hb1.size
        have q1 := below_cell (b := g) hb1 hgr (show (World.drew wr).cell? ⟨g, k * 3 + 1, none⟩ = _ from HR.out.1)
        have q2 := below_cell (b := g) hb1 hgr (show (World.drew wr).cell? ⟨g, k * 3 + 2, none⟩ = _ from HR.out.2)
        have hgr1 : g < w1.heap.size := by simp at z1; omega
        have BB := hidIt (hb.drew.trans (hb1.mono hsz))
        clear hb1 cx
        go_wp2
        go_region_with (go_at_call 67; refine (mark_text (k0 + 3 * k + 1) _ (by omega) (by omega)).mono ?_; rintro e w2 ⟨rfl, hb2⟩; have cx := (hb2.cell (p := ⟨g, k * 3 + 1, none⟩) hgr1).trans q1; rw [HM1.out])
        all_goals
          have z2 := hb2.size
          have q3 := below_cell (b := g) hb2 hgr1 (show (World.drew w1).cell? ⟨g, k * 3 + 2, none⟩ = _ from q2)
          have BB2 := hidIt (BB.out.drew.trans (hb2.mono (by simp at z1; simp; omega)))
          clear hb2 cx q1 q2
          go_wp2
          go_roundw
          case rel => exact ⟨k + 1, by omega, by go_num, by go_num, BB2.out⟩
          case measure => simp [intOf]; omega
    · have HK : Hid (k = n) := (by omega : k = n)
      go_wp2
      go_ret
      exact ⟨ret_ints (by rw [HK.out]), hb⟩
theorem held_items (w : World) (v : Value) (n k0 : Nat) (fp : List Nat) (hn : n ≤ 1048576) (h1 : 1 ≤ k0) (h2 : k0 ≤ 1048576) (h : ItemsO w v (mkItems k0 n) fp) :
    Calls Try.prog 50 #[v, .int .i64 k0] w fun e w' => e = .returned (.int .i64 ((k0 + 3 * n : Nat) : Int)) ∧ Below w.heap.size w w' := by
  obtain ⟨a, cap, rfl, hc, h⟩ := h
  rw [mkItems_len]
  by_cases h0 : 0 < n
  · rcases h with ⟨h, -⟩ | ⟨g, rfl, rfl, g1, g2, g3⟩
    · exact absurd (congrArg List.length h) (by rw [mkItems_len]; simp; omega)
    · exact held_items_some g cap n k0 w hn h1 h2 g1 (fun j hj => by have := g2 j (by rw [mkItems_len]; exact hj); rwa [mkItems_at] at this)
  · obtain rfl : n = 0 := by omega
    refine (held_items_zero a cap k0 w).mono ?_
    rintro e w' ⟨rfl, rfl⟩
    exact ⟨rfl, Below.refl _ _⟩

end Go.Proofs.Ytijmjpjclhgaoaa
