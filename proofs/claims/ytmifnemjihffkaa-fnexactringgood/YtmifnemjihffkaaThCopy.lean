/- Threads and rows of threads that came in, copied. -/
import Derived.Test.YtmifnemjihffkaaRows
import Derived.WalkKit
import Derived.ProofKit
import Derived.OpenShut
import Derived.ShutString
import Derived.Test.YtmifnemjihffkaaThRows
namespace Go.Proofs.Ytmifnemjihffkaa
open Go.ChangeShapes Go.WideShapes Go.ChangeAt Go.RowKit
set_option linter.unusedVariables false

/- a variable of the call's own: all its cells, and that it may be written -/
def Bx (W : World) (b : Nat) (xs : Array Value) : Prop := b < W.heap.size ∧ (∀ o, W.cell? ⟨b, o, none⟩ = xs[o]?) ∧ ∀ o, W.frozen? ⟨b, o, none⟩ = false
theorem Bx.block {W W' : World} {b : Nat} {xs : Array Value} (h : Bx W b xs) (hz : W.heap.size ≤ W'.heap.size) (e : W'.heap[b]? = W.heap[b]?) : Bx W' b xs :=
  ⟨Nat.lt_of_lt_of_le h.1 hz, fun o => (cells_of_block e o).trans (h.2.1 o), fun o => (frozen_of_block e o).trans (h.2.2 o)⟩
theorem Bx.below {W W' : World} {b : Nat} {xs : Array Value} (h : Bx W b xs) (hb : Below W.heap.size W W') : Bx W' b xs := h.block hb.size (hb.block b h.1)
theorem Bx.alloc {W : World} {b : Nat} {xs : Array Value} (h : Bx W b xs) (o : Obj) : Bx (W.alloc o) b xs := h.below ((Below.refl _ _).alloc (Nat.le_refl _) _)
theorem Bx.drew {W : World} {b : Nat} {xs : Array Value} (h : Bx W b xs) : Bx W.drew b xs := h.below ((Below.refl _ _).drew)
theorem Bx.new (W : World) (xs : Array Value) (T : TypeId) : Bx (W.alloc (.cells xs T)) W.heap.size xs := ⟨by simp, fun o => by simp [go_sem], fun o => by simp [go_sem]⟩
theorem Bx.newAt {W : World} {n : Nat} (xs : Array Value) (T : TypeId) (hn : n = W.heap.size) : Bx (W.alloc (.cells xs T)) n xs := by subst hn; exact Bx.new W xs T
theorem bx2 (w : World) (A B : Array Value) (Ta Tb : TypeId) : Bx ((w.alloc (.cells A Ta)).alloc (.cells B Tb)) w.heap.size A ∧ Bx ((w.alloc (.cells A Ta)).alloc (.cells B Tb)) (w.heap.size + 1) B ∧ Below w.heap.size w ((w.alloc (.cells A Ta)).alloc (.cells B Tb)) ∧ ((w.alloc (.cells A Ta)).alloc (.cells B Tb)).heap.size = w.heap.size + 2 :=
  ⟨(Bx.new w _ _).alloc _, Bx.newAt _ _ (by simp), ((Below.refl w.heap.size w).alloc (Nat.le_refl _) _).alloc (by simp) _, by simp⟩
theorem bx3 (w : World) (A B C : Array Value) (Ta Tb Tc : TypeId) : Bx (((w.alloc (.cells A Ta)).alloc (.cells B Tb)).alloc (.cells C Tc)) w.heap.size A ∧ Bx (((w.alloc (.cells A Ta)).alloc (.cells B Tb)).alloc (.cells C Tc)) (w.heap.size + 1) B ∧ Bx (((w.alloc (.cells A Ta)).alloc (.cells B Tb)).alloc (.cells C Tc)) (w.heap.size + 1 + 1) C ∧ Below w.heap.size w (((w.alloc (.cells A Ta)).alloc (.cells B Tb)).alloc (.cells C Tc)) ∧ (((w.alloc (.cells A Ta)).alloc (.cells B Tb)).alloc (.cells C Tc)).heap.size = w.heap.size + 3 :=
  ⟨((Bx.new w _ _).alloc _).alloc _, (Bx.newAt _ _ (by simp)).alloc _, Bx.newAt _ _ (by simp), (((Below.refl w.heap.size w).alloc (Nat.le_refl _) _).alloc (by simp) _).alloc (by simp <;> omega) _, by simp⟩
theorem Bx.set {W : World} {b i : Nat} {xs : Array Value} (h : Bx W b xs) (x : Value) (hi : i < xs.size) : Bx (W.setCell ⟨b, i, none⟩ x) b (xs.setIfInBounds i x) := by
  refine ⟨by simpa using h.1, fun o => ?_, fun o => by rw [World.frozen?_setCell]; exact h.2.2 o⟩
  by_cases e : o = i
  · subst e
    refine (World.cell?_setCell_same _ _ _ ((h.2.1 o).trans (Array.getElem?_eq_getElem hi))).trans ?_
    simp [hi]
  · rw [World.cell?_setCell_other _ _ _ _ (by simp <;> omega), h.2.1 o, Array.getElem?_setIfInBounds_ne (by omega)]
theorem Bx.other {W : World} {b p i : Nat} {xs : Array Value} (h : Bx W b xs) (x : Value) (hp : b ≠ p) : Bx (W.setCell ⟨p, i, none⟩ x) b xs :=
  h.block (by simp) (Below.heap_setCell _ _ _ _ (by simpa using hp))
theorem CallsO.set {w : World} {v : Value} {xs : List Cl} {fp : List Nat} (h : CallsO w v xs fp) {p i : Nat} {x : Value} (hp : ¬ p ∈ fp) : CallsO (w.setCell ⟨p, i, none⟩ x) v xs fp :=
  h.loc (by simp) (fun g hg => Below.heap_setCell _ _ _ _ (by show g ≠ p; intro e; exact hp (e ▸ hg)))
theorem IntsO.set {w : World} {v : Value} {xs : List Int} {fp : List Nat} (h : IntsO w v xs fp) {p i : Nat} {x : Value} (hp : ¬ p ∈ fp) : IntsO (w.setCell ⟨p, i, none⟩ x) v xs fp :=
  h.loc (by simp) (fun g hg => Below.heap_setCell _ _ _ _ (by show g ≠ p; intro e; exact hp (e ▸ hg)))
theorem ThO.set {w : World} {v0 v2 v3 : Value} {t : Th} {fp : List Nat} (h : ThO w v0 v2 v3 t fp) {p i : Nat} {x : Value} (hp : ¬ p ∈ fp) : ThO (w.setCell ⟨p, i, none⟩ x) v0 v2 v3 t fp :=
  h.loc (by simp) (fun g hg => Below.heap_setCell _ _ _ _ (by show g ≠ p; intro e; exact hp (e ▸ hg)))
theorem ThsO.set {w : World} {v : Value} {ts : List Th} {fp : List Nat} (h : ThsO w v ts fp) {p i : Nat} {x : Value} (hp : ¬ p ∈ fp) : ThsO (w.setCell ⟨p, i, none⟩ x) v ts fp :=
  h.loc (by simp) (fun g hg => Below.heap_setCell _ _ _ _ (by show g ≠ p; intro e; exact hp (e ▸ hg)))
theorem not_mem_lt {fp : List Nat} {p s : Nat} (h : ∀ g ∈ fp, s ≤ g) (hp : p < s) : ¬ p ∈ fp := fun hm => by have := h p hm; omega
/- a row of integers, copied: it is owned, and its length is within its room -/
def IntsNew (w w' : World) (v : Value) (xs : List Int) : Prop := ∃ fp, IntsO w' v xs fp ∧ fp.Nodup ∧ (∀ g ∈ fp, w.heap.size ≤ g) ∧ Below w.heap.size w w'
def ThNew (w w' : World) (v0 v2 v3 : Value) (t : Th) : Prop := ∃ fp, ThO w' v0 v2 v3 t fp ∧ fp.Nodup ∧ (∀ g ∈ fp, w.heap.size ≤ g) ∧ Below w.heap.size w w'
def ThsNew (w w' : World) (v : Value) (ts : List Th) : Prop := ∃ fp, ThsO w' v ts fp ∧ fp.Nodup ∧ (∀ g ∈ fp, w.heap.size ≤ g) ∧ Below w.heap.size w w'
def CwNew (w w' : World) (vm vt : Value) (C : Cw) : Prop := ∃ fp, CwO w' vm vt C fp ∧ fp.Nodup ∧ (∀ g ∈ fp, w.heap.size ≤ g) ∧ Below w.heap.size w w'
set_option maxHeartbeats 800000 in
set_option maxRecDepth 100000 in
theorem to_ints_some (b off c : Nat) (xs : List Int) (w : World) (hn : xs.length ≤ 4194304) (h0 : 0 < xs.length) (hb : b < w.heap.size)
    (hA : ∀ j (hj : j < xs.length), w.cell? ⟨b, off + j, none⟩ = some (.int .i64 xs[j])) :
    Calls Try.prog 18 #[.slice (some ⟨b, off, none⟩) xs.length c] w fun e w' => ∃ v', e = .returned v' ∧ IntsNew w w' v' xs := by
  obtain ⟨i0, hi, hz0, hz1, hz2⟩ := info_parts info3
  have HA : Hid _ := hA
  clear hA
  go_enter Try.func18, Try.ntmps18
  go_wp2_with (at_make; refine wpList_make_full _ rfl _ _ 22 rfl w.heap.size 3 i0 (.int .i64 0) 1 Try.underlying22 hi hz0 hz1 .i64 .i64 _ _ xs.length rfl rfl rfl rfl (by rw [hz2]; omega) (by unfold maxLen; omega) (Nat.le_refl _) ?_; intro w1 hown hgrow)
  have hb1 : Below w.heap.size w w1 := (Below.refl _ _).grown hgrow (Nat.le_refl _) (fun k hk => by cases hk)
  have hgz : w.heap.size < w1.heap.size ∧ (∀ j, j < xs.length → ∃ x, w1.cell? ⟨w.heap.size, j, none⟩ = some x) ∧ ∀ j, w1.frozen? ⟨w.heap.size, j, none⟩ = false := by
    rcases own_cells hown with ⟨h, _⟩ | ⟨g, cap, hv, h1, h2, h3, h4, h5, h6, h7⟩
    · cases h
    · simp at hv
      obtain ⟨rfl, _⟩ := hv
      refine ⟨h2, fun j hj => ?_, h7⟩
      have hl : j < (madeCells (Value.int .i64 0).cells (xs.length * 1)).toList.length := by omega
      exact ⟨_, h6 j hl⟩
  clear hown hgrow
  obtain ⟨hgs, hg1, hg2⟩ := hgz
  have HG : Hid _ := hg1
  have HF : Hid _ := hg2
  clear hg1 hg2
  go_wp2
  go_loopw [4] (fun i wr => ∃ k : Nat, k ≤ xs.length ∧ i = .int .i64 k ∧ w.heap.size < wr.heap.size ∧ Below w.heap.size w wr ∧ Hid ((∀ j (hj : j < xs.length), j < k → wr.cell? ⟨w.heap.size, j, none⟩ = some (.int .i64 xs[j])) ∧ (∀ j, k ≤ j → j < xs.length → ∃ x, wr.cell? ⟨w.heap.size, j, none⟩ = some x) ∧ ∀ j, wr.frozen? ⟨w.heap.size, j, none⟩ = false)) (fun i _ => xs.length - (intOf i).toNat)
  case atStart => exact ⟨0, Nat.zero_le _, rfl, hgs, hb1, ⟨fun j _ hj => by omega, fun j _ hj => HG.out j hj, HF.out⟩⟩
  case round =>
    obtain ⟨k, hk, rfl, hgr, hbw, HS⟩ := hrel
    by_cases hlt : k < xs.length
    · obtain ⟨x, hx⟩ := HS.out.2.1 k (Nat.le_refl _) hlt
      have hz := HS.out.2.2 k
      have hlt' : (k : Int) < (xs.length : Int) := by omega
      have hr := (hbw.cell (p := ⟨b, off + k, none⟩) hb).trans (HA.out k hlt)
      obtain ⟨y, hy⟩ : ∃ y, xs[k] = y := ⟨_, rfl⟩
      rw [hy] at hr
      have HY : Hid _ := hy
      clear hy
      go_wp2
      go_roundw
      case rel =>
        refine ⟨k + 1, by omega, by go_num, by simp; omega, hbw.setCell (Nat.le_refl _) _, ⟨fun j hj hjk => ?_, fun j hj1 hj2 => ?_, fun j => ?_⟩⟩
        · by_cases ej : j = k
          · subst ej; refine (World.cell?_setCell_same _ _ _ hx).trans ?_; rw [HY.out]
          · rw [World.cell?_setCell_other _ _ _ _ (by simp <;> omega)]; exact HS.out.1 j hj (by omega)
        · rw [World.cell?_setCell_other _ _ _ _ (by simp <;> omega)]; exact HS.out.2.1 j (by omega) hj2
        · rw [World.frozen?_setCell]; exact HS.out.2.2 j
      case measure => simp [intOf]; omega
    · go_wp2
      go_ret
      exact ⟨.slice (some ⟨w.heap.size, 0, none⟩) xs.length xs.length, rfl, [w.heap.size], ⟨_, xs.length, rfl, trivial, .inr ⟨w.heap.size, rfl, rfl, hgr, fun j hj => HS.out.1 j hj (by omega), HS.out.2.2⟩⟩, by simp, by simp, hbw⟩
theorem to_ints_zero (a : Option Addr) (c : Nat) (w : World) :
    Calls Try.prog 18 #[.slice a 0 c] w fun e w' => ∃ v', e = .returned v' ∧ IntsNew w w' v' [] := by
  obtain ⟨i0, hi, hz0, hz1, hz2⟩ := info_parts info3
  go_enter Try.func18, Try.ntmps18
  go_wp2_with (at_make; refine wpList_make_full _ rfl _ _ 22 rfl w.heap.size 3 i0 (.int .i64 0) 1 Try.underlying22 hi hz0 hz1 .i64 .i64 _ _ 0 rfl rfl rfl rfl (by omega) (by unfold maxLen; omega) (Nat.le_refl _) ?_; intro w1 hown hgrow)
  have hb1 : Below w.heap.size w w1 := (Below.refl _ _).grown hgrow (Nat.le_refl _) (fun k hk => by cases hk)
  clear hown hgrow
  go_wp2
  go_loop [4] (fun i => i = .int .i64 0) (fun _ => 0)
  case atStart => rfl
  case round =>
    subst hrel
    go_wp2
    go_ret
    exact ⟨.slice (some ⟨w.heap.size, 0, none⟩) 0 0, rfl, [], ⟨_, 0, rfl, trivial, .inl ⟨rfl, rfl⟩⟩, by simp, by simp, hb1⟩
theorem to_ints (w : World) (v : Value) (xs : List Int) (hn : xs.length ≤ 4194304) (h : IntsIn w v xs) :
    Calls Try.prog 18 #[v] w fun e w' => ∃ v', e = .returned v' ∧ IntsNew w w' v' xs := by
  obtain ⟨⟨a, cap, rfl, h⟩, -⟩ := h
  by_cases h0 : 0 < xs.length
  · rcases h with rfl | ⟨b, off, rfl, h1, h2⟩
    · exact absurd h0 (by simp)
    · exact to_ints_some b off cap xs w hn h0 h1 h2
  · obtain rfl := len_zero h0
    exact to_ints_zero _ cap w
set_option maxHeartbeats 800000 in
set_option maxRecDepth 100000 in
theorem to_th (w : World) (v0 v2 v3 : Value) (t : Th) (n0 : t.cs.length ≤ 4194304) (n2 : t.bs.length ≤ 4194304) (n3 : t.es.length ≤ 4194304) (h : ThIn w v0 v2 v3 t) :
    Calls Try.prog 56 #[.agg #[v0, .int .i64 t.at_, v2, v3]] w fun e w' => ∃ v0' v2' v3', e = .returned (.agg #[v0', .int .i64 t.at_, v2', v3']) ∧ ThNew w w' v0' v2' v3' t := by
  have H := hidIt h
  obtain ⟨a0, d0, rfl, -⟩ := h.cs.form
  obtain ⟨a2, d2, rfl, -⟩ := h.bs.form
  obtain ⟨a3, d3, rfl, -⟩ := h.es.form
  clear h
  go_enter Try.func56, Try.ntmps56
  go_wp2_with fail
  generalize hW : World.alloc (World.alloc (World.alloc w _) _) _ = W0
  have X := bx3 w #[.slice a0 t.cs.length d0, .int .i64 t.at_, .slice a2 t.bs.length d2, .slice a3 t.es.length d3] #[.slice none 0 0, .int .i64 0, .slice none 0 0, .slice none 0 0] #[.slice none 0 0, .int .i64 0, .slice none 0 0, .slice none 0 0] 93 64 64
  rw [hW] at X
  clear hW
  obtain ⟨X0, X1, X2, bW, zW⟩ := X
  refine (to_calls W0 _ t.cs n0 (H.out.below bW).cs).mono ?_
  rintro e w1 ⟨v0', rfl, f0, o0, nd0, g0, b1⟩
  have z1 := b1.size
  have O0 := hidIt o0
  have l0 := o0.lt
  obtain ⟨a0', d0', rfl, -⟩ := o0.rd.form
  clear o0
  have Y := hidIt (And.intro (X0.below b1) (And.intro (X1.below b1) (And.intro (X2.below b1) (below_step bW (b1.mono (by omega))))))
  clear X0 X1 X2 b1 bW
  have c1 := Y.out.1.2.1 1
  have c2 := Y.out.1.2.1 2
  have k0 := Y.out.2.2.1.2.1 0
  have k1 := Y.out.2.2.1.2.1 1
  have q2 := Y.out.2.2.1.2.2
  simp at c1 c2 k0 k1
  go_wp2_with fail
  clear c1 c2 k0 k1 q2
  generalize hW : World.setCell (World.setCell w1 _ _) _ _ = W1
  have Z : Bx W1 w.heap.size #[.slice a0 t.cs.length d0, .int .i64 t.at_, .slice a2 t.bs.length d2, .slice a3 t.es.length d3] ∧ Bx W1 (w.heap.size + 1) #[.slice none 0 0, .int .i64 0, .slice none 0 0, .slice none 0 0] ∧ Bx W1 (w.heap.size + 1 + 1) #[.slice a0' t.cs.length d0', .int .i64 t.at_, .slice none 0 0, .slice none 0 0] ∧ Below w.heap.size w W1 ∧ W1.heap.size = w1.heap.size ∧ CallsO W1 (.slice a0' t.cs.length d0') t.cs f0 := by
    rw [← hW]
    obtain ⟨y0, y1, y2, y3⟩ := Y.out
    exact ⟨(y0.other _ (by omega)).other _ (by omega), (y1.other _ (by omega)).other _ (by omega), (y2.set _ (by simp)).set _ (by simp), (y3.setCell (by simp <;> omega) _).setCell (by simp <;> omega) _, by simp, (O0.out.set (not_mem_lt g0 (by omega))).set (not_mem_lt g0 (by omega))⟩
  clear hW Y O0
  obtain ⟨X0, X1, X2, bW, zW1, O0⟩ := Z
  refine (to_ints W1 _ t.bs n2 (H.out.below bW).bs).mono ?_
  rintro e w2 ⟨v2', rfl, f2, o2, nd2, g2, b2⟩
  have z2 := b2.size
  have O2 := hidIt o2
  have l2 := o2.lt
  have O0' := hidIt (O0.below b2)
  obtain ⟨a2', d2', rfl, -⟩ := o2.rd.form
  clear o2 O0
  have Y := hidIt (And.intro (X0.below b2) (And.intro (X1.below b2) (And.intro (X2.below b2) (below_step bW (b2.mono (by omega))))))
  clear X0 X1 X2 b2 bW
  have c3 := Y.out.1.2.1 3
  have k2 := Y.out.2.2.1.2.1 2
  have q2 := Y.out.2.2.1.2.2
  simp at c3 k2
  go_wp2_with fail
  clear c3 k2 q2
  generalize hW : World.setCell w2 _ _ = W2
  have Z : Bx W2 (w.heap.size + 1) #[.slice none 0 0, .int .i64 0, .slice none 0 0, .slice none 0 0] ∧ Bx W2 (w.heap.size + 1 + 1) #[.slice a0' t.cs.length d0', .int .i64 t.at_, .slice a2' t.bs.length d2', .slice none 0 0] ∧ Below w.heap.size w W2 ∧ W2.heap.size = w2.heap.size ∧ CallsO W2 (.slice a0' t.cs.length d0') t.cs f0 ∧ IntsO W2 (.slice a2' t.bs.length d2') t.bs f2 := by
    rw [← hW]
    obtain ⟨y0, y1, y2, y3⟩ := Y.out
    exact ⟨y1.other _ (by omega), y2.set _ (by simp), y3.setCell (by simp <;> omega) _, by simp, O0'.out.set (not_mem_lt g0 (by omega)), O2.out.set (not_mem_lt g2 (by omega))⟩
  clear hW Y O0' O2
  obtain ⟨X1, X2, bW, zW2, O0, O2⟩ := Z
  refine (to_ints W2 _ t.es n3 (H.out.below bW).es).mono ?_
  rintro e w3 ⟨v3', rfl, f3, o3, nd3, g3, b3⟩
  have z3 := b3.size
  have O3 := hidIt o3
  have O0' := hidIt (O0.below b3)
  have O2' := hidIt (O2.below b3)
  obtain ⟨a3', d3', rfl, -⟩ := o3.rd.form
  clear o3 O0 O2
  have Y := hidIt (And.intro (X1.below b3) (And.intro (X2.below b3) (below_step bW (b3.mono (by omega)))))
  clear X1 X2 b3 bW
  have m0 := Y.out.1.2.1 0
  have m1 := Y.out.1.2.1 1
  have m2 := Y.out.1.2.1 2
  have m3 := Y.out.1.2.1 3
  have q1 := Y.out.1.2.2
  have k0 := Y.out.2.1.2.1 0
  have k1 := Y.out.2.1.2.1 1
  have k2 := Y.out.2.1.2.1 2
  have k3 := Y.out.2.1.2.1 3
  have q2 := Y.out.2.1.2.2
  simp at m0 m1 m2 m3 k0 k1 k2 k3
  go_wp2
  refine bodyPost_ret (v := .agg #[.slice a0' t.cs.length d0', .int .i64 t.at_, .slice a2' t.bs.length d2', .slice a3' t.es.length d3']) (by simp [results, Try.results56, go_sem, m0, m1, m2, m3]) rfl ⟨_, _, _, rfl, f0 ++ (f2 ++ f3), ?_, ?_, ?_, ?_⟩
  · have hh : ∀ {p : Nat}, p < w.heap.size + 3 → ¬ p ∈ f0 ∧ ¬ p ∈ f2 ∧ ¬ p ∈ f3 := fun hp => ⟨not_mem_lt g0 (by omega), not_mem_lt g2 (by omega), not_mem_lt g3 (by omega)⟩
    have h1 := hh (p := w.heap.size + 1) (by omega)
    have h2 := hh (p := w.heap.size + 1 + 1) (by omega)
    exact ⟨f0, f2, f3, rfl, ((((O0'.out.set h2.1).set h1.1).set h1.1).set h1.1).set h1.1, ((((O2'.out.set h2.2.1).set h1.2.1).set h1.2.1).set h1.2.1).set h1.2.1, ((((O3.out.set h2.2.2).set h1.2.2).set h1.2.2).set h1.2.2).set h1.2.2⟩
  · refine nodup_app (s := W1.heap.size) nd0 (nodup_app (s := W2.heap.size) nd2 nd3 (fun g hg => by have := l2 g hg; omega) g3) (fun g hg => by have := l0 g hg; omega) (fun g hg => ?_)
    rcases List.mem_append.1 hg with hg | hg
    · exact g2 g hg
    · have := g3 g hg; omega
  · intro g hg
    rcases List.mem_append.1 hg with hg | hg
    · have := g0 g hg; omega
    · rcases List.mem_append.1 hg with hg | hg
      · have := g2 g hg; omega
      · have := g3 g hg; omega
  · exact ((((Y.out.2.2.setCell (by simp <;> omega) _).setCell (by simp <;> omega) _).setCell (by simp <;> omega) _).setCell (by simp <;> omega) _).setCell (by simp <;> omega) _

theorem infoTh4 (n j : Nat) (hj : j < n * 4) : ∃ y, (madeCells (Value.agg #[.slice none 0 0, .int .i64 0, .slice none 0 0, .slice none 0 0]).cells (n * 4))[j]? = some y := by
  have h : j < (madeCells (Value.agg #[.slice none 0 0, .int .i64 0, .slice none 0 0, .slice none 0 0]).cells (n * 4)).size := by simp [madeCells]; exact hj
  exact ⟨_, Array.getElem?_eq_getElem h⟩
def put4 (w : World) (g o : Nat) (x0 x1 x2 x3 : Value) : World := (((w.setCell ⟨g, o, none⟩ x0).setCell ⟨g, o + 1, none⟩ x1).setCell ⟨g, o + 2, none⟩ x2).setCell ⟨g, o + 3, none⟩ x3
theorem put4_other (w : World) (g o : Nat) (x0 x1 x2 x3 : Value) (b q : Nat) (h : b ≠ g ∨ q < o ∨ o + 4 ≤ q) : (put4 w g o x0 x1 x2 x3).cell? ⟨b, q, none⟩ = w.cell? ⟨b, q, none⟩ := by
  unfold put4
  repeat rw [World.cell?_setCell_other _ _ _ _ (by simp; omega)]
theorem put4_frozen (w : World) (g o : Nat) (x0 x1 x2 x3 : Value) (b q : Nat) : (put4 w g o x0 x1 x2 x3).frozen? ⟨b, q, none⟩ = w.frozen? ⟨b, q, none⟩ := by
  unfold put4
  simp only [World.frozen?_setCell]
theorem put4_size (w : World) (g o : Nat) (x0 x1 x2 x3 : Value) : (put4 w g o x0 x1 x2 x3).heap.size = w.heap.size := by unfold put4; simp
theorem put4_block (w : World) (g o : Nat) (x0 x1 x2 x3 : Value) (b : Nat) (h : b ≠ g) : (put4 w g o x0 x1 x2 x3).heap[b]? = w.heap[b]? := by
  unfold put4
  exact (Below.heap_setCell _ _ _ _ h).trans ((Below.heap_setCell _ _ _ _ h).trans ((Below.heap_setCell _ _ _ _ h).trans (Below.heap_setCell _ _ _ _ h)))
theorem put4_below (B : Nat) (u w : World) (g o : Nat) (x0 x1 x2 x3 : Value) (h : Below B u w) (hg : B ≤ g) : Below B u (put4 w g o x0 x1 x2 x3) := by
  unfold put4
  exact (((h.setCell hg _).setCell hg _).setCell hg _).setCell hg _
theorem put4_same (w : World) (g o : Nat) (x0 x1 x2 x3 : Value) (h : ∀ i, i < 4 → ∃ y, w.cell? ⟨g, o + i, none⟩ = some y) : At4 (put4 w g o x0 x1 x2 x3) g o x0 x1 x2 x3 := by
  have h0 := h 0 (by omega)
  have h1 := h 1 (by omega)
  have h2 := h 2 (by omega)
  have h3 := h 3 (by omega)
  rw [Nat.add_zero] at h0
  unfold put4
  refine ⟨?_, ?_, ?_, ?_⟩
  all_goals (repeat (refine setc_up ?_ ?_; (focus omega)))
  all_goals (refine setc_same ?_; repeat (first | with_reducible assumption | refine setc_any ?_))
theorem put4_at (w : World) (g o : Nat) (x0 x1 x2 x3 : Value) (b q : Nat) (y0 y1 y2 y3 : Value) (h : At4 w b q y0 y1 y2 y3) (hn : b ≠ g ∨ q + 4 ≤ o ∨ o + 4 ≤ q) : At4 (put4 w g o x0 x1 x2 x3) b q y0 y1 y2 y3 := by
  have k := fun i (hi : i < 4) => put4_other w g o x0 x1 x2 x3 b (q + i) (by omega)
  obtain ⟨h0, h1, h2, h3⟩ := h
  generalize put4 w g o x0 x1 x2 x3 = W at k
  exact ⟨(k 0 (by omega)).trans h0, (k 1 (by omega)).trans h1, (k 2 (by omega)).trans h2, (k 3 (by omega)).trans h3⟩
theorem At4.keep {w w' : World} {b o : Nat} {v0 v1 v2 v3 : Value} (h : At4 w b o v0 v1 v2 v3) (hz : b < w.heap.size) (hb : Below w.heap.size w w') : At4 w' b o v0 v1 v2 v3 := h.of (cells_of_block (hb.block b hz))
def TsFit (ts : List Th) : Prop := ∀ j (hj : j < ts.length), ts[j].cs.length ≤ 4194304 ∧ ts[j].bs.length ≤ 4194304 ∧ ts[j].es.length ≤ 4194304
/- the first k threads of a row, copied into block g -/
def ThsMade (wr : World) (lo g : Nat) (ts : List Th) (k : Nat) (fps : Nat → List Nat) : Prop :=
  (∀ j (hj : j < ts.length), j < k → ∃ v0 v2 v3, At4 wr g (j * 4) v0 (.int .i64 ts[j].at_) v2 v3 ∧ ThO wr v0 v2 v3 ts[j] (fps j)) ∧
  (∀ j, k * 4 ≤ j → j < ts.length * 4 → ∃ x, wr.cell? ⟨g, j, none⟩ = some x) ∧ (∀ j, wr.frozen? ⟨g, j, none⟩ = false) ∧
  (g :: (List.range k).flatMap fps).Nodup ∧ (∀ x ∈ (List.range k).flatMap fps, g < x ∧ x < wr.heap.size) ∧ lo ≤ g ∧ g < wr.heap.size
set_option maxHeartbeats 1600000 in
set_option maxRecDepth 100000 in
theorem to_ths_some (b off c : Nat) (ts : List Th) (w : World) (hn : ts.length ≤ 4194304) (hf : TsFit ts) (h0 : 0 < ts.length) (hb : b < w.heap.size)
    (hA : ∀ j (hj : j < ts.length), ∃ v0 v2 v3, At4 w b (off + j * 4) v0 (.int .i64 ts[j].at_) v2 v3 ∧ ThIn w v0 v2 v3 ts[j]) :
    Calls Try.prog 35 #[.slice (some ⟨b, off, none⟩) ts.length c] w fun e w' => ∃ v', e = .returned v' ∧ ThsNew w w' v' ts := by
  obtain ⟨i0, hi, hz0, hz1, hz2⟩ := info_parts infoTh
  have HA := hidIt hA
  have HT := hidIt hf
  clear hA hf
  go_enter Try.func35, Try.ntmps35
  go_wp2_with (at_make; refine wpList_make_full _ rfl _ _ 32 rfl w.heap.size 64 i0 (.agg #[.slice none 0 0, .int .i64 0, .slice none 0 0, .slice none 0 0]) 4 Try.underlying32 hi hz0 hz1 .i64 .i64 _ _ ts.length rfl rfl rfl rfl (by rw [hz2]; omega) (by unfold maxLen; omega) (Nat.le_refl _) ?_; intro w1 hown hgrow)
  have hb1 : Below w.heap.size w w1 := (Below.refl _ _).grown hgrow (Nat.le_refl _) (fun k hk => by cases hk)
  have hgz : w.heap.size < w1.heap.size ∧ (∀ j, j < ts.length * 4 → ∃ x, w1.cell? ⟨w.heap.size, j, none⟩ = some x) ∧ ∀ j, w1.frozen? ⟨w.heap.size, j, none⟩ = false := by
    rcases own_cells2 hown with ⟨h, _⟩ | ⟨g, cap, hv, h1, h2, h3, h4, h5, h6, h7⟩
    · cases h
    · simp at hv
      obtain ⟨rfl, _⟩ := hv
      refine ⟨h2, fun j hj => ?_, h7⟩
      have hl : j < (madeCells (Value.agg #[.slice none 0 0, .int .i64 0, .slice none 0 0, .slice none 0 0]).cells (ts.length * 4)).toList.length := by omega
      exact ⟨_, h6 j hl⟩
  clear hown hgrow
  have HG := hidIt hgz
  clear hgz
  go_wp2
  go_loopw [4] (fun i wr => ∃ k : Nat, ∃ fps, k ≤ ts.length ∧ i = .int .i64 k ∧ Below w.heap.size w wr ∧ ThsMade wr w.heap.size w.heap.size ts k fps) (fun i _ => ts.length - (intOf i).toNat)
  case atStart => exact ⟨0, fun _ => [], Nat.zero_le _, rfl, hb1, fun j _ hj => by omega, fun j _ hj => HG.out.2.1 j hj, HG.out.2.2, by simp, by simp, Nat.le_refl _, HG.out.1⟩
  case round =>
    rename World => wr
    obtain ⟨k, fps, hk, rfl, hbw, hs⟩ := hrel
    have HS := hidIt hs
    clear hs
    by_cases hlt : k < ts.length
    · have hlt' : (k : Int) < (ts.length : Int) := by omega
      obtain ⟨v0, v2, v3, h4, h5⟩ := HA.out k hlt
      obtain ⟨q1, q2, q3⟩ := HT.out k hlt
      obtain ⟨r0, r1, r2, r3⟩ := h4.of (fun q => hbw.cell (p := ⟨b, q, none⟩) hb)
      have H5 := hidIt (h5.below hbw)
      clear h4 h5
      generalize hy : ts[k] = y at *
      have HY := hidIt hy
      clear hy
      go_wp2_with fail
      refine (to_th _ v0 v2 v3 y q1 q2 q3 H5.out).mono ?_
      rintro e wt ⟨v0', v2', v3', rfl, fp, o, nd, gg, bt⟩
      obtain ⟨a0', d0', rfl, -⟩ := o.rd.cs.form
      obtain ⟨a2', d2', rfl, -⟩ := o.rd.bs.form
      obtain ⟨a3', d3', rfl, -⟩ := o.rd.es.form
      have zt := bt.size
      have hgr : w.heap.size < wr.heap.size := HS.out.2.2.2.2.2.2
      have hx : ∀ i, i < 4 → ∃ z, wt.cell? ⟨w.heap.size, k * 4 + i, none⟩ = some z := fun i hi => by
        obtain ⟨z, hz⟩ := HS.out.2.1 (k * 4 + i) (by omega) (by omega)
        exact ⟨z, below_cell bt hgr hz⟩
      obtain ⟨x0, c0⟩ := hx 0 (by omega)
      obtain ⟨x1, c1⟩ := hx 1 (by omega)
      obtain ⟨x2, c2⟩ := hx 2 (by omega)
      obtain ⟨x3, c3⟩ := hx 3 (by omega)
      rw [Nat.add_zero] at c0
      have HX := hidIt hx
      have hz : ∀ j, wt.frozen? ⟨w.heap.size, j, none⟩ = false := fun j => below_frozen bt hgr (HS.out.2.2.1 j)
      have BT := hidIt bt
      have OO := hidIt o
      have LT := hidIt o.lt
      clear bt r0 r1 r2 r3 hx o
      go_wp2
      go_roundw
      case rel =>
        refine ⟨k + 1, fun j => if j = k then fp else fps j, by omega, by go_num, put4_below _ _ _ _ (k * 4) (.slice a0' y.cs.length d0') (.int .i64 y.at_) (.slice a2' y.bs.length d2') (.slice a3' y.es.length d3') (below_step hbw (BT.out.mono (by omega))) (Nat.le_refl _), ?_⟩
        obtain ⟨s1, s2, s3, s4, s5, s6, s7⟩ := HS.out
        have hnot : ∀ {x}, x ∈ fp → x ≠ w.heap.size := fun hx e => by have := gg _ hx; omega
        have key : ThsMade (put4 wt w.heap.size (k * 4) (.slice a0' y.cs.length d0') (.int .i64 y.at_) (.slice a2' y.bs.length d2') (.slice a3' y.es.length d3')) w.heap.size w.heap.size ts (k + 1) (fun j => if j = k then fp else fps j) := by
          refine ⟨fun j hj hjk => ?_, fun j hj1 hj2 => ?_, fun j => ?_, ?_, ?_, Nat.le_refl _, by rw [put4_size]; omega⟩
          · by_cases ej : j = k
            · subst ej
              rw [HY.out]
              exact ⟨_, _, _, put4_same wt _ (j * 4) _ _ _ _ HX.out, by show ThO _ _ _ _ _ (if j = j then fp else fps j); rw [if_pos rfl]; exact OO.out.loc (by rw [put4_size]; omega) (fun x hx => put4_block _ _ _ _ _ _ _ _ (hnot hx))⟩
            · obtain ⟨u0, u2, u3, m4, m5⟩ := s1 j hj (by omega)
              refine ⟨u0, u2, u3, put4_at wt _ (k * 4) _ _ _ _ _ _ _ _ _ _ (m4.keep s7 BT.out) (by omega), ?_⟩
              show ThO _ _ _ _ _ (if j = k then fp else fps j)
              rw [if_neg ej]
              exact (m5.below BT.out).loc (by rw [put4_size]; omega) (fun x hx => put4_block _ _ _ _ _ _ _ _ (by
                have := (s5 x (List.mem_flatMap.2 ⟨j, List.mem_range.2 (by omega), hx⟩)).1
                omega))
          · obtain ⟨z, hz⟩ := s2 j (by omega) hj2
            exact ⟨z, (put4_other wt w.heap.size (k * 4) _ _ _ _ w.heap.size j (by omega)).trans (below_cell BT.out hgr hz)⟩
          · exact (put4_frozen wt w.heap.size (k * 4) _ _ _ _ w.heap.size j).trans (below_frozen BT.out hgr (s3 j))
          · rw [flat_succ]
            exact nodup_app (l := w.heap.size :: (List.range k).flatMap fps) (s := wr.heap.size) s4 nd (fun x hx => by
              rcases List.mem_cons.1 hx with rfl | hx
              · exact s7
              · exact (s5 x hx).2) gg
          · rw [flat_succ]
            intro x hx
            rw [put4_size]
            rcases List.mem_append.1 hx with hx | hx
            · have := s5 x hx; omega
            · have := gg x hx; have := LT.out x hx; omega
        exact key
      case measure => simp [intOf]; omega
    · obtain rfl : k = ts.length := by omega
      go_wp2
      go_ret
      obtain ⟨s1, s2, s3, s4, s5, s6, s7⟩ := HS.out
      exact ⟨.slice (some ⟨w.heap.size, 0, none⟩) ts.length ts.length, rfl, w.heap.size :: (List.range ts.length).flatMap fps, ⟨_, ts.length, rfl, Nat.le_refl _, .inr ⟨w.heap.size, fps, rfl, rfl, s7, fun j hj => s1 j hj hj, s3⟩⟩, s4, fun x hx => by
        rcases List.mem_cons.1 hx with rfl | hx
        · exact Nat.le_refl _
        · have := (s5 x hx).1; omega, hbw⟩
theorem to_ths_zero (a : Option Addr) (c : Nat) (w : World) :
    Calls Try.prog 35 #[.slice a 0 c] w fun e w' => ∃ v', e = .returned v' ∧ ThsNew w w' v' [] := by
  obtain ⟨i0, hi, hz0, hz1, hz2⟩ := info_parts infoTh
  go_enter Try.func35, Try.ntmps35
  go_wp2_with (at_make; refine wpList_make_full _ rfl _ _ 32 rfl w.heap.size 64 i0 (.agg #[.slice none 0 0, .int .i64 0, .slice none 0 0, .slice none 0 0]) 4 Try.underlying32 hi hz0 hz1 .i64 .i64 _ _ 0 rfl rfl rfl rfl (by omega) (by unfold maxLen; omega) (Nat.le_refl _) ?_; intro w1 hown hgrow)
  have hb1 : Below w.heap.size w w1 := (Below.refl _ _).grown hgrow (Nat.le_refl _) (fun k hk => by cases hk)
  clear hown hgrow
  go_wp2
  go_loop [4] (fun i => i = .int .i64 0) (fun _ => 0)
  case atStart => rfl
  case round =>
    subst hrel
    go_wp2
    go_ret
    exact ⟨.slice (some ⟨w.heap.size, 0, none⟩) 0 0, rfl, [], ⟨_, 0, rfl, Nat.le_refl _, .inl ⟨rfl, rfl⟩⟩, by simp, by simp, hb1⟩
theorem to_ths (w : World) (v : Value) (ts : List Th) (hn : ts.length ≤ 4194304) (hf : TsFit ts) (h : ThsIn w v ts) :
    Calls Try.prog 35 #[v] w fun e w' => ∃ v', e = .returned v' ∧ ThsNew w w' v' ts := by
  obtain ⟨a, cap, rfl, -, h⟩ := h
  by_cases h0 : 0 < ts.length
  · rcases h with rfl | ⟨b, off, rfl, h1, h2⟩
    · exact absurd h0 (by simp)
    · exact to_ths_some b off cap ts w hn hf h0 h1 h2
  · obtain rfl := len_zero h0
    exact to_ths_zero _ cap w
set_option maxRecDepth 100000 in
theorem to_memN (w : World) (v : Value) (xs : List Int) (hn : xs.length ≤ 4194304) (h : IntsIn w v xs) :
    Calls Try.prog 34 #[.agg #[v]] w fun e w' => ∃ v', e = .returned (.agg #[v']) ∧ IntsNew w w' v' xs := by
  have H := hidIt h
  obtain ⟨a, cap, rfl, -⟩ := h.form
  go_enter Try.func34, Try.ntmps34
  go_wp2_with fail
  generalize hW : World.alloc (World.alloc (World.alloc w _) _) _ = W0
  have X := bx3 w #[.slice a xs.length cap] #[.slice none 0 0] #[.slice none 0 0] 24 31 31
  rw [hW] at X
  clear hW h
  obtain ⟨X0, X1, X2, bW, zW⟩ := X
  refine (to_ints W0 _ xs hn (H.out.below bW)).mono ?_
  rintro e w1 ⟨v1, rfl, f1, o1, nd1, g1, b1⟩
  have z1 := b1.size
  have O1 := hidIt o1
  obtain ⟨a', d', rfl, -⟩ := o1.rd.form
  clear o1
  have Y := hidIt (And.intro (X1.below b1) (And.intro (X2.below b1) (below_step bW (b1.mono (by omega)))))
  clear X0 X1 X2 b1 bW
  have m0 := Y.out.1.2.1 0
  have k0 := Y.out.2.1.2.1 0
  have q1 := Y.out.1.2.2
  have q2 := Y.out.2.1.2.2
  simp at m0 k0
  go_wp2
  refine bodyPost_ret (v := .agg #[.slice a' xs.length d']) (by simp [results, Try.results34, go_sem, m0]) rfl ⟨_, rfl, f1, (O1.out.set (not_mem_lt g1 (by omega))).set (not_mem_lt g1 (by omega)), nd1, fun g hg => by have := g1 g hg; omega, (Y.out.2.2.setCell (by simp <;> omega) _).setCell (by simp <;> omega) _⟩

end Go.Proofs.Ytmifnemjihffkaa
