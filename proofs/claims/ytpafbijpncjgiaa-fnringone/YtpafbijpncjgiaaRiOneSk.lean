/- What the walk of the law of a ring of one caller knows of the world; an append to a list that may have lost its front. -/
import Derived.Test.YtpafbijpncjgiaaRows
import Derived.WalkKit
import Derived.ProofKit
import Derived.OpenShut
import Derived.ShutString
import Derived.Test.YtpafbijpncjgiaaKeepPlain
import Derived.Test.YtpafbijpncjgiaaRiOnePlain
import Derived.ArgAppend
namespace Go.Proofs.Ytpafbijpncjgiaa
open Go.ChangeShapes Go.WideShapes Go.ChangeAt Go.RowKit
set_option linter.unusedVariables false

/- a slice of ints in a block of the law's own: what it holds, and its room behind -/
structure Wn (W : World) (b off cap : Nat) (want : List Int) : Prop where
  le : want.length ≤ cap
  cells : ∀ j (hj : j < want.length), W.cell? ⟨b, off + j, none⟩ = some (.int .i64 want[j])
  spare : ∀ j, want.length ≤ j → j < cap → (W.cell? ⟨b, off + j, none⟩).isSome = true ∧ W.frozen? ⟨b, off + j, none⟩ = false
  lt : b < W.heap.size
theorem Wn.keep {bs : List Nat} {W W' : World} {b off cap : Nat} {want : List Int} (h : Wn W b off cap want) (k : Kp bs W W') (hb : ¬ b ∈ bs) : Wn W' b off cap want :=
  ⟨h.le, fun j hj => k.cell h.lt hb (h.cells j hj), fun j h1 h2 => by rw [k.cell h.lt hb rfl, k.frozen h.lt hb rfl]; exact h.spare j h1 h2, Nat.lt_of_lt_of_le h.lt k.size⟩
theorem Wn.tail {W : World} {b off cap : Nat} {p : Int} {ws : List Int} (h : Wn W b off cap (p :: ws)) : Wn W b (off + 1) (cap - 1) ws := by
  have hle := h.le
  simp only [List.length_cons] at hle
  refine ⟨by omega, fun j hj => ?_, fun j h1 h2 => ?_, h.lt⟩
  · have := h.cells (j + 1) (by simpa using hj)
    rw [List.getElem_cons_succ] at this
    rw [show off + 1 + j = off + (j + 1) by omega]
    exact this
  · have := h.spare (j + 1) (by simp; omega) (by omega)
    rw [show off + 1 + j = off + (j + 1) by omega]
    exact this
theorem Wn.void {W : World} {b off off' : Nat} (h : Wn W b off 0 []) : Wn W b off' 0 [] :=
  ⟨Nat.le_refl _, fun j hj => by simp at hj, fun j h1 h2 => by omega, h.lt⟩
theorem own_spare {w : World} {base : Nat} {e : TypeId} {g cap n : Nat} {xs : List Value} (h : w.ownsRow base e 1 (.slice (some ⟨g, 0, none⟩) n cap) n xs) : ∀ j, j < cap → (w.cell? ⟨g, j, none⟩).isSome = true := by
  intro j hj
  rcases h.2 with ⟨hn, -⟩ | ⟨g', cap', cur, hv, hbg, hgg, hnc, hcm, hcs, htk⟩
  · cases hn
  · simp at hv
    obtain ⟨rfl, rfl⟩ := hv
    obtain ⟨hlt, hge⟩ := Array.getElem?_eq_some_iff.1 hgg
    simp [World.cell?, hgg, show j < cur.size by omega]
theorem Wn.of_own {w : World} {base g cap : Nat} {e : TypeId} {want : List Int} (h : w.ownsRow base e 1 (.slice (some ⟨g, 0, none⟩) want.length cap) want.length (ints want)) : Wn w g 0 cap want := by
  rcases own_cells h with ⟨e, -, -⟩ | ⟨g', cap', hv, h1, h2, h3, h4, h5, h6, h7⟩
  · cases e
  · have hs := own_spare h
    simp at hv
    obtain ⟨rfl, rfl⟩ := hv
    refine ⟨h3, fun j hj => ?_, fun j _ hj => ?_, h2⟩
    · have := h6 j (by simpa using hj)
      rw [Nat.zero_add, this]
      simp
    · rw [Nat.zero_add]; exact ⟨hs j hj, h7 j⟩
theorem wpList_append_want {P : Program} (w : World) {ops : Array Oper} {rest : List Oper} {o : Oper} {a : Act} {Q : Exit → Act → World → Prop}
    (hg : o.guard = none) (s x : Operand) (t : TypeId) (hop : o.op = Op.call { callee := Callee.builtin Builtin.append, args := #[s, x], argTypes := #[t, t] })
    (e : TypeId) (i : TypeInfo) (z : Value) (h1 : P.underlying t = some (.slice e)) (h2 : P.info? e = some i) (h3 : i.zero = some z) (h4 : i.size = 1) (h5 : i.bytes = 8) (h6 : z.cells.size = 1)
    (b off cap : Nat) (want : List Int) (hs : a.eval s = .slice (some ⟨b, off, none⟩) want.length cap) (hw : Wn w b off cap want)
    (ad : Addr) (c : Nat) (y : Int) (hx : a.eval x = .slice (some ad) 1 c) (hc : ∀ j u, [Value.int .i64 y][j]? = some u → w.cell? (ad.add j) = some u) (hb : want.length + 1 ≤ 1000000)
    (hK : ∀ b' off' cap' w' W', Hid (W' = want ++ [y]) → Hid (W'.length = want.length + 1) → Kp [b] w w' → (b' = b ∨ w.heap.size ≤ b') → Wn w' b' off' cap' W' → wpList P ops Q rest (a.put o.dst (.slice (some ⟨b', off', none⟩) W'.length cap')) w') :
    wpList P ops Q (o :: rest) a w := by
  refine wpList_append_arg w hg s x t hop e i z 1 8 h1 h2 h3 h4 h5 h6 (by decide) b off want.length cap (ints want) hs (by simp) (fun j u hj => ?_) ad 1 c [.int .i64 y] hx (by simp) hc (by intro u hu; simp at hu; subst hu; rfl) (fun hr j hj => ?_) (by unfold maxLen; omega) (by omega) (fun hr => ?_) (fun hr v' w' ho hgr => ?_)
  · obtain ⟨hj1, rfl⟩ := List.getElem?_eq_some_iff.1 hj
    rw [List.getElem_map]
    exact hw.cells j (by simpa using hj1)
  · simp at hj
    subst hj
    have := hw.spare want.length (Nat.le_refl _) (by omega)
    simpa using this
  · have hsp := hw.spare want.length (Nat.le_refl _) (by omega)
    have e1 : w.setCells b (off + want.length * 1) [.int .i64 y] = w.setCell ⟨b, off + want.length, none⟩ (.int .i64 y) := by simp [World.setCells]
    rw [e1]
    have kp : Kp [b] w (w.setCell ⟨b, off + want.length, none⟩ (.int .i64 y)) := Kp.setCell (Kp.refl _ _) (.inl (by simp))
    have hK1 := hK b off cap _ (want ++ [y]) (hidIt rfl) (hidIt (by simp)) kp (.inl rfl)
    rw [show (want ++ [y]).length = want.length + 1 by simp] at hK1
    refine hK1 ⟨by simp; omega, fun j hj => ?_, fun j g1 g2 => ?_, Nat.lt_of_lt_of_le hw.lt kp.size⟩
    · simp at hj
      by_cases hjj : j = want.length
      · subst hjj
        obtain ⟨u, hu⟩ := Option.isSome_iff_exists.1 hsp.1
        rw [World.cell?_setCell_same _ _ _ hu]
        simp
      · rw [World.cell?_setCell_other _ _ _ _ (by simp <;> omega), hw.cells j (by omega)]
        simp [show j < want.length by omega]
    · simp at g1
      rw [World.cell?_setCell_other _ _ _ _ (by simp <;> omega), World.frozen?_setCell]
      exact hw.spare j (by omega) g2
  · have hl := hw.lt
    rcases own_cells ho with ⟨rfl, hn, -⟩ | ⟨g, cap', rfl, g1, g2, -⟩
    · omega
    · have kp : Kp [b] w w' := ⟨hgr.os, hgr.tape, hgr.output, hgr.size, fun k hk _ => hgr.block k hk (by simp)⟩
      have hO : w'.ownsRow w.heap.size e 1 (.slice (some ⟨g, 0, none⟩) (want ++ [y]).length cap') (want ++ [y]).length (ints (want ++ [y])) := by simpa using ho
      have hK1 := hK g 0 cap' w' (want ++ [y]) (hidIt rfl) (hidIt (by simp)) kp (.inr g1)
      rw [show (want ++ [y]).length = want.length + 1 by simp] at hK1
      exact hK1 (Wn.of_own hO)
structure Rk (w : World) (P : List Int) (pv : Value) (pl ph Bm lo hi : Nat) (mv : Value) (xs want : List Int) (b off cap : Nat) (W : World) : Prop where
  below : Below w.heap.size w W
  picks : Row W pl ph pv (ints P)
  pz : ph ≤ W.heap.size
  row : Row W lo hi mv (ints xs)
  rz : hi ≤ W.heap.size
  wn : Wn W b off cap want
  mc : W.cell? ⟨Bm, 0, none⟩ = some mv
  mf : W.frozen? ⟨Bm, 0, none⟩ = false
  mz : Bm < W.heap.size
  mw : w.heap.size ≤ Bm
  bw : w.heap.size ≤ b
  a5 : Bm ≠ b
  a6 : Bm < pl ∨ ph ≤ Bm
  a7 : b < pl ∨ ph ≤ b
  a8 : b < lo ∨ hi ≤ b
theorem Rk.keep {w : World} {P : List Int} {pv : Value} {pl ph Bm lo hi : Nat} {mv : Value} {xs want : List Int} {b off cap : Nat} {W W' : World} {bs : List Nat} (h : Rk w P pv pl ph Bm lo hi mv xs want b off cap W) (k : Kp bs W W')
    (hb : ∀ q ∈ bs, w.heap.size ≤ q ∧ q ≠ b ∧ q ≠ Bm ∧ (q < pl ∨ ph ≤ q) ∧ (q < lo ∨ hi ≤ q)) : Rk w P pv pl ph Bm lo hi mv xs want b off cap W' :=
  ⟨h.below.trans (k.below h.below.size fun q hq => (hb q hq).1), k.row h.picks h.pz fun q hq => (hb q hq).2.2.2.1, Nat.le_trans h.pz k.size, k.row h.row h.rz fun q hq => (hb q hq).2.2.2.2, Nat.le_trans h.rz k.size,
    h.wn.keep k (fun hm => (hb b hm).2.1 rfl), k.cell h.mz (fun hm => (hb Bm hm).2.2.1 rfl) h.mc, k.frozen h.mz (fun hm => (hb Bm hm).2.2.1 rfl) h.mf, Nat.lt_of_lt_of_le h.mz k.size, h.mw, h.bw, h.a5, h.a6, h.a7, h.a8⟩
theorem Rk.grow {w : World} {P : List Int} {pv : Value} {pl ph Bm lo hi : Nat} {mv : Value} {xs want : List Int} {b off cap : Nat} {W W' : World} (h : Rk w P pv pl ph Bm lo hi mv xs want b off cap W) (k : Below W.heap.size W W') : Rk w P pv pl ph Bm lo hi mv xs want b off cap W' :=
  h.keep (bs := []) (Kp.of_below k) (fun q hq => by cases hq)
theorem Rk.newm {w : World} {P : List Int} {pv : Value} {pl ph Bm lo hi : Nat} {mv : Value} {xs want : List Int} {b off cap : Nat} {W W' : World} {bs : List Nat} {lo' hi' : Nat} {mv' : Value} {xs' : List Int} (h : Rk w P pv pl ph Bm lo hi mv xs want b off cap W) (k : Kp bs W W')
    (hb : ∀ q ∈ bs, w.heap.size ≤ q ∧ q ≠ b ∧ (q < pl ∨ ph ≤ q)) (mc : W'.cell? ⟨Bm, 0, none⟩ = some mv') (mf : W'.frozen? ⟨Bm, 0, none⟩ = false) (r : Row W' lo' hi' mv' (ints xs')) (hl : W.heap.size ≤ lo') (hz : hi' ≤ W'.heap.size) : Rk w P pv pl ph Bm lo' hi' mv' xs' want b off cap W' :=
  ⟨h.below.trans (k.below h.below.size fun q hq => (hb q hq).1), k.row h.picks h.pz fun q hq => (hb q hq).2.2, Nat.le_trans h.pz k.size, r, hz,
    h.wn.keep k (fun hm => (hb b hm).2.1 rfl), mc, mf, Nat.lt_of_lt_of_le h.mz k.size, h.mw, h.bw, h.a5, h.a6, h.a7, .inl (Nat.lt_of_lt_of_le h.wn.lt hl)⟩
theorem Rk.neww {w : World} {P : List Int} {pv : Value} {pl ph Bm lo hi : Nat} {mv : Value} {xs want want' : List Int} {b off cap b' off' cap' : Nat} {W W' : World} (h : Rk w P pv pl ph Bm lo hi mv xs want b off cap W) (k : Kp [b] W W')
    (hb : b' = b ∨ W.heap.size ≤ b') (hw : Wn W' b' off' cap' want') : Rk w P pv pl ph Bm lo hi mv xs want' b' off' cap' W' := by
  have h1 := h.a5
  have h2 := h.a6
  have h3 := h.a7
  have h4 := h.a8
  have h5 := h.pz
  have h6 := h.rz
  have h7 := h.mz
  have h8 := h.bw
  have h9 := h.below.size
  have n2 : ¬ Bm ∈ [b] := by simpa using h1
  exact ⟨h.below.trans (k.below h.below.size (by simpa using h.bw)), k.row h.picks h.pz (by simpa using h3), Nat.le_trans h.pz k.size, k.row h.row h.rz (by simpa using h4), Nat.le_trans h.rz k.size, hw, k.cell h.mz n2 h.mc, k.frozen h.mz n2 h.mf, Nat.lt_of_lt_of_le h.mz k.size, h.mw, by omega, by omega, h.a6, by omega, by omega⟩
theorem Rk.tail {w : World} {P : List Int} {pv : Value} {pl ph Bm lo hi : Nat} {mv : Value} {xs ws : List Int} {p : Int} {b off cap : Nat} {W : World} (h : Rk w P pv pl ph Bm lo hi mv xs (p :: ws) b off cap W) : Rk w P pv pl ph Bm lo hi mv xs ws b (off + 1) (cap - 1) W :=
  ⟨h.below, h.picks, h.pz, h.row, h.rz, h.wn.tail, h.mc, h.mf, h.mz, h.mw, h.bw, h.a5, h.a6, h.a7, h.a8⟩
theorem Rk.void {w : World} {P : List Int} {pv : Value} {pl ph Bm lo hi : Nat} {mv : Value} {xs : List Int} {b off off' : Nat} {W : World} (h : Rk w P pv pl ph Bm lo hi mv xs [] b off 0 W) : Rk w P pv pl ph Bm lo hi mv xs [] b off' 0 W :=
  ⟨h.below, h.picks, h.pz, h.row, h.rz, h.wn.void, h.mc, h.mf, h.mz, h.mw, h.bw, h.a5, h.a6, h.a7, h.a8⟩

end Go.Proofs.Ytpafbijpncjgiaa
