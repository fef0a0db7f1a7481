/- What the walk of the law of a stack of one caller knows of the world. -/
import Derived.Test.YtabcmnoadoebpaaRows
import Derived.WalkKit
import Derived.ProofKit
import Derived.OpenShut
import Derived.ShutString
import Derived.Test.YtabcmnoadoebpaaKeepPlain
import Derived.Test.YtabcmnoadoebpaaStOnePlain
namespace Go.Proofs.Ytabcmnoadoebpaa
open Go.ChangeShapes Go.WideShapes Go.ChangeAt Go.RowKit
set_option linter.unusedVariables false

structure Sk (w : World) (P : List Int) (pv : Value) (pl ph Bm lo hi : Nat) (mv : Value) (xs want : List Int) (b off g gc : Nat) (mine : List Int) (W : World) : Prop where
  below : Below w.heap.size w W
  picks : Row W pl ph pv (ints P)
  pz : ph ≤ W.heap.size
  row : Row W lo hi mv (ints xs)
  rz : hi ≤ W.heap.size
  want : ∀ j (hj : j < want.length), W.cell? ⟨b, off + j, none⟩ = some (.int .i64 want[j])
  wz : b < W.heap.size
  own : W.ownsRow w.heap.size 3 1 (.slice (some ⟨g, 0, none⟩) mine.length gc) mine.length (ints mine)
  mc : W.cell? ⟨Bm, 0, none⟩ = some mv
  mf : W.frozen? ⟨Bm, 0, none⟩ = false
  mz : Bm < W.heap.size
  mw : w.heap.size ≤ Bm
  a1 : g ≠ b
  a2 : g ≠ Bm
  a3 : g < pl ∨ ph ≤ g
  a4 : g < lo ∨ hi ≤ g
  a5 : Bm ≠ b
  a6 : Bm < pl ∨ ph ≤ Bm
theorem Sk.gz {w : World} {P : List Int} {pv : Value} {pl ph Bm lo hi : Nat} {mv : Value} {xs want : List Int} {b off g gc : Nat} {mine : List Int} {W : World} (h : Sk w P pv pl ph Bm lo hi mv xs want b off g gc mine W) : w.heap.size ≤ g ∧ g < W.heap.size := h.own.lt g rfl
theorem Sk.keep {w : World} {P : List Int} {pv : Value} {pl ph Bm lo hi : Nat} {mv : Value} {xs want : List Int} {b off g gc : Nat} {mine : List Int} {W W' : World} {bs : List Nat} (h : Sk w P pv pl ph Bm lo hi mv xs want b off g gc mine W) (k : Kp bs W W')
    (hb : ∀ q ∈ bs, w.heap.size ≤ q ∧ q ≠ g ∧ q ≠ b ∧ q ≠ Bm ∧ (q < pl ∨ ph ≤ q) ∧ (q < lo ∨ hi ≤ q)) : Sk w P pv pl ph Bm lo hi mv xs want b off g gc mine W' :=
  ⟨h.below.trans (k.below h.below.size fun q hq => (hb q hq).1), k.row h.picks h.pz fun q hq => (hb q hq).2.2.2.2.1, Nat.le_trans h.pz k.size, k.row h.row h.rz fun q hq => (hb q hq).2.2.2.2.2, Nat.le_trans h.rz k.size,
    fun j hj => k.cell h.wz (fun hm => (hb b hm).2.2.1 rfl) (h.want j hj), Nat.lt_of_lt_of_le h.wz k.size, k.own h.own (fun hm => (hb g hm).2.1 rfl), k.cell h.mz (fun hm => (hb Bm hm).2.2.2.1 rfl) h.mc, k.frozen h.mz (fun hm => (hb Bm hm).2.2.2.1 rfl) h.mf, Nat.lt_of_lt_of_le h.mz k.size, h.mw, h.a1, h.a2, h.a3, h.a4, h.a5, h.a6⟩
theorem Sk.grow {w : World} {P : List Int} {pv : Value} {pl ph Bm lo hi : Nat} {mv : Value} {xs want : List Int} {b off g gc : Nat} {mine : List Int} {W W' : World} (h : Sk w P pv pl ph Bm lo hi mv xs want b off g gc mine W) (k : Below W.heap.size W W') : Sk w P pv pl ph Bm lo hi mv xs want b off g gc mine W' :=
  h.keep (bs := []) (Kp.of_below k) (fun q hq => by cases hq)
theorem Sk.newm {w : World} {P : List Int} {pv : Value} {pl ph Bm lo hi : Nat} {mv : Value} {xs want : List Int} {b off g gc : Nat} {mine : List Int} {W W' : World} {bs : List Nat} {lo' hi' : Nat} {mv' : Value} {xs' : List Int} (h : Sk w P pv pl ph Bm lo hi mv xs want b off g gc mine W) (k : Kp bs W W')
    (hb : ∀ q ∈ bs, w.heap.size ≤ q ∧ q ≠ g ∧ q ≠ b ∧ (q < pl ∨ ph ≤ q)) (mc : W'.cell? ⟨Bm, 0, none⟩ = some mv') (mf : W'.frozen? ⟨Bm, 0, none⟩ = false) (r : Row W' lo' hi' mv' (ints xs')) (hl : W.heap.size ≤ lo') (hz : hi' ≤ W'.heap.size) : Sk w P pv pl ph Bm lo' hi' mv' xs' want b off g gc mine W' :=
  ⟨h.below.trans (k.below h.below.size fun q hq => (hb q hq).1), k.row h.picks h.pz fun q hq => (hb q hq).2.2.2, Nat.le_trans h.pz k.size, r, hz,
    fun j hj => k.cell h.wz (fun hm => (hb b hm).2.2.1 rfl) (h.want j hj), Nat.lt_of_lt_of_le h.wz k.size, k.own h.own (fun hm => (hb g hm).2.1 rfl), mc, mf, Nat.lt_of_lt_of_le h.mz k.size, h.mw, h.a1, h.a2, h.a3, .inl (by have := h.gz; omega), h.a5, h.a6⟩
theorem Sk.neww {w : World} {P : List Int} {pv : Value} {pl ph Bm lo hi : Nat} {mv : Value} {xs want want' : List Int} {b off g gc b' off' : Nat} {mine : List Int} {W W' : World} (h : Sk w P pv pl ph Bm lo hi mv xs want b off g gc mine W) (k : Below W.heap.size W W')
    (hw : ∀ j (hj : j < want'.length), W'.cell? ⟨b', off' + j, none⟩ = some (.int .i64 want'[j])) (hl : W.heap.size ≤ b') (hz : b' < W'.heap.size) : Sk w P pv pl ph Bm lo hi mv xs want' b' off' g gc mine W' := by
  have h2 := h.grow k
  have hg := h.gz
  have hm := h.mz
  exact ⟨h2.below, h2.picks, h2.pz, h2.row, h2.rz, hw, hz, h2.own, h2.mc, h2.mf, h2.mz, h2.mw, by omega, h2.a2, h2.a3, h2.a4, by omega, h2.a6⟩
theorem Sk.tail {w : World} {P : List Int} {pv : Value} {pl ph Bm lo hi : Nat} {mv : Value} {xs ws : List Int} {p : Int} {b off g gc : Nat} {mine : List Int} {W : World} (h : Sk w P pv pl ph Bm lo hi mv xs (p :: ws) b off g gc mine W) : Sk w P pv pl ph Bm lo hi mv xs ws b (off + 1) g gc mine W :=
  ⟨h.below, h.picks, h.pz, h.row, h.rz, fun j hj => by have := h.want (j + 1) (by simpa using hj); rw [List.getElem_cons_succ] at this; rw [show off + 1 + j = off + (j + 1) by omega]; exact this, h.wz, h.own, h.mc, h.mf, h.mz, h.mw, h.a1, h.a2, h.a3, h.a4, h.a5, h.a6⟩
theorem Sk.popmine {w : World} {P : List Int} {pv : Value} {pl ph Bm lo hi : Nat} {mv : Value} {xs want : List Int} {b off g gc : Nat} {mine : List Int} {x : Int} {W : World} (h : Sk w P pv pl ph Bm lo hi mv xs want b off g gc (mine ++ [x]) W) : Sk w P pv pl ph Bm lo hi mv xs want b off g gc mine W :=
  ⟨h.below, h.picks, h.pz, h.row, h.rz, h.want, h.wz, ownsRow_pop (last := [.int .i64 x]) (by simp) (by have := h.own; simpa using this), h.mc, h.mf, h.mz, h.mw, h.a1, h.a2, h.a3, h.a4, h.a5, h.a6⟩
theorem Sk.addmine {w : World} {P : List Int} {pv : Value} {pl ph Bm lo hi : Nat} {mv : Value} {xs want : List Int} {b off g gc g' gc' : Nat} {mine mine' : List Int} {W W' : World} (h : Sk w P pv pl ph Bm lo hi mv xs want b off g gc mine W) (k : W.grownBy W' (some g)) (hg : g' = g ∨ g' = W.heap.size)
    (own : W'.ownsRow w.heap.size 3 1 (.slice (some ⟨g', 0, none⟩) mine'.length gc') mine'.length (ints mine')) : Sk w P pv pl ph Bm lo hi mv xs want b off g' gc' mine' W' := by
  have kp := Kp.of_grown k
  have hz := h.wz
  have hm := h.mz
  have hp := h.pz
  have hr := h.rz
  have hgz := h.gz
  have n1 : ¬ b ∈ [g] := by have := h.a1; simp; omega
  have n2 : ¬ Bm ∈ [g] := by have := h.a2; simp; omega
  refine ⟨h.below.trans (kp.below h.below.size (by simpa using hgz.1)), kp.row h.picks h.pz (by simpa using h.a3), Nat.le_trans h.pz k.size, kp.row h.row h.rz (by simpa using h.a4), Nat.le_trans h.rz k.size, fun j hj => kp.cell h.wz n1 (h.want j hj), Nat.lt_of_lt_of_le h.wz k.size, own, kp.cell h.mz n2 h.mc, kp.frozen h.mz n2 h.mf, Nat.lt_of_lt_of_le h.mz k.size, h.mw, ?_, ?_, ?_, ?_, h.a5, h.a6⟩
  · have := h.a1; omega
  · have := h.a2; omega
  · have := h.a3; omega
  · have := h.a4; omega
theorem Sk.cap {w : World} {P : List Int} {pv : Value} {pl ph Bm lo hi : Nat} {mv : Value} {xs want : List Int} {b off g gc : Nat} {mine : List Int} {W : World} (h : Sk w P pv pl ph Bm lo hi mv xs want b off g gc mine W) : mine.length ≤ gc := by
  rcases own_cells h.own with ⟨e, -, -⟩ | ⟨g', cap, e, -, -, h3, -⟩
  · cases e
  · simp at e
    omega
theorem nodup_move {p : Int} {ws mine : List Int} (h : (p :: ws ++ mine).Nodup) : (ws ++ (mine ++ [p])).Nodup := by
  rw [← List.append_assoc]
  exact (List.perm_append_singleton p (ws ++ mine)).nodup_iff.2 h
theorem nodup_back {x : Int} {want init : List Int} (h : (want ++ (init ++ [x])).Nodup) : (x :: want ++ init).Nodup := by
  rw [← List.append_assoc] at h
  exact (List.perm_append_singleton x (want ++ init)).nodup_iff.1 h
theorem both_few {N : Nat} {ws mine : List Int} (h : (ws ++ mine).Nodup) (h1 : ∀ y ∈ ws, 0 ≤ y ∧ y < (N : Int)) (h2 : ∀ y ∈ mine, 0 ≤ y ∧ y < (N : Int)) : ws.length + mine.length ≤ N := by
  have := few N _ h (fun y hy => by
    rcases List.mem_append.1 hy with hy | hy
    · exact h1 y hy
    · exact h2 y hy)
  simpa using this
theorem Sk.off0 {w : World} {P : List Int} {pv : Value} {pl ph Bm lo hi : Nat} {mv : Value} {xs : List Int} {b off off' g gc : Nat} {mine : List Int} {W : World} (h : Sk w P pv pl ph Bm lo hi mv xs [] b off g gc mine W) : Sk w P pv pl ph Bm lo hi mv xs [] b off' g gc mine W :=
  ⟨h.below, h.picks, h.pz, h.row, h.rz, fun j hj => by simp at hj, h.wz, h.own, h.mc, h.mf, h.mz, h.mw, h.a1, h.a2, h.a3, h.a4, h.a5, h.a6⟩
theorem Sk.last {w : World} {P : List Int} {pv : Value} {pl ph Bm lo hi : Nat} {mv : Value} {xs want : List Int} {b off g gc : Nat} {mine : List Int} {x : Int} {W : World} (h : Sk w P pv pl ph Bm lo hi mv xs want b off g gc (mine ++ [x]) W) : W.cell? ⟨g, mine.length, none⟩ = some (.int .i64 x) := by
  rcases own_cells h.own with ⟨e, -, -⟩ | ⟨g', cap, e, -, -, -, -, h4, h5, -⟩
  · cases e
  · simp at e
    obtain ⟨rfl, -⟩ := e
    have := h5 mine.length (by simp)
    simpa using this
theorem addr_add (b off j : Nat) : (⟨b, off, none⟩ : Addr).add j = ⟨b, off + j, none⟩ := by unfold Addr.add; split <;> simp_all

end Go.Proofs.Ytabcmnoadoebpaa
