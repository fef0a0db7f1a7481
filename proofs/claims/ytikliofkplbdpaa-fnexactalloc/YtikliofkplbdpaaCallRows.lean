/- Rows of calls: measured, copied, held against one another. -/
import Derived.Test.YtikliofkplbdpaaRows
import Derived.WalkKit
import Derived.ProofKit
import Derived.OpenShut
import Derived.ShutString
import Derived.Test.YtikliofkplbdpaaCrewPlain
import Derived.Test.YtikliofkplbdpaaCallFns
import Derived.Deep.RegionHeld3
namespace Go.Proofs.Ytikliofkplbdpaa
open Go.ChangeShapes Go.WideShapes Go.ChangeAt Go.RowKit
set_option linter.unusedVariables false

def put10 (w : World) (g o : Nat) (c : Cl) : World := (((((((((w.setCell ⟨g, o, none⟩ (.int .i64 c.k)).setCell ⟨g, o + 1, none⟩ (.int .i64 c.a)).setCell ⟨g, o + 2, none⟩ (.int .i64 c.x)).setCell ⟨g, o + 3, none⟩ (.int .i64 c.pc)).setCell ⟨g, o + 4, none⟩ (.int .i64 c.p)).setCell ⟨g, o + 5, none⟩ (.int .i64 c.c)).setCell ⟨g, o + 6, none⟩ (.int .i64 c.w)).setCell ⟨g, o + 7, none⟩ (.int .i64 c.r)).setCell ⟨g, o + 8, none⟩ (.int .i64 c.v)).setCell ⟨g, o + 9, none⟩ (.bool c.d)
theorem put10_other (w : World) (g o : Nat) (c : Cl) (b q : Nat) (h : b ≠ g ∨ q < o ∨ o + 10 ≤ q) : (put10 w g o c).cell? ⟨b, q, none⟩ = w.cell? ⟨b, q, none⟩ := by
  unfold put10
  repeat rw [World.cell?_setCell_other _ _ _ _ (by simp; omega)]
theorem put10_frozen (w : World) (g o : Nat) (c : Cl) (b q : Nat) : (put10 w g o c).frozen? ⟨b, q, none⟩ = w.frozen? ⟨b, q, none⟩ := by
  unfold put10
  simp only [World.frozen?_setCell]
theorem put10_size (w : World) (g o : Nat) (c : Cl) : (put10 w g o c).heap.size = w.heap.size := by unfold put10; simp
theorem put10_kp (bs : List Nat) (u w : World) (g o : Nat) (c : Cl) (h : Kp bs u w) (hg : g ∈ bs ∨ u.heap.size ≤ g) : Kp bs u (put10 w g o c) := by
  unfold put10
  exact (((((((((h.setCell hg).setCell hg).setCell hg).setCell hg).setCell hg).setCell hg).setCell hg).setCell hg).setCell hg).setCell hg
theorem put10_below (B : Nat) (u w : World) (g o : Nat) (c : Cl) (h : Below B u w) (hg : B ≤ g) : Below B u (put10 w g o c) := by
  unfold put10
  exact (((((((((h.setCell hg _).setCell hg _).setCell hg _).setCell hg _).setCell hg _).setCell hg _).setCell hg _).setCell hg _).setCell hg _).setCell hg _
theorem setc_same {w : World} {b q : Nat} {x : Value} (h : ∃ y, w.cell? ⟨b, q, none⟩ = some y) : (w.setCell ⟨b, q, none⟩ x).cell? ⟨b, q, none⟩ = some x := by
  obtain ⟨y, hy⟩ := h
  exact World.cell?_setCell_same _ _ _ hy
theorem setc_any {w : World} {b q b' q' : Nat} {x : Value} (h : ∃ y, w.cell? ⟨b, q, none⟩ = some y) : ∃ y, (w.setCell ⟨b', q', none⟩ x).cell? ⟨b, q, none⟩ = some y := by
  by_cases e : (⟨b, q, none⟩ : Addr) = ⟨b', q', none⟩
  · obtain ⟨y, hy⟩ := h
    have e2 : b = b' ∧ q = q' := by simpa using e
    obtain ⟨rfl, rfl⟩ := e2
    exact ⟨x, World.cell?_setCell_same _ _ _ hy⟩
  · rw [World.cell?_setCell_other _ _ _ _ (fun h => e h.symm)]
    exact h
theorem setc_up {w : World} {b q q' : Nat} {x v : Value} (h : q < q') (k : w.cell? ⟨b, q, none⟩ = some v) : (w.setCell ⟨b, q', none⟩ x).cell? ⟨b, q, none⟩ = some v := by
  rw [World.cell?_setCell_other _ _ _ _ (by simp <;> omega)]
  exact k
theorem put10_same (w : World) (g o : Nat) (c : Cl) (h : ∀ i, i < 10 → ∃ y, w.cell? ⟨g, o + i, none⟩ = some y) : At10 (put10 w g o c) g o c := by
  have h0 := h 0 (by omega)
  have h1 := h 1 (by omega)
  have h2 := h 2 (by omega)
  have h3 := h 3 (by omega)
  have h4 := h 4 (by omega)
  have h5 := h 5 (by omega)
  have h6 := h 6 (by omega)
  have h7 := h 7 (by omega)
  have h8 := h 8 (by omega)
  have h9 := h 9 (by omega)
  rw [Nat.add_zero] at h0
  unfold put10
  refine ⟨?_, ?_, ?_, ?_, ?_, ?_, ?_, ?_, ?_, ?_⟩
  all_goals (repeat (refine setc_up ?_ ?_; (focus omega)))
  all_goals (refine setc_same ?_; repeat (first | with_reducible assumption | refine setc_any ?_))
theorem put10_at (w : World) (g o : Nat) (c c' : Cl) (b q : Nat) (h : At10 w b q c') (hn : b ≠ g ∨ q + 10 ≤ o ∨ o + 10 ≤ q) : At10 (put10 w g o c) b q c' := by
  have k := fun i (hi : i < 10) => put10_other w g o c b (q + i) (by omega)
  obtain ⟨h0, h1, h2, h3, h4, h5, h6, h7, h8, h9⟩ := h
  generalize put10 w g o c = W at k
  exact ⟨(k 0 (by omega)).trans h0, (k 1 (by omega)).trans h1, (k 2 (by omega)).trans h2, (k 3 (by omega)).trans h3, (k 4 (by omega)).trans h4, (k 5 (by omega)).trans h5, (k 6 (by omega)).trans h6, (k 7 (by omega)).trans h7, (k 8 (by omega)).trans h8, (k 9 (by omega)).trans h9⟩
def CallsNew (w w' : World) (v : Value) (L : List Cl) : Prop := ∃ fp, CallsO w' v L fp ∧ fp.Nodup ∧ (∀ g ∈ fp, w.heap.size ≤ g) ∧ Below w.heap.size w w'

theorem At10.keep {w w' : World} {b o : Nat} {c : Cl} (h : At10 w b o c) (hz : b < w.heap.size) (hb : Below w.heap.size w w') : At10 w' b o c := h.of (cells_of_block (hb.block b hz))
def Two10 (W0 W : World) (a p b q : Nat) (c : Cl) : Prop := Below W0.heap.size W0 W ∧ At10 W a p c ∧ At10 W b q c ∧ a < W.heap.size ∧ b < W.heap.size
theorem Two10.keep {W0 W W' : World} {a p b q : Nat} {c : Cl} (h : Two10 W0 W a p b q c) (hb : Below W.heap.size W W') : Two10 W0 W' a p b q c := by
  obtain ⟨h0, h1, h2, h3, h4⟩ := h
  have := hb.size
  exact ⟨below_step h0 hb, h1.keep h3 hb, h2.keep h4 hb, by omega, by omega⟩
def lim10 (W0 W : World) (a p b q : Nat) (c : Cl) : Prop := Two10 W0 W a p b q c ∧ W.cell? ⟨a, p, none⟩ = some (.int .i64 c.k) ∧ W.cell? ⟨a, p + 1, none⟩ = some (.int .i64 c.a) ∧ W.cell? ⟨a, p + 2, none⟩ = some (.int .i64 c.x) ∧ W.cell? ⟨a, p + 3, none⟩ = some (.int .i64 c.pc) ∧ W.cell? ⟨a, p + 4, none⟩ = some (.int .i64 c.p) ∧ W.cell? ⟨a, p + 5, none⟩ = some (.int .i64 c.c) ∧ W.cell? ⟨a, p + 6, none⟩ = some (.int .i64 c.w) ∧ W.cell? ⟨a, p + 7, none⟩ = some (.int .i64 c.r) ∧ W.cell? ⟨a, p + 8, none⟩ = some (.int .i64 c.v) ∧ W.cell? ⟨a, p + 9, none⟩ = some (.bool c.d) ∧
  W.cell? ⟨b, q, none⟩ = some (.int .i64 c.k) ∧ W.cell? ⟨b, q + 1, none⟩ = some (.int .i64 c.a) ∧ W.cell? ⟨b, q + 2, none⟩ = some (.int .i64 c.x) ∧ W.cell? ⟨b, q + 3, none⟩ = some (.int .i64 c.pc) ∧ W.cell? ⟨b, q + 4, none⟩ = some (.int .i64 c.p) ∧ W.cell? ⟨b, q + 5, none⟩ = some (.int .i64 c.c) ∧ W.cell? ⟨b, q + 6, none⟩ = some (.int .i64 c.w) ∧ W.cell? ⟨b, q + 7, none⟩ = some (.int .i64 c.r) ∧ W.cell? ⟨b, q + 8, none⟩ = some (.int .i64 c.v) ∧ W.cell? ⟨b, q + 9, none⟩ = some (.bool c.d)
theorem lim10_of {W0 W : World} {a p b q : Nat} {c : Cl} (h : Two10 W0 W a p b q c) : lim10 W0 W a p b q c := by
  have h' := h
  obtain ⟨-, ⟨h0, h1, h2, h3, h4, h5, h6, h7, h8, h9⟩, ⟨g0, g1, g2, g3, g4, g5, g6, g7, g8, g9⟩, -⟩ := h
  exact ⟨h', h0, h1, h2, h3, h4, h5, h6, h7, h8, h9, g0, g1, g2, g3, g4, g5, g6, g7, g8, g9⟩

theorem len_zero {α : Type} {L : List α} (h : ¬ 0 < L.length) : L = [] := List.length_eq_zero_iff.1 (by omega)
theorem clZero_cells (n j : Nat) (hj : j < n * 10) : ∃ y, (madeCells (.agg #[.int .i64 clZero.k, .int .i64 clZero.a, .int .i64 clZero.x, .int .i64 clZero.pc, .int .i64 clZero.p, .int .i64 clZero.c, .int .i64 clZero.w, .int .i64 clZero.r, .int .i64 clZero.v, .bool clZero.d] : Value).cells (n * 10))[j]? = some y := by
  have h : j < (madeCells (.agg #[.int .i64 clZero.k, .int .i64 clZero.a, .int .i64 clZero.x, .int .i64 clZero.pc, .int .i64 clZero.p, .int .i64 clZero.c, .int .i64 clZero.w, .int .i64 clZero.r, .int .i64 clZero.v, .bool clZero.d] : Value).cells (n * 10)).size := by simp [madeCells]; exact hj
  exact ⟨_, Array.getElem?_eq_getElem h⟩

end Go.Proofs.Ytikliofkplbdpaa
