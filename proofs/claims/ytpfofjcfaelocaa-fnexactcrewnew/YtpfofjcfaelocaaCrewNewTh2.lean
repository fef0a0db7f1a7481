/- A new thread, by the program. -/
import Derived.Test.YtpfofjcfaelocaaRows
import Derived.WalkKit
import Derived.ProofKit
import Derived.OpenShut
import Derived.ShutString
import Derived.Test.YtpfofjcfaelocaaCrewNewTh
import Derived.Test.YtpfofjcfaelocaaCwLaw
namespace Go.Proofs.Ytpfofjcfaelocaa
open Go.ChangeShapes Go.WideShapes Go.ChangeAt Go.RowKit
set_option linter.unusedVariables false

/- the rows of a new thread: calls up to k, times up to i -/
structure Fill (what : Int) (cs : List Cl) (n m g0 g2 g3 k i : Nat) (W1 W : World) : Prop where
  below : Below W1.heap.size W1 W
  box : Bx W m #[.slice (some ⟨g0, 0, none⟩) n n, .int .i64 0, .slice (some ⟨g2, 0, none⟩) n n, .slice (some ⟨g3, 0, none⟩) n n]
  c1 : ∀ j (hj : j < cs.length), j < k → At10 W g0 (j * 10) (begC what cs[j])
  c2 : ∀ j, k * 10 ≤ j → j < n * 10 → ∃ x, W.cell? ⟨g0, j, none⟩ = some x
  c3 : g0 < W.heap.size ∧ ∀ j, W.frozen? ⟨g0, j, none⟩ = false
  b1 : ∀ j, j < i → W.cell? ⟨g2, j, none⟩ = some (.int .i64 (-1))
  b2 : ∀ j, i ≤ j → j < n → ∃ x, W.cell? ⟨g2, j, none⟩ = some x
  b3 : g2 < W.heap.size ∧ ∀ j, W.frozen? ⟨g2, j, none⟩ = false
  e1 : ∀ j, j < i → W.cell? ⟨g3, j, none⟩ = some (.int .i64 (-1))
  e2 : ∀ j, i ≤ j → j < n → ∃ x, W.cell? ⟨g3, j, none⟩ = some x
  e3 : g3 < W.heap.size ∧ ∀ j, W.frozen? ⟨g3, j, none⟩ = false
theorem Fill.grow {what : Int} {cs : List Cl} {n m g0 g2 g3 k i : Nat} {W1 W W' : World} (h : Fill what cs n m g0 g2 g3 k i W1 W) (b : Below W.heap.size W W') : Fill what cs n m g0 g2 g3 k i W1 W' := by
  have z := b.size
  refine ⟨below_step h.below b, h.box.below b, fun j hj hk => (h.c1 j hj hk).keep h.c3.1 b, fun j h1 h2 => ?_, ⟨Nat.lt_of_lt_of_le h.c3.1 z, fun j => below_frozen b h.c3.1 (h.c3.2 j)⟩, fun j hk => below_cell b h.b3.1 (h.b1 j hk), fun j h1 h2 => ?_, ⟨Nat.lt_of_lt_of_le h.b3.1 z, fun j => below_frozen b h.b3.1 (h.b3.2 j)⟩, fun j hk => below_cell b h.e3.1 (h.e1 j hk), fun j h1 h2 => ?_, ⟨Nat.lt_of_lt_of_le h.e3.1 z, fun j => below_frozen b h.e3.1 (h.e3.2 j)⟩⟩
  · obtain ⟨x, hx⟩ := h.c2 j h1 h2; exact ⟨x, below_cell b h.c3.1 hx⟩
  · obtain ⟨x, hx⟩ := h.b2 j h1 h2; exact ⟨x, below_cell b h.b3.1 hx⟩
  · obtain ⟨x, hx⟩ := h.e2 j h1 h2; exact ⟨x, below_cell b h.e3.1 hx⟩
theorem put10_block (w : World) (g o : Nat) (c : Cl) (b : Nat) (h : b ≠ g) : (put10 w g o c).heap[b]? = w.heap[b]? := by
  unfold put10
  repeat rw [Below.heap_setCell _ _ _ _ (by simpa using h)]
theorem Fill.put {what : Int} {cs : List Cl} {n m g0 g2 g3 k i : Nat} {W1 W : World} {b : Cl} (h : Fill what cs n m g0 g2 g3 k i W1 W) (hk : k < n) (hb : ∀ hj : k < cs.length, begC what cs[k] = b) (hg : W1.heap.size ≤ g0) (n1 : m ≠ g0) (n2 : g0 ≠ g2) (n3 : g0 ≠ g3) : Fill what cs n m g0 g2 g3 (k + 1) i W1 (put10 W g0 (k * 10) b) := by
  have e2 := put10_block W g0 (k * 10) b g2 (Ne.symm n2)
  have e3 := put10_block W g0 (k * 10) b g3 (Ne.symm n3)
  refine ⟨put10_below _ _ _ _ _ _ h.below hg, h.box.block (by rw [put10_size]; exact Nat.le_refl _) (put10_block W g0 (k * 10) b m n1), fun j hj hjk => ?_, fun j h1 h2 => ?_, ⟨by rw [put10_size]; exact h.c3.1, fun j => (put10_frozen _ _ _ _ _ _).trans (h.c3.2 j)⟩, fun j hj => (cells_of_block e2 j).trans (h.b1 j hj), fun j h1 h2 => ?_, ⟨by rw [put10_size]; exact h.b3.1, fun j => (frozen_of_block e2 j).trans (h.b3.2 j)⟩, fun j hj => (cells_of_block e3 j).trans (h.e1 j hj), fun j h1 h2 => ?_, ⟨by rw [put10_size]; exact h.e3.1, fun j => (frozen_of_block e3 j).trans (h.e3.2 j)⟩⟩
  · by_cases ej : j = k
    · subst ej
      rw [hb hj]
      exact put10_same W g0 (j * 10) b (fun q hq => h.c2 (j * 10 + q) (by omega) (by omega))
    · exact put10_at W g0 (k * 10) b _ _ _ (h.c1 j hj (by omega)) (by omega)
  · obtain ⟨x, hx⟩ := h.c2 j (by omega) h2; exact ⟨x, (put10_other W g0 (k * 10) b g0 j (by omega)).trans hx⟩
  · obtain ⟨x, hx⟩ := h.b2 j h1 h2; exact ⟨x, (cells_of_block e2 j).trans hx⟩
  · obtain ⟨x, hx⟩ := h.e2 j h1 h2; exact ⟨x, (cells_of_block e3 j).trans hx⟩
theorem Fill.weak {what : Int} {cs : List Cl} {n m g0 g2 g3 k i : Nat} {W1 W : World} (h : Fill what cs n m g0 g2 g3 (k + 1) i W1 W) (hk : k < cs.length) (hl : cs.length = n) : Fill what cs n m g0 g2 g3 k i W1 W := by
  refine ⟨h.below, h.box, fun j hj hjk => h.c1 j hj (by omega), fun j h1 h2 => ?_, h.c3, h.b1, h.b2, h.b3, h.e1, h.e2, h.e3⟩
  by_cases hj : (k + 1) * 10 ≤ j
  · exact h.c2 j hj h2
  · obtain ⟨m0, m1, m2, m3, m4, m5, m6, m7, m8, m9⟩ := h.c1 k hk (by omega)
    obtain ⟨r, hr, rfl⟩ : ∃ r, r < 10 ∧ j = k * 10 + r := ⟨j - k * 10, by omega, by omega⟩
    match r, hr with
    | 0, _ => exact ⟨_, m0⟩
    | 1, _ => exact ⟨_, m1⟩
    | 2, _ => exact ⟨_, m2⟩
    | 3, _ => exact ⟨_, m3⟩
    | 4, _ => exact ⟨_, m4⟩
    | 5, _ => exact ⟨_, m5⟩
    | 6, _ => exact ⟨_, m6⟩
    | 7, _ => exact ⟨_, m7⟩
    | 8, _ => exact ⟨_, m8⟩
    | 9, _ => exact ⟨_, m9⟩
theorem Fill.times {what : Int} {cs : List Cl} {n m g0 g2 g3 k i : Nat} {W1 W W' : World} (h : Fill what cs n m g0 g2 g3 k i W1 W) (hz : W'.heap.size = W.heap.size) (hB : Below W1.heap.size W1 W') (ho : ∀ b, b ≠ g2 → b ≠ g3 → W'.heap[b]? = W.heap[b]?) (n1 : m ≠ g2) (n2 : m ≠ g3) (n3 : g0 ≠ g2) (n4 : g0 ≠ g3)
    (hf : ∀ b j, W'.frozen? ⟨b, j, none⟩ = W.frozen? ⟨b, j, none⟩) (t1 : W'.cell? ⟨g2, i, none⟩ = some (.int .i64 (-1))) (t2 : W'.cell? ⟨g3, i, none⟩ = some (.int .i64 (-1))) (t3 : ∀ j, j ≠ i → W'.cell? ⟨g2, j, none⟩ = W.cell? ⟨g2, j, none⟩) (t4 : ∀ j, j ≠ i → W'.cell? ⟨g3, j, none⟩ = W.cell? ⟨g3, j, none⟩) : Fill what cs n m g0 g2 g3 k (i + 1) W1 W' := by
  have e0 := ho g0 n3 n4
  refine ⟨hB, h.box.block (by omega) (ho m n1 n2), fun j hj hjk => (h.c1 j hj hjk).of (cells_of_block e0), fun j h1 h2 => ?_, ⟨by rw [hz]; exact h.c3.1, fun j => (hf g0 j).trans (h.c3.2 j)⟩, fun j hj => ?_, fun j h1 h2 => ?_, ⟨by rw [hz]; exact h.b3.1, fun j => (hf g2 j).trans (h.b3.2 j)⟩, fun j hj => ?_, fun j h1 h2 => ?_, ⟨by rw [hz]; exact h.e3.1, fun j => (hf g3 j).trans (h.e3.2 j)⟩⟩
  · obtain ⟨x, hx⟩ := h.c2 j h1 h2; exact ⟨x, (cells_of_block e0 j).trans hx⟩
  · by_cases ej : j = i
    · subst ej; exact t1
    · exact (t3 j ej).trans (h.b1 j (by omega))
  · obtain ⟨x, hx⟩ := h.b2 j (by omega) h2; exact ⟨x, (t3 j (by omega)).trans hx⟩
  · by_cases ej : j = i
    · subst ej; exact t2
    · exact (t4 j ej).trans (h.e1 j (by omega))
  · obtain ⟨x, hx⟩ := h.e2 j (by omega) h2; exact ⟨x, (t4 j (by omega)).trans hx⟩
theorem Fill.two {what : Int} {cs : List Cl} {n m g0 g2 g3 k i : Nat} {W1 W : World} (h : Fill what cs n m g0 g2 g3 k i W1 W) (hi : i < n) (G3 : W1.heap.size ≤ g2) (G4 : W1.heap.size ≤ g3) (n1 : m ≠ g2) (n2 : m ≠ g3) (n3 : g0 ≠ g2) (n4 : g0 ≠ g3) (n5 : g2 ≠ g3) : Fill what cs n m g0 g2 g3 k (i + 1) W1 ((W.setCell ⟨g2, i, none⟩ (.int .i64 (-1))).setCell ⟨g3, i, none⟩ (.int .i64 (-1))) := by
  obtain ⟨u2, v2⟩ := h.b2 i (Nat.le_refl _) hi
  obtain ⟨u3, v3⟩ := h.e2 i (Nat.le_refl _) hi
  refine h.times (by simp) ((h.below.setCell (by show W1.heap.size ≤ g2; omega) _).setCell (by show W1.heap.size ≤ g3; omega) _) (fun b h1 h2 => (Below.heap_setCell _ _ _ _ h2).trans (Below.heap_setCell _ _ _ _ h1)) n1 n2 n3 n4 (fun b j => by rw [World.frozen?_setCell, World.frozen?_setCell]) ?_ ?_ (fun j hj => ?_) (fun j hj => ?_)
  · rw [World.cell?_setCell_other _ _ _ _ (by simp <;> omega)]; exact World.cell?_setCell_same _ _ _ v2
  · exact World.cell?_setCell_same _ _ _ (by rw [World.cell?_setCell_other _ _ _ _ (by simp <;> omega)]; exact v3)
  · rw [World.cell?_setCell_other _ _ _ _ (by simp <;> omega), World.cell?_setCell_other _ _ _ _ (by simp <;> omega)]
  · rw [World.cell?_setCell_other _ _ _ _ (by simp <;> omega), World.cell?_setCell_other _ _ _ _ (by simp <;> omega)]
theorem Fill.two2 {what : Int} {cs : List Cl} {n m g0 g2 g3 k i : Nat} {W1 W : World} (h : Fill what cs n m g0 g2 g3 k i W1 W) (hi : i < n) (G3 : W1.heap.size ≤ g2) (G4 : W1.heap.size ≤ g3) (n1 : m ≠ g2) (n2 : m ≠ g3) (n3 : g0 ≠ g2) (n4 : g0 ≠ g3) (n5 : g2 ≠ g3) : Fill what cs n m g0 g2 g3 k (i + 1) W1 ((W.setCell ⟨g3, i, none⟩ (.int .i64 (-1))).setCell ⟨g2, i, none⟩ (.int .i64 (-1))) := by
  obtain ⟨u2, v2⟩ := h.b2 i (Nat.le_refl _) hi
  obtain ⟨u3, v3⟩ := h.e2 i (Nat.le_refl _) hi
  refine h.times (by simp) ((h.below.setCell (by show W1.heap.size ≤ g3; omega) _).setCell (by show W1.heap.size ≤ g2; omega) _) (fun b h1 h2 => (Below.heap_setCell _ _ _ _ h1).trans (Below.heap_setCell _ _ _ _ h2)) n1 n2 n3 n4 (fun b j => by rw [World.frozen?_setCell, World.frozen?_setCell]) ?_ ?_ (fun j hj => ?_) (fun j hj => ?_)
  · exact World.cell?_setCell_same _ _ _ (by rw [World.cell?_setCell_other _ _ _ _ (by simp <;> omega)]; exact v2)
  · rw [World.cell?_setCell_other _ _ _ _ (by simp <;> omega)]; exact World.cell?_setCell_same _ _ _ v3
  · rw [World.cell?_setCell_other _ _ _ _ (by simp <;> omega), World.cell?_setCell_other _ _ _ _ (by simp <;> omega)]
  · rw [World.cell?_setCell_other _ _ _ _ (by simp <;> omega), World.cell?_setCell_other _ _ _ _ (by simp <;> omega)]
/- what the region of the call knows -/
def R8 (what : Int) (cs : List Cl) (n m g0 g2 g3 k nb : Nat) (C10 : Array Value) (W1 W : World) : Prop := Fill what cs n m g0 g2 g3 k k W1 W ∧ Bx W nb C10
theorem r8_cells (what : Int) (cs : List Cl) (n m g0 g2 g3 k nb : Nat) (c : Cl) (W1 W : World) (h : R8 what cs n m g0 g2 g3 k nb #[.int .i64 c.k, .int .i64 c.a, .int .i64 c.x, .int .i64 c.pc, .int .i64 c.p, .int .i64 c.c, .int .i64 c.w, .int .i64 c.r, .int .i64 c.v, .bool c.d] W1 W) : W.cell? ⟨m, 0, none⟩ = some (.slice (some ⟨g0, 0, none⟩) n n) ∧ W.cell? ⟨nb, 0, none⟩ = some (.int .i64 c.k) ∧ W.cell? ⟨nb, 1, none⟩ = some (.int .i64 c.a) ∧ W.cell? ⟨nb, 2, none⟩ = some (.int .i64 c.x) ∧ W.cell? ⟨nb, 3, none⟩ = some (.int .i64 c.pc) ∧ W.cell? ⟨nb, 4, none⟩ = some (.int .i64 c.p) ∧ W.cell? ⟨nb, 5, none⟩ = some (.int .i64 c.c) ∧ W.cell? ⟨nb, 6, none⟩ = some (.int .i64 c.w) ∧ W.cell? ⟨nb, 7, none⟩ = some (.int .i64 c.r) ∧ W.cell? ⟨nb, 8, none⟩ = some (.int .i64 c.v) ∧ W.cell? ⟨nb, 9, none⟩ = some (.bool c.d) := by
  have a := h.1.box.2.1 0
  have a0 := h.2.2.1 0
  have a1 := h.2.2.1 1
  have a2 := h.2.2.1 2
  have a3 := h.2.2.1 3
  have a4 := h.2.2.1 4
  have a5 := h.2.2.1 5
  have a6 := h.2.2.1 6
  have a7 := h.2.2.1 7
  have a8 := h.2.2.1 8
  have a9 := h.2.2.1 9
  simp at a a0 a1 a2 a3 a4 a5 a6 a7 a8 a9
  exact ⟨a, a0, a1, a2, a3, a4, a5, a6, a7, a8, a9⟩
def thOkN (what : Int) (t : Th) : Prop := t.cs.length ≤ 12 ∧ ∀ j (h : j < t.cs.length), (begC what t.cs[j]).k ≠ 0
noncomputable def thOkB (what : Int) (t : Th) : Bool := @decide (thOkN what t) (Classical.propDecidable _)
theorem thOkB_yes {what : Int} {t : Th} (h : thOkN what t) : thOkB what t = true := @decide_eq_true _ (Classical.propDecidable _) h
theorem thOkB_no {what : Int} {t : Th} (h : ¬ thOkN what t) : thOkB what t = false := @decide_eq_false _ (Classical.propDecidable _) h
def thZero : Th := ⟨[], 0, [], []⟩
def thMade (what : Int) (t : Th) : Th := ⟨t.cs.map (begC what), 0, List.replicate t.cs.length (-1), List.replicate t.cs.length (-1)⟩
theorem fill_owns {what : Int} {t : Th} {m g0 g2 g3 : Nat} {W1 W : World} (h : Fill what t.cs t.cs.length m g0 g2 g3 t.cs.length t.cs.length W1 W) : ThO W (.slice (some ⟨g0, 0, none⟩) t.cs.length t.cs.length) (.slice (some ⟨g2, 0, none⟩) t.cs.length t.cs.length) (.slice (some ⟨g3, 0, none⟩) t.cs.length t.cs.length) (thMade what t) ([g0] ++ ([g2] ++ [g3])) := by
  refine ⟨[g0], [g2], [g3], rfl, ⟨_, t.cs.length, by simp [thMade], by simp [thMade], .inr ⟨g0, rfl, rfl, h.c3.1, fun j hj => ?_, h.c3.2⟩⟩, ⟨_, t.cs.length, by simp [thMade], trivial, .inr ⟨g2, rfl, rfl, h.b3.1, fun j hj => ?_, h.b3.2⟩⟩, ⟨_, t.cs.length, by simp [thMade], trivial, .inr ⟨g3, rfl, rfl, h.e3.1, fun j hj => ?_, h.e3.2⟩⟩⟩
  · simp [thMade] at hj ⊢
    exact h.c1 j hj hj
  · simp [thMade] at hj ⊢
    exact h.b1 j hj
  · simp [thMade] at hj ⊢
    exact h.e1 j hj
noncomputable def thNewT (what : Int) (t : Th) : Th := if thOkB what t = true then thMade what t else thZero
set_option maxHeartbeats 6400000 in
set_option maxRecDepth 100000 in
theorem impl_newthread_some (what : Int) (cb co : Nat) (a2 a3 : Option Addr) (t : Th) (d0 n2 d2 n3 d3 : Nat) (w : World) (hw : whB what = true) (hn : t.cs.length ≤ 12) (R10 R1 : Array Value) (hR10 : R10.size = t.cs.length * 10) (hR1 : R1.size = t.cs.length) (a0 : Option Addr)
    (hA : t.cs = [] ∨ ∃ cb co, a0 = some ⟨cb, co, none⟩ ∧ cb < w.heap.size ∧ ∀ j (hj : j < t.cs.length), At10 w cb (co + j * 10) t.cs[j])
    (hm : ∀ W : World, (Instr.makeSlice 44 (.int .i64 (t.cs.length : Int)) (.int .i64 (t.cs.length : Int))).run Try.prog W = .ok (.slice (some ⟨W.heap.size, 0, none⟩) t.cs.length t.cs.length) (W.alloc (.cells R10 48)))
    (hi : ∀ W : World, (Instr.makeSlice 24 (.int .i64 (t.cs.length : Int)) (.int .i64 (t.cs.length : Int))).run Try.prog W = .ok (.slice (some ⟨W.heap.size, 0, none⟩) t.cs.length t.cs.length) (W.alloc (.cells R1 3))) :
    Calls Try.prog 18 #[.int .i64 what, .agg #[.slice a0 t.cs.length d0, .int .i64 t.at_, .slice a2 n2 d2, .slice a3 n3 d3]] w fun e w' => ∃ v0 v2 v3, e = .returned (.tuple #[.agg #[v0, .int .i64 0, v2, v3], .bool (thOkB what t)]) ∧ ThNew w w' v0 v2 v3 (thNewT what t) := by
  have HA := hidIt hA
  have HR10 := hidIt hR10
  have HR1 := hidIt hR1
  clear hA hR10 hR1
  go_enter Try.func18, Try.ntmps18
  go_wp2
  generalize hW : World.alloc (World.alloc w _) _ = W1
  have X := bx2 w #[.slice a0 t.cs.length d0, .int .i64 t.at_, .slice a2 n2 d2, .slice a3 n3 d3] #[.slice none 0 0, .int .i64 0, .slice none 0 0, .slice none 0 0] 46 46
  rw [hW] at X
  obtain ⟨X0, X1, bW, zW⟩ := X
  clear hW
  go_cut [7] from 16 to 22 (fun x7 wc => NewTh W1 t.cs.length R10 R1 x7 wc)
  case first =>
    go_region_held3 (fun _ => True) (trivial) (fail)
    all_goals
      go_wp2_with fail
      go_meet
      apply newTh_of
      · first | exact ch4_0 zW | exact ch4_1 zW | exact ch4_2 zW | exact ch4_3 zW
      · first | exact ch4_0 zW | exact ch4_1 zW | exact ch4_2 zW | exact ch4_3 zW
      · first | exact ch4_0 zW | exact ch4_1 zW | exact ch4_2 zW | exact ch4_3 zW
      · first | exact ch4_0 zW | exact ch4_1 zW | exact ch4_2 zW | exact ch4_3 zW
      · exact ch4_b
      · omega
      · omega
  case rest =>
    rename World => W2
    obtain ⟨m, g0, g2, g3, rfl, hge, hne, bC, Xm, Xg0, Xg2, Xg3⟩ := hcut
    obtain ⟨G1, G2, G3, G4⟩ := hge
    obtain ⟨E1, E2, E3, E4, E5, E6⟩ := hne
    have c0 := (X0.below bC).2.1 0
    simp at c0
    have HFL : Hid (Fill what t.cs t.cs.length m g0 g2 g3 0 0 W1 W2) := ⟨bC, Xm, fun j _ h => by omega, fun j _ h => ⟨_, (Xg0.2.1 j).trans (Array.getElem?_eq_getElem (by rw [HR10.out]; exact h))⟩, ⟨Xg0.1, Xg0.2.2⟩, fun j h => by omega, fun j _ h => ⟨_, (Xg2.2.1 j).trans (Array.getElem?_eq_getElem (by rw [HR1.out]; exact h))⟩, ⟨Xg2.1, Xg2.2.2⟩, fun j h => by omega, fun j _ h => ⟨_, (Xg3.2.1 j).trans (Array.getElem?_eq_getElem (by rw [HR1.out]; exact h))⟩, ⟨Xg3.1, Xg3.2.2⟩⟩
    have HX1 := hidIt X1
    have HBW := hidIt bW
    clear Xm Xg0 Xg2 Xg3 bC X0 X1 bW hm hi HR10 HR1
    go_wp2
    go_loopg [26] t.cs.length (fun gk si wr => ∃ k : Nat, k ≤ t.cs.length ∧ gk = t.cs.length - k ∧ si = .int .i64 k ∧ Fill what t.cs t.cs.length m g0 g2 g3 k k W1 wr ∧ ∀ j (h : j < t.cs.length), j < k → (begC what t.cs[j]).k ≠ 0)
    case atStart => exact ⟨0, Nat.zero_le _, rfl, rfl, HFL.out, fun j _ h => by omega⟩
    case round =>
      obtain ⟨k, hk, hgk, rfl, hF, hok⟩ := hrel
      have HOK := hidIt hok
      have FL := hidIt hF
      have HG := hidIt hgk
      have hsz := hF.below.size
      clear hok hF hgk
      by_cases hlt : k < t.cs.length
      · have hlt' : (k : Int) < (t.cs.length : Int) := by omega
        obtain ⟨cb, co, rfl, hcb, hA⟩ : ∃ cb co, a0 = some ⟨cb, co, none⟩ ∧ cb < w.heap.size ∧ ∀ j (hj : j < t.cs.length), At10 w cb (co + j * 10) t.cs[j] := by
          rcases HA.out with h | h
          · rw [h] at hlt; simp at hlt
          · exact h
        have hbw : Below w.heap.size w wr := HBW.out.trans (FL.out.below.mono (by omega))
        obtain ⟨r0, r1, r2, r3, r4, r5, r6, r7, r8, r9⟩ := (hA k hlt).of (fun q => hbw.cell (p := ⟨cb, q, none⟩) hcb)
        obtain ⟨c, hy⟩ : ∃ c, t.cs[k] = c := ⟨_, rfl⟩
        rw [hy] at r0 r1 r2 r3 r4 r5 r6 r7 r8 r9
        have HY := hidIt hy
        clear hy hA
        go_wp2_with fail
        clear r0 r1 r2 r3 r4 r5 r6 r7 r8 r9
        have HBG := hidIt (fun W => impl_begin what c W hw)
        generalize hbc : begC what c = b at HBG
        have HBC := hidIt hbc
        clear hbc
        generalize hW : World.alloc wr _ = W3
        have hp1 : R8 what t.cs t.cs.length m g0 g2 g3 k wr.heap.size #[.int .i64 c.k, .int .i64 c.a, .int .i64 c.x, .int .i64 c.pc, .int .i64 c.p, .int .i64 c.c, .int .i64 c.w, .int .i64 c.r, .int .i64 c.v, .bool c.d] W1 W3 := by
          rw [← hW]
          exact ⟨FL.out.grow ((Below.refl _ _).alloc (Nat.le_refl _) _), Bx.new _ _ _⟩
        have PD := hidIt (fun W (h : R8 what t.cs t.cs.length m g0 g2 g3 k wr.heap.size #[.int .i64 c.k, .int .i64 c.a, .int .i64 c.x, .int .i64 c.pc, .int .i64 c.p, .int .i64 c.c, .int .i64 c.w, .int .i64 c.r, .int .i64 c.v, .bool c.d] W1 W) => (⟨h.1.grow (Below.refl _ _).drew, h.2.drew⟩ : R8 what t.cs t.cs.length m g0 g2 g3 k wr.heap.size #[.int .i64 c.k, .int .i64 c.a, .int .i64 c.x, .int .i64 c.pc, .int .i64 c.p, .int .i64 c.c, .int .i64 c.w, .int .i64 c.r, .int .i64 c.v, .bool c.d] W1 W.drew))
        have PG := hidIt (fun W W' (h : R8 what t.cs t.cs.length m g0 g2 g3 k wr.heap.size #[.int .i64 c.k, .int .i64 c.a, .int .i64 c.x, .int .i64 c.pc, .int .i64 c.p, .int .i64 c.c, .int .i64 c.w, .int .i64 c.r, .int .i64 c.v, .bool c.d] W1 W) (b : Below W.heap.size W W') => (⟨h.1.grow b, h.2.below b⟩ : R8 what t.cs t.cs.length m g0 g2 g3 k wr.heap.size #[.int .i64 c.k, .int .i64 c.a, .int .i64 c.x, .int .i64 c.pc, .int .i64 c.p, .int .i64 c.c, .int .i64 c.w, .int .i64 c.r, .int .i64 c.v, .bool c.d] W1 W'))
        have hnb : wr.heap.size ≠ g0 := by have := FL.out.c3.1; omega
        have PS2 := hidIt (fun W (h : R8 what t.cs t.cs.length m g0 g2 g3 k wr.heap.size #[.int .i64 c.k, .int .i64 c.a, .int .i64 c.x, .int .i64 c.pc, .int .i64 c.p, .int .i64 c.c, .int .i64 c.w, .int .i64 c.r, .int .i64 c.v, .bool c.d] W1 W) => (⟨(h.1.put hlt (fun hj => by rw [HY.out]; exact HBC.out) G2 E1 E4 E5).weak hlt rfl, h.2.block (by rw [put10_size]; exact Nat.le_refl _) (put10_block _ _ _ _ _ hnb)⟩ : R8 what t.cs t.cs.length m g0 g2 g3 k wr.heap.size #[.int .i64 c.k, .int .i64 c.a, .int .i64 c.x, .int .i64 c.pc, .int .i64 c.p, .int .i64 c.c, .int .i64 c.w, .int .i64 c.r, .int .i64 c.v, .bool c.d] W1 (put10 W g0 (k * 10) b)))
        have PF := hidIt (fun W (h : R8 what t.cs t.cs.length m g0 g2 g3 k wr.heap.size #[.int .i64 c.k, .int .i64 c.a, .int .i64 c.x, .int .i64 c.pc, .int .i64 c.p, .int .i64 c.c, .int .i64 c.w, .int .i64 c.r, .int .i64 c.v, .bool c.d] W1 W) => (⟨h.1.put hlt (fun hj => by rw [HY.out]; exact HBC.out) G2 E1 E4 E5, fun q hq => h.1.c2 (k * 10 + q) (by omega) (by omega), h.1.c3.2⟩ : Fill what t.cs t.cs.length m g0 g2 g3 (k + 1) k W1 (put10 W g0 (k * 10) b) ∧ (∀ q, q < 10 → ∃ x, W.cell? ⟨g0, k * 10 + q, none⟩ = some x) ∧ ∀ j, W.frozen? ⟨g0, j, none⟩ = false))
        have PC := hidIt (fun W (h : R8 what t.cs t.cs.length m g0 g2 g3 k wr.heap.size #[.int .i64 c.k, .int .i64 c.a, .int .i64 c.x, .int .i64 c.pc, .int .i64 c.p, .int .i64 c.c, .int .i64 c.w, .int .i64 c.r, .int .i64 c.v, .bool c.d] W1 W) => r8_cells _ _ _ _ _ _ _ _ _ c W1 W h)
        have h6 := and_mk PC.out hp1
        clear hW hnb
        refine wp_region_held_drew (S := fun W => R8 what t.cs t.cs.length m g0 g2 g3 k wr.heap.size #[.int .i64 c.k, .int .i64 c.a, .int .i64 c.x, .int .i64 c.pc, .int .i64 c.p, .int .i64 c.c, .int .i64 c.w, .int .i64 c.r, .int .i64 c.v, .bool c.d] W1 W ∧ W.cell? ⟨m, 0, none⟩ = some (.slice (some ⟨g0, 0, none⟩) t.cs.length t.cs.length) ∧ W.cell? ⟨wr.heap.size, 0, none⟩ = some (.int .i64 c.k) ∧ W.cell? ⟨wr.heap.size, 1, none⟩ = some (.int .i64 c.a) ∧ W.cell? ⟨wr.heap.size, 2, none⟩ = some (.int .i64 c.x) ∧ W.cell? ⟨wr.heap.size, 3, none⟩ = some (.int .i64 c.pc) ∧ W.cell? ⟨wr.heap.size, 4, none⟩ = some (.int .i64 c.p) ∧ W.cell? ⟨wr.heap.size, 5, none⟩ = some (.int .i64 c.c) ∧ W.cell? ⟨wr.heap.size, 6, none⟩ = some (.int .i64 c.w) ∧ W.cell? ⟨wr.heap.size, 7, none⟩ = some (.int .i64 c.r) ∧ W.cell? ⟨wr.heap.size, 8, none⟩ = some (.int .i64 c.v) ∧ W.cell? ⟨wr.heap.size, 9, none⟩ = some (.bool c.d)) (by kernel_rfl) ?_ (fun hHeld => ?_)
        · (first | exact and_mk PC.out (PD.out _ (And.left (by assumption))) | exact and_mk PC.out (PG.out _ _ (And.left (by assumption)) (by assumption)))
        refine wpAnyH_take (i := 0) (oi := { dst := some 31, op := Op.fieldAddr 46 (Operand.tmp 7) 0, type := 0, pos := "l07_crew.go:74", after := #[], guard := none }) (v := ?_) rfl (by kernel_rfl) (by kernel_rfl) (by kernel_rfl) (fun _ _ _ h => h) (Or.inl ⟨by rfl, ?_⟩) (by assumption) ?_
        rotate_left 1
        · intro w hSw; (try dsimp only at hSw); go_simp <;> with_reducible rfl
        try simp only [Act.put, List.setIfInBounds_toArray, List.set_cons_zero, List.set_cons_succ]
        refine wpAnyH_take (i := 1) (oi := { dst := some 32, op := Op.load 44 (Operand.tmp 31), type := 44, pos := "l07_crew.go:74", after := #[{ on := 0, ground := Ground.data }], guard := none }) (v := ?_) rfl (by kernel_rfl) (by kernel_rfl) (by kernel_rfl) (fun _ _ _ h => h) (Or.inl ⟨by rfl, ?_⟩) (by assumption) ?_
        rotate_left 1
        · intro w hSw; (try dsimp only at hSw); go_simp <;> with_reducible rfl
        try simp only [Act.put, List.setIfInBounds_toArray, List.set_cons_zero, List.set_cons_succ]
        refine wpAnyH_take (i := 2) (oi := { dst := some 33, op := Op.move (Operand.tmp 8), type := 3, pos := "l07_crew.go:74", after := #[], guard := none }) (v := ?_) rfl (by kernel_rfl) (by kernel_rfl) (by kernel_rfl) (fun _ _ _ h => h) (Or.inl ⟨by rfl, ?_⟩) (by assumption) ?_
        rotate_left 1
        · intro w hSw; (try dsimp only at hSw); go_simp <;> with_reducible rfl
        try simp only [Act.put, List.setIfInBounds_toArray, List.set_cons_zero, List.set_cons_succ]
        refine wpAnyH_take (i := 3) (oi := { dst := some 34, op := Op.move (Operand.tmp 0), type := 3, pos := "l07_crew.go:74", after := #[], guard := none }) (v := ?_) rfl (by kernel_rfl) (by kernel_rfl) (by kernel_rfl) (fun _ _ _ h => h) (Or.inl ⟨by rfl, ?_⟩) (by assumption) ?_
        rotate_left 1
        · intro w hSw; (try dsimp only at hSw); go_simp <;> with_reducible rfl
        try simp only [Act.put, List.setIfInBounds_toArray, List.set_cons_zero, List.set_cons_succ]
        refine wpAnyH_take (i := 4) (oi := { dst := some 35, op := Op.load 48 (Operand.tmp 9), type := 48, pos := "l07_crew.go:74", after := #[], guard := none }) (v := ?_) rfl (by kernel_rfl) (by kernel_rfl) (by kernel_rfl) (fun _ _ _ h => h) (Or.inl ⟨by rfl, ?_⟩) (by assumption) ?_
        rotate_left 1
        · intro w hSw; (try dsimp only at hSw); go_simp <;> with_reducible rfl
        try simp only [Act.put, List.setIfInBounds_toArray, List.set_cons_zero, List.set_cons_succ]
        refine wpAnyH_ready (rs := [5]) (by kernel_rfl) (by simp) ?_
        refine AllReadyH.cons (o := { dst := some 36, op := Op.call { callee := Callee.value (Operand.func 39), args := #[Operand.tmp 34, Operand.tmp 35], argTypes := #[3, 48] }, type := 48, pos := "l07_crew.go:74", after := #[{ on := 3, ground := Ground.data }, { on := 4, ground := Ground.data }], guard := none }) rfl (fun K hK => ?_) AllReadyH.nil
        go_simp
        refine (HBG.out _).mono ?_
        rintro e wa ⟨rfl, ba⟩
        go_wp2_with fail
        refine hK.out _ _ ?_ (fun hHeld2 => ?_)
        · exact and_mk PC.out (PG.out _ _ hHeld.1 ba)
        clear hK K
        try simp only [Act.put, List.setIfInBounds_toArray, List.set_cons_zero, List.set_cons_succ]
        have KA := hidIt (PF.out wa hHeld2.1)
        have KS := hidIt (PS2.out wa hHeld2.1)
        obtain ⟨y0, s0⟩ := KA.out.2.1 0 (by omega)
        obtain ⟨y1, s1⟩ := KA.out.2.1 1 (by omega)
        obtain ⟨y2, s2⟩ := KA.out.2.1 2 (by omega)
        obtain ⟨y3, s3⟩ := KA.out.2.1 3 (by omega)
        obtain ⟨y4, s4⟩ := KA.out.2.1 4 (by omega)
        obtain ⟨y5, s5⟩ := KA.out.2.1 5 (by omega)
        obtain ⟨y6, s6⟩ := KA.out.2.1 6 (by omega)
        obtain ⟨y7, s7⟩ := KA.out.2.1 7 (by omega)
        obtain ⟨y8, s8⟩ := KA.out.2.1 8 (by omega)
        obtain ⟨y9, s9⟩ := KA.out.2.1 9 (by omega)
        rw [Nat.add_zero] at s0
        have fz := KA.out.2.2
        clear hHeld h6
        refine wpAnyH_take (i := 6) (oi := { dst := some 37, op := Op.indexAddr 44 (Operand.tmp 32) (Operand.tmp 33), type := 0, pos := "l07_crew.go:74", after := #[{ on := 1, ground := Ground.data }, { on := 2, ground := Ground.data }, { on := 0, ground := Ground.phase }, { on := 1, ground := Ground.phase }, { on := 2, ground := Ground.phase }, { on := 3, ground := Ground.phase }, { on := 4, ground := Ground.phase }, { on := 5, ground := Ground.phase }], guard := none }) (v := ?_) rfl (by kernel_rfl) (by kernel_rfl) (by kernel_rfl) (fun _ _ _ h => h) (Or.inl ⟨by rfl, ?_⟩) (by assumption) ?_
        rotate_left 1
        · intro w hSw; (try dsimp only at hSw); go_simp <;> with_reducible rfl
        try simp only [Act.put, List.setIfInBounds_toArray, List.set_cons_zero, List.set_cons_succ]
        refine wpAnyH_ready (rs := [7]) (by kernel_rfl) (by simp) ?_
        refine AllReadyH.cons (o := { dst := none, op := Op.store 48 (Operand.tmp 37) (Operand.tmp 36), type := 0, pos := "l07_crew.go:74", after := #[{ on := 6, ground := Ground.data }, { on := 5, ground := Ground.data }, { on := 5, ground := Ground.chain }, { on := 0, ground := Ground.phase }, { on := 1, ground := Ground.phase }, { on := 2, ground := Ground.phase }, { on := 3, ground := Ground.phase }, { on := 4, ground := Ground.phase }, { on := 5, ground := Ground.phase }], guard := none }) rfl (fun K hK => ?_) AllReadyH.nil
        go_simp
        refine hK.out _ _ ?_ (fun hHeld3 => ?_)
        · exact and_mk PC.out KS.out
        clear hK K
        try simp only [Act.put, List.setIfInBounds_toArray, List.set_cons_zero, List.set_cons_succ]
        refine wpAnyH_done (by kernel_rfl) ?_ _
        have F4 := KA.out.1
        unfold put10 at F4
        generalize hW4 : World.setCell (World.setCell (World.setCell (World.setCell (World.setCell (World.setCell (World.setCell (World.setCell (World.setCell (World.setCell wa _ _) _ _) _ _) _ _) _ _) _ _) _ _) _ _) _ _) _ _ = W4 at F4 ⊢
        have HF4 := hidIt F4
        clear F4 hW4 hHeld2 hHeld3 KA KS PC PD PG PS2 PF s0 s1 s2 s3 s4 s5 s6 s7 s8 s9 fz ba
        have c1 := HF4.out.box.2.1 0
        have c2 := HF4.out.box.2.1 2
        have c3 := HF4.out.box.2.1 3
        have hk0 := (HF4.out.c1 k hlt (Nat.lt_succ_self k)).1
        rw [HY.out, HBC.out] at hk0
        simp at c1 c2 c3
        have hb4 : Below w.heap.size w W4 := HBW.out.trans (HF4.out.below.mono (by omega))
        by_cases hz : b.k = 0
        · rw [hz] at hk0
          have HZ := hidIt hz
          have Y := HX1.out.below HF4.out.below
          have m0 := Y.2.1 0
          have m1 := Y.2.1 1
          have m2 := Y.2.1 2
          have m3 := Y.2.1 3
          have q1 := Y.2.2
          simp at m0 m1 m2 m3
          have hno := hidIt (show ¬ thOkN what t from fun g => by have h1 := g.2 k hlt; rw [HY.out, HBC.out] at h1; exact h1 HZ.out)
          have hB := hidIt (thOkB_no hno.out)
          have hT := hidIt (show thNewT what t = thZero by unfold thNewT; rw [thOkB_no hno.out]; simp)
          clear Y hz
          go_wp2
          refine bodyPost_ret (v := .tuple #[.agg #[.slice none 0 0, .int .i64 0, .slice none 0 0, .slice none 0 0], .bool false]) (by simp [results, Try.results18, go_sem, m0, m1, m2, m3]) rfl ⟨.slice none 0 0, .slice none 0 0, .slice none 0 0, by rw [hB.out], ?_⟩
          rw [hT.out]
          refine ⟨[], ⟨[], [], [], rfl, ⟨none, 0, rfl, Nat.le_refl _, .inl ⟨rfl, rfl⟩⟩, ⟨none, 0, rfl, trivial, .inl ⟨rfl, rfl⟩⟩, ⟨none, 0, rfl, trivial, .inl ⟨rfl, rfl⟩⟩⟩, List.nodup_nil, by simp, ?_⟩
          exact (((hb4.setCell (by simp <;> omega) _).setCell (by simp <;> omega) _).setCell (by simp <;> omega) _).setCell (by simp <;> omega) _
        · have HZ := hidIt hz
          have hz' : (b.k == 0) = false := by simpa using hz
          obtain ⟨u2, v2⟩ := HF4.out.b2 k (Nat.le_refl _) hlt
          obtain ⟨u3, v3⟩ := HF4.out.e2 k (Nat.le_refl _) hlt
          have f2 := HF4.out.b3.2 k
          have f3 := HF4.out.e3.2 k
          clear hz
          go_wp2_with fail
          go_region
          all_goals
            go_wp2
            go_roundg (t.cs.length - (k + 1))
            case measure => rw [HG.out]; omega
            case rel =>
              refine ⟨k + 1, by omega, rfl, by go_num, ?_, ?_⟩
              · first
                  | exact (Fill.two HF4.out hlt G3 G4 E2 E3 E4 E5 E6).grow (Below.refl _ _).drew
                  | exact (Fill.two2 HF4.out hlt G3 G4 E2 E3 E4 E5 E6).grow (Below.refl _ _).drew
              · intro j hj hjk
                by_cases ej : j = k
                · subst ej
                  rw [HY.out, HBC.out]
                  exact HZ.out
                · exact HOK.out j hj (by omega)
      · obtain rfl : k = t.cs.length := by omega
        have c1 := FL.out.box.2.1 0
        have c2 := FL.out.box.2.1 1
        have c3 := FL.out.box.2.1 2
        have c4 := FL.out.box.2.1 3
        simp at c1 c2 c3 c4
        have Y := HX1.out.below FL.out.below
        have m0 := Y.2.1 0
        have m1 := Y.2.1 1
        have m2 := Y.2.1 2
        have m3 := Y.2.1 3
        have q1 := Y.2.2
        simp at m0 m1 m2 m3
        have hyes := hidIt (show thOkN what t from ⟨hn, fun j h => HOK.out j h h⟩)
        have hB := hidIt (thOkB_yes hyes.out)
        have hT := hidIt (show thNewT what t = thMade what t by unfold thNewT; rw [thOkB_yes hyes.out]; simp)
        clear Y
        go_wp2
        refine bodyPost_ret (v := .tuple #[.agg #[.slice (some ⟨g0, 0, none⟩) t.cs.length t.cs.length, .int .i64 0, .slice (some ⟨g2, 0, none⟩) t.cs.length t.cs.length, .slice (some ⟨g3, 0, none⟩) t.cs.length t.cs.length], .bool true]) (by simp [results, Try.results18, go_sem, m0, m1, m2, m3]) rfl ⟨.slice (some ⟨g0, 0, none⟩) t.cs.length t.cs.length, .slice (some ⟨g2, 0, none⟩) t.cs.length t.cs.length, .slice (some ⟨g3, 0, none⟩) t.cs.length t.cs.length, by rw [hB.out], ?_⟩
        rw [hT.out]
        refine ⟨[g0] ++ ([g2] ++ [g3]), ?_, ?_, ?_, ?_⟩
        · have o := fill_owns FL.out
          have hp : ¬ (w.heap.size + 1) ∈ [g0] ++ ([g2] ++ [g3]) := by simp; omega
          exact (((o.set hp).set hp).set hp).set hp
        · simp; omega
        · intro g hg
          simp at hg
          omega
        · exact ((((HBW.out.trans (FL.out.below.mono (by omega))).setCell (by simp <;> omega) _).setCell (by simp <;> omega) _).setCell (by simp <;> omega) _).setCell (by simp <;> omega) _

end Go.Proofs.Ytpfofjcfaelocaa
