/- Rows of pairs (an element is two cells), epochs as two rows, and what a law's walk knows of the world, in whatever form: plain lemmas on worlds. -/
import Derived.Test.YtikliofkplbdpaaRows
import Derived.WalkKit
import Derived.ProofKit
import Derived.OpenShut
import Derived.ShutString
import Derived.Test.YtikliofkplbdpaaGotMem
import Derived.Test.YtikliofkplbdpaaMemFns
namespace Go.Proofs.Ytikliofkplbdpaa
open Go.ChangeShapes Go.WideShapes Go.ChangeAt Go.RowKit
set_option linter.unusedVariables false

def Rw (w : World) (lo hi : Nat) (v : Value) (n : Nat) (xs : List Value) : Prop :=
  ∃ a cap, v = .slice a n cap ∧ n ≤ cap ∧ (xs = [] ∨ ∃ g, a = some ⟨g, 0, none⟩ ∧ lo ≤ g ∧ g < hi ∧ (∀ j (hj : j < xs.length), w.cell? ⟨g, j, none⟩ = some xs[j]) ∧ ∀ j, w.frozen? ⟨g, j, none⟩ = false)
def gones (L : List (Int × Int)) : List Value := L.flatMap fun p => [Value.int .i64 p.1, Value.int .i64 p.2]
theorem gones_nil : gones [] = [] := rfl
theorem gones_cons (p : Int × Int) (L : List (Int × Int)) : gones (p :: L) = .int .i64 p.1 :: .int .i64 p.2 :: gones L := rfl
theorem gones_app (L M : List (Int × Int)) : gones (L ++ M) = gones L ++ gones M := by simp [gones]
theorem gones_len (L : List (Int × Int)) : (gones L).length = L.length * 2 := by
  induction L with
  | nil => rfl
  | cons p L ih => rw [gones_cons]; simp [ih]; omega
theorem gones_at (L : List (Int × Int)) (j : Nat) (hj : j < L.length) : (gones L)[j * 2]? = some (.int .i64 L[j].1) ∧ (gones L)[j * 2 + 1]? = some (.int .i64 L[j].2) := by
  induction L generalizing j with
  | nil => simp at hj
  | cons p L ih =>
    cases j with
    | zero => simp [gones_cons]
    | succ j =>
      have := ih j (by simpa using hj)
      have e : (j + 1) * 2 = j * 2 + 2 := by omega
      rw [gones_cons, e]
      simpa using this
theorem gones_drop (L : List (Int × Int)) (k : Nat) : gones (L.drop k) = (gones L).drop (k * 2) := by
  induction L generalizing k with
  | nil => simp [gones]
  | cons p L ih =>
    cases k with
    | zero => simp
    | succ k =>
      have e : (k + 1) * 2 = k * 2 + 2 := by omega
      rw [gones_cons, e]
      simpa using ih k
theorem gones_one (L : List (Int × Int)) : ∀ v ∈ gones L, v.oneCell' = true := by
  intro v hv
  simp [gones] at hv
  obtain ⟨a, b, _, rfl | rfl⟩ := hv <;> rfl
theorem ints_one (xs : List Int) : ∀ v ∈ ints xs, v.oneCell' = true := by
  intro v hv
  simp at hv
  obtain ⟨a, _, rfl⟩ := hv
  rfl
/- a fact that hangs on the blocks from lo to hi alone -/
def Loc (lo hi : Nat) (P : World → Prop) : Prop := ∀ w w' : World, P w → (∀ k, lo ≤ k → k < hi → w'.heap[k]? = w.heap[k]?) → P w'
theorem Rw.loc (lo hi : Nat) (v : Value) (n : Nat) (xs : List Value) : Loc lo hi (fun w => Rw w lo hi v n xs) := by
  rintro w w' ⟨a, cap, hv, hcp, h⟩ hk
  refine ⟨a, cap, hv, hcp, ?_⟩
  rcases h with h | ⟨g, ha, h1, h2, h3, h4⟩
  · exact .inl h
  · exact .inr ⟨g, ha, h1, h2, fun j hj => (World.cell?_of_block (a := ⟨g, j, none⟩) (hk g h1 h2)).trans (h3 j hj), fun j => (World.frozen?_of_block (a := ⟨g, j, none⟩) (hk g h1 h2)).trans (h4 j)⟩
theorem Row.loc (lo hi : Nat) (v : Value) (xs : List Value) : Loc lo hi (fun w => Row w lo hi v xs) := by
  rintro w w' ⟨a, cap, hv, h⟩ hk
  refine ⟨a, cap, hv, ?_⟩
  rcases h with h | ⟨g, ha, h1, h2, h3, h4⟩
  · exact .inl h
  · exact .inr ⟨g, ha, h1, h2, fun j hj => (World.cell?_of_block (a := ⟨g, j, none⟩) (hk g h1 h2)).trans (h3 j hj), fun j => (World.frozen?_of_block (a := ⟨g, j, none⟩) (hk g h1 h2)).trans (h4 j)⟩
theorem Rw.below {w w' : World} {lo hi : Nat} {v : Value} {n : Nat} {xs : List Value} (h : Rw w lo hi v n xs) (hb : Below hi w w') : Rw w' lo hi v n xs := Rw.loc lo hi v n xs w w' h (fun k _ hk => hb.block k hk)
theorem Rw.wide {w : World} {lo hi lo' hi' : Nat} {v : Value} {n : Nat} {xs : List Value} (h : Rw w lo hi v n xs) (h1 : lo' ≤ lo) (h2 : hi ≤ hi') : Rw w lo' hi' v n xs := by
  obtain ⟨a, cap, hv, hcp, h⟩ := h
  refine ⟨a, cap, hv, hcp, ?_⟩
  rcases h with h | ⟨g, ha, g1, g2, h3⟩
  · exact .inl h
  · exact .inr ⟨g, ha, by omega, by omega, h3⟩
theorem Row.wide {w : World} {lo hi lo' hi' : Nat} {v : Value} {xs : List Value} (h : Row w lo hi v xs) (h1 : lo' ≤ lo) (h2 : hi ≤ hi') : Row w lo' hi' v xs := (h.lo h1).up h2
theorem Rw.form {w : World} {lo hi : Nat} {v : Value} {n : Nat} {xs : List Value} (h : Rw w lo hi v n xs) : ∃ a c, v = .slice a n c ∧ n ≤ c := by
  obtain ⟨a, c, rfl, hcp, _⟩ := h
  exact ⟨a, c, rfl, hcp⟩
theorem Rw.nil (w : World) (lo hi : Nat) (a : Option Addr) (n c : Nat) (h : n ≤ c) : Rw w lo hi (.slice a n c) n [] := ⟨a, c, rfl, h, .inl rfl⟩
theorem Rw.out {w w' : World} {lo hi l2 h2 : Nat} {v : Value} {n : Nat} {xs : List Value} (r : Rw w l2 h2 v n xs) (h : Out lo hi w w') (hz : h2 ≤ w.heap.size) (hn : h2 ≤ lo ∨ hi ≤ l2) : Rw w' l2 h2 v n xs :=
  Rw.loc l2 h2 v n xs w w' r (fun k k1 k2 => h.block k (by omega) (by omega))
theorem own_cells2 {w : World} {base : Nat} {e : TypeId} {v : Value} {n size : Nat} {xs : List Value} (h : w.ownsRow base e size v n xs) :
    (v = .slice none 0 0 ∧ n = 0 ∧ xs = []) ∨ ∃ g cap, v = .slice (some ⟨g, 0, none⟩) n cap ∧ base ≤ g ∧ g < w.heap.size ∧ n ≤ cap ∧ cap ≤ maxLen ∧ xs.length = n * size ∧ (∀ j (hj : j < xs.length), w.cell? ⟨g, j, none⟩ = some xs[j]) ∧ (∀ j, w.frozen? ⟨g, j, none⟩ = false) := by
  rcases h.2 with ⟨rfl, hn⟩ | ⟨g, cap, cur, rfl, hbg, hgg, hnc, hcm, hcs, htk⟩
  · exact .inl ⟨rfl, hn, List.length_eq_zero_iff.1 (by rw [h.1, hn]; simp)⟩
  · refine .inr ⟨g, cap, rfl, hbg, (Array.getElem?_eq_some_iff.1 hgg).1, hnc, hcm, h.1, fun j hj => ?_, fun j => ?_⟩
    · have := h.cells (g := g) rfl j xs[j] (List.getElem?_eq_getElem hj)
      have hadd : (⟨g, 0, none⟩ : Addr).add j = ⟨g, j, none⟩ := by unfold Addr.add; split <;> simp_all
      rwa [hadd] at this
    · simp [World.frozen?, hgg]
theorem Rw.of_owns {w : World} {base : Nat} {e : TypeId} {v : Value} {n size : Nat} {xs : List Value} (h : w.ownsRow base e size v n xs) : Rw w base w.heap.size v n xs := by
  rcases own_cells2 h with ⟨rfl, rfl, rfl⟩ | ⟨g, cap, rfl, h1, h2, h3, h4, h5, h6, h7⟩
  · exact ⟨none, 0, rfl, Nat.le_refl _, .inl rfl⟩
  · exact ⟨_, cap, rfl, h3, .inr ⟨g, rfl, h1, h2, h6, h7⟩⟩
/- a row of pairs that came in, or that is only read -/
def PIn (w : World) (v : Value) (L : List (Int × Int)) : Prop :=
  ∃ a cap, v = .slice a L.length cap ∧ L.length ≤ cap ∧ (L = [] ∨ ∃ b off, a = some ⟨b, off, none⟩ ∧ b < w.heap.size ∧ ∀ j (hj : j < L.length), w.cell? ⟨b, off + j * 2, none⟩ = some (.int .i64 L[j].1) ∧ w.cell? ⟨b, off + j * 2 + 1, none⟩ = some (.int .i64 L[j].2))
theorem PIn.below {w w' : World} {v : Value} {L : List (Int × Int)} (h : PIn w v L) (hb : Below w.heap.size w w') : PIn w' v L := by
  obtain ⟨a, cap, hv, hcp, h⟩ := h
  refine ⟨a, cap, hv, hcp, ?_⟩
  rcases h with h | ⟨b, off, ha, h1, h2⟩
  · exact .inl h
  · exact .inr ⟨b, off, ha, Nat.lt_of_lt_of_le h1 hb.size, fun j hj => ⟨(hb.cell (p := ⟨b, off + j * 2, none⟩) h1).trans (h2 j hj).1, (hb.cell (p := ⟨b, off + j * 2 + 1, none⟩) h1).trans (h2 j hj).2⟩⟩
theorem Rw.pin {w : World} {lo hi : Nat} {v : Value} {L : List (Int × Int)} (h : Rw w lo hi v L.length (gones L)) (hz : hi ≤ w.heap.size) : PIn w v L := by
  obtain ⟨a, cap, hv, hcp, h⟩ := h
  refine ⟨a, cap, hv, hcp, ?_⟩
  rcases h with h | ⟨g, ha, g1, g2, h3, h4⟩
  · exact .inl (List.length_eq_zero_iff.1 (by have := congrArg List.length h; rw [gones_len] at this; simp only [List.length_nil] at this; omega))
  · refine .inr ⟨g, 0, ha, by omega, fun j hj => ?_⟩
    have l := gones_len L
    have e := gones_at L j hj
    have e1 : j * 2 < (gones L).length := by omega
    have e2 : j * 2 + 1 < (gones L).length := by omega
    rw [List.getElem?_eq_getElem e1, List.getElem?_eq_getElem e2] at e
    simp only [Nat.zero_add]
    exact ⟨(h3 _ e1).trans e.1, (h3 _ e2).trans e.2⟩
theorem Row.inrow {w : World} {lo hi : Nat} {v : Value} {xs : List Int} (h : Row w lo hi v (ints xs)) (hz : hi ≤ w.heap.size) : InRow w v xs := by
  obtain ⟨a, cap, hv, h⟩ := h
  refine ⟨a, cap, by rw [hv, ints_len], ?_⟩
  rcases h with h | ⟨g, ha, g1, g2, h3, h4⟩
  · exact .inl (by simpa using h)
  · refine .inr ⟨g, 0, ha, by omega, fun j hj => ?_⟩
    have := h3 j (by simpa using hj)
    rw [List.getElem_map] at this
    simpa using this
/- epochs: the two rows of a struct of them -/
def Apart (p l : Value) (n m : Nat) : Prop := 0 < n → 0 < m → p.ownBlock ≠ l.ownBlock
structure AR (lo hi : Nat) (p l : Value) (ps : List Int) (L : List (Int × Int)) (W : World) : Prop where
  pins : Row W lo hi p (ints ps)
  limbo : Rw W lo hi l L.length (gones L)
  apart : Apart p l ps.length L.length
structure AM (lo hi : Nat) (p l : Value) (k0 n m : Nat) (W : World) : Prop where
  pins : Row W lo hi p (imarks k0 n)
  limbo : Rw W lo hi l m (imarks (k0 + n) (m * 2))
structure AIn (w : World) (p l : Value) (ps : List Int) (L : List (Int × Int)) : Prop where
  pins : InRow w p ps
  limbo : PIn w l L
theorem AIn.below {w w' : World} {p l : Value} {ps : List Int} {L : List (Int × Int)} (h : AIn w p l ps L) (hb : Below w.heap.size w w') : AIn w' p l ps L := ⟨h.pins.below hb, h.limbo.below hb⟩
theorem AR.loc (lo hi : Nat) (p l : Value) (ps : List Int) (L : List (Int × Int)) : Loc lo hi (AR lo hi p l ps L) :=
  fun w w' h hk => ⟨Row.loc _ _ _ _ w w' h.pins hk, Rw.loc _ _ _ _ _ w w' h.limbo hk, h.apart⟩
theorem AM.loc (lo hi : Nat) (p l : Value) (k0 n m : Nat) : Loc lo hi (AM lo hi p l k0 n m) :=
  fun w w' h hk => ⟨Row.loc _ _ _ _ w w' h.pins hk, Rw.loc _ _ _ _ _ w w' h.limbo hk⟩
theorem AR.below {w w' : World} {lo hi : Nat} {p l : Value} {ps : List Int} {L : List (Int × Int)} (h : AR lo hi p l ps L w) (hb : Below hi w w') : AR lo hi p l ps L w' := AR.loc lo hi p l ps L w w' h (fun k _ hk => hb.block k hk)
theorem AR.wide {w : World} {lo hi lo' hi' : Nat} {p l : Value} {ps : List Int} {L : List (Int × Int)} (h : AR lo hi p l ps L w) (h1 : lo' ≤ lo) (h2 : hi ≤ hi') : AR lo' hi' p l ps L w := ⟨h.pins.wide h1 h2, h.limbo.wide h1 h2, h.apart⟩
theorem AR.form {w : World} {lo hi : Nat} {p l : Value} {ps : List Int} {L : List (Int × Int)} (h : AR lo hi p l ps L w) : ∃ a c b d, p = .slice a ps.length c ∧ l = .slice b L.length d ∧ L.length ≤ d := by
  obtain ⟨a, c, h1⟩ := h.pins.form
  obtain ⟨b, d, h2, h3⟩ := h.limbo.form
  exact ⟨a, c, b, d, h1, h2, h3⟩
theorem AIn.form {w : World} {p l : Value} {ps : List Int} {L : List (Int × Int)} (h : AIn w p l ps L) : ∃ a c b d, p = .slice a ps.length c ∧ l = .slice b L.length d ∧ L.length ≤ d := by
  obtain ⟨a, c, h1, _⟩ := h.pins
  obtain ⟨b, d, h2, h3, _⟩ := h.limbo
  exact ⟨a, c, b, d, h1, h2, h3⟩
theorem AR.ain {w : World} {lo hi : Nat} {p l : Value} {ps : List Int} {L : List (Int × Int)} (h : AR lo hi p l ps L w) (hz : hi ≤ w.heap.size) : AIn w p l ps L := ⟨h.pins.inrow hz, h.limbo.pin hz⟩
theorem apart_of {w w' : World} {l1 h1 l2 h2 : Nat} {p l : Value} {ps : List Int} {L : List (Int × Int)} (r1 : Row w l1 h1 p (ints ps)) (r2 : Rw w' l2 h2 l L.length (gones L)) (h : h1 ≤ l2 ∨ h2 ≤ l1) : Apart p l ps.length L.length := by
  intro n1 n2
  obtain ⟨a, c, rfl, q1⟩ := r1
  obtain ⟨b, d, rfl, -, q2⟩ := r2
  rcases q1 with q1 | ⟨g, rfl, a1, a2, -⟩
  · have := congrArg List.length q1; rw [ints_len] at this; simp only [List.length_nil] at this; omega
  rcases q2 with q2 | ⟨k, rfl, b1, b2, -⟩
  · have := congrArg List.length q2; rw [gones_len] at this; simp only [List.length_nil] at this; omega
  simp [Value.ownBlock]
  omega
theorem AR.nil (lo hi : Nat) (w : World) : AR lo hi (.slice none 0 0) (.slice none 0 0) [] [] w := ⟨⟨none, 0, rfl, .inl rfl⟩, ⟨none, 0, rfl, Nat.le_refl _, .inl rfl⟩, fun h => absurd h (by simp)⟩
/- what a walk knows: cells, and facts that hang on some blocks alone -/
structure Sv (w : World) (cs : List (Nat × Nat × Value)) (rs : List (Nat × Nat × (World → Prop))) (W : World) : Prop where
  below : Below w.heap.size w W
  cells : ∀ c ∈ cs, c.1 < W.heap.size ∧ W.cell? ⟨c.1, c.2.1, none⟩ = some c.2.2
  rows : ∀ r ∈ rs, r.2.1 ≤ W.heap.size ∧ Loc r.1 r.2.1 r.2.2 ∧ r.2.2 W
theorem Sv.start (w : World) : Sv w [] [] w := ⟨Below.refl _ _, fun _ h => (by cases h), fun _ h => (by cases h)⟩
theorem Sv.grow {w W W1 : World} {cs : List (Nat × Nat × Value)} {rs : List (Nat × Nat × (World → Prop))} (h : Sv w cs rs W) (b : Below W.heap.size W W1) : Sv w cs rs W1 :=
  ⟨h.below.trans (b.mono h.below.size), fun c hm => ⟨Nat.lt_of_lt_of_le (h.cells c hm).1 b.size, below_cell b (h.cells c hm).1 (h.cells c hm).2⟩,
    fun r hm => ⟨Nat.le_trans (h.rows r hm).1 b.size, (h.rows r hm).2.1, (h.rows r hm).2.1 W W1 (h.rows r hm).2.2 (fun k _ hk => b.block k (Nat.lt_of_lt_of_le hk (h.rows r hm).1))⟩⟩
theorem Sv.drew {w W : World} {cs : List (Nat × Nat × Value)} {rs : List (Nat × Nat × (World → Prop))} (h : Sv w cs rs W) : Sv w cs rs W.drew := h.grow (Below.refl _ _).drew
theorem Sv.alloc {w W : World} {cs : List (Nat × Nat × Value)} {rs : List (Nat × Nat × (World → Prop))} (h : Sv w cs rs W) (o : Obj) : Sv w cs rs (W.alloc o) := h.grow ((Below.refl _ _).alloc (Nat.le_refl _) _)
theorem Sv.cell {w W : World} {cs : List (Nat × Nat × Value)} {rs : List (Nat × Nat × (World → Prop))} (h : Sv w cs rs W) {b o : Nat} {v : Value} (hb : b < W.heap.size) (hc : W.cell? ⟨b, o, none⟩ = some v) : Sv w ((b, o, v) :: cs) rs W :=
  ⟨h.below, fun c hm => by
    rcases List.mem_cons.1 hm with rfl | hm
    · exact ⟨hb, hc⟩
    · exact h.cells c hm, h.rows⟩
theorem Sv.box {w W : World} {cs : List (Nat × Nat × Value)} {rs : List (Nat × Nat × (World → Prop))} (h : Sv w cs rs W) (x : Value) (T : TypeId) : Sv w ((W.heap.size, 0, x) :: cs) rs (W.alloc (.cells #[x] T)) :=
  (h.alloc _).cell (by simp) (by simp)
theorem Sv.box3 {w W : World} {cs : List (Nat × Nat × Value)} {rs : List (Nat × Nat × (World → Prop))} (h : Sv w cs rs W) (x0 x1 x2 : Value) (T : TypeId) : Sv w ((W.heap.size, 0, x0) :: (W.heap.size, 1, x1) :: (W.heap.size, 2, x2) :: cs) rs (W.alloc (.cells #[x0, x1, x2] T)) :=
  (((h.alloc _).cell (by simp) (by simp)).cell (by simp) (by simp)).cell (by simp) (by simp)
theorem Sv.row {w W : World} {cs : List (Nat × Nat × Value)} {rs : List (Nat × Nat × (World → Prop))} (h : Sv w cs rs W) {lo hi : Nat} {P : World → Prop} (hz : hi ≤ W.heap.size) (l : Loc lo hi P) (r : P W) : Sv w cs ((lo, hi, P) :: rs) W :=
  ⟨h.below, h.cells, fun c hm => by
    rcases List.mem_cons.1 hm with rfl | hm
    · exact ⟨hz, l, r⟩
    · exact h.rows c hm⟩
theorem Sv.less {w W : World} {cs cs' : List (Nat × Nat × Value)} {rs rs' : List (Nat × Nat × (World → Prop))} (h : Sv w cs rs W) (h1 : ∀ x ∈ cs', x ∈ cs) (h2 : ∀ x ∈ rs', x ∈ rs) : Sv w cs' rs' W :=
  ⟨h.below, fun c hm => h.cells c (h1 _ hm), fun r hm => h.rows r (h2 _ hm)⟩
theorem Sv.get {w W : World} {cs : List (Nat × Nat × Value)} {rs : List (Nat × Nat × (World → Prop))} (h : Sv w cs rs W) {b o : Nat} {v : Value} (hm : (b, o, v) ∈ cs) : W.cell? ⟨b, o, none⟩ = some v := (h.cells _ hm).2
theorem Sv.get3 {w W : World} {cs : List (Nat × Nat × Value)} {rs : List (Nat × Nat × (World → Prop))} (h : Sv w cs rs W) {b : Nat} {x0 x1 x2 : Value} (h0 : (b, 0, x0) ∈ cs) (h1 : (b, 1, x1) ∈ cs) (h2 : (b, 2, x2) ∈ cs) : W.cell? ⟨b, 0, none⟩ = some x0 ∧ W.cell? ⟨b, 1, none⟩ = some x1 ∧ W.cell? ⟨b, 2, none⟩ = some x2 := ⟨h.get h0, h.get h1, h.get h2⟩
theorem Sv.lt {w W : World} {cs : List (Nat × Nat × Value)} {rs : List (Nat × Nat × (World → Prop))} (h : Sv w cs rs W) {b o : Nat} {v : Value} (hm : (b, o, v) ∈ cs) : b < W.heap.size := (h.cells _ hm).1
theorem Sv.at {w W : World} {cs : List (Nat × Nat × Value)} {rs : List (Nat × Nat × (World → Prop))} (h : Sv w cs rs W) {lo hi : Nat} {P : World → Prop} (hm : (lo, hi, P) ∈ rs) : hi ≤ W.heap.size ∧ P W := ⟨(h.rows _ hm).1, (h.rows _ hm).2.2⟩
theorem Sv.front1 {w W : World} {cs : List (Nat × Nat × Value)} {a b : Nat × Nat × (World → Prop)} {rs : List (Nat × Nat × (World → Prop))} (h : Sv w cs (a :: b :: rs) W) : Sv w cs (b :: a :: rs) W :=
  h.less (fun _ h => h) (fun x hx => by simp only [List.mem_cons] at hx ⊢; rcases hx with h | h | h <;> simp [h])
theorem Sv.mark1 {w W W1 : World} {cs : List (Nat × Nat × Value)} {rs : List (Nat × Nat × (World → Prop))} {lo hi : Nat} {P Q : World → Prop} (h : Sv w cs ((lo, hi, P) :: rs) W) (o : Out lo hi W W1) (l : Loc lo hi Q) (r : Q W1)
    (hl : w.heap.size ≤ lo) (h1 : ∀ c ∈ cs, c.1 < lo ∨ hi ≤ c.1) (h2 : ∀ q ∈ rs, q.2.1 ≤ lo ∨ hi ≤ q.1) : Sv w cs ((lo, hi, Q) :: rs) W1 := by
  have hz := (h.rows _ (List.mem_cons_self ..)).1
  refine Sv.row ⟨h.below.trans (o.below hl h.below.size), fun c hm => ⟨Nat.lt_of_lt_of_le (h.cells c hm).1 o.size, o.cell (h.cells c hm).1 (h1 c hm) (h.cells c hm).2⟩, fun q hm => ?_⟩ (Nat.le_trans hz o.size) l r
  have hq := h.rows q (List.mem_cons_of_mem _ hm)
  have hs := h2 q hm
  exact ⟨Nat.le_trans hq.1 o.size, hq.2.1, hq.2.1 W W1 hq.2.2 (fun k k1 k2 => o.block k (Nat.lt_of_lt_of_le k2 hq.1) (by rcases hs with hs | hs <;> omega))⟩
theorem Sv.pack {w W : World} {cs : List (Nat × Nat × Value)} {rs : List (Nat × Nat × (World → Prop))} (h : Sv w cs rs W) : ∃ P : World → Prop, P W ∧ (∀ X, P X → P X.drew) ∧ (∀ X Y, P X → Below X.heap.size X Y → P Y) ∧ ∀ X, P X → Sv w cs rs X :=
  ⟨Sv w cs rs, h, fun _ p => p.drew, fun _ _ p b => p.grow b, fun _ p => p⟩

end Go.Proofs.Ytikliofkplbdpaa
