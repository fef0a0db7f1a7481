/- The facts of a crew: plain lemmas. -/
import Derived.Test.YtmifnemjihffkaaRows
import Derived.WalkKit
import Derived.ProofKit
import Derived.OpenShut
import Derived.ShutString
import Derived.Test.YtmifnemjihffkaaFactRows
import Derived.Test.YtmifnemjihffkaaCwLaw
import Derived.Test.YtmifnemjihffkaaAtPlain
import Derived.Test.YtmifnemjihffkaaSrcPlain
namespace Go.Proofs.Ytmifnemjihffkaa
open Go.ChangeShapes Go.WideShapes Go.ChangeAt Go.RowKit
set_option linter.unusedVariables false

def eight (c : Fc) : List Value := [.int .i64 c.th, .int .i64 c.k, .int .i64 c.a, .int .i64 c.r, .int .i64 c.v, .int .i64 c.t, .int .i64 c.b, .int .i64 c.e]
def eights (L : List Fc) : List Value := L.flatMap eight
theorem eights_app (L M : List Fc) : eights (L ++ M) = eights L ++ eights M := by simp [eights]
theorem eights_one (c : Fc) : eights [c] = eight c := by simp [eights]
theorem eights_nil : eights [] = [] := rfl
theorem eights_cons (c : Fc) (L : List Fc) : eights (c :: L) = eight c ++ eights L := rfl
theorem eight_len (c : Fc) : (eight c).length = 8 := rfl
theorem eights_len (L : List Fc) : (eights L).length = L.length * 8 := by
  induction L with
  | nil => rfl
  | cons c L ih => rw [eights_cons, List.length_append, ih, eight_len, List.length_cons]; omega
theorem eights_at (L : List Fc) (j : Nat) (hj : j < L.length) (i : Nat) (hi : i < 8) : (eights L)[j * 8 + i]? = (eight L[j])[i]? := by
  induction L generalizing j with
  | nil => simp at hj
  | cons c L ih =>
    cases j with
    | zero => rw [eights_cons, List.getElem?_append_left (by rw [eight_len]; omega)]; simp
    | succ j =>
      rw [eights_cons, List.getElem?_append_right (by rw [eight_len]; omega), eight_len, show (j + 1) * 8 + i - 8 = j * 8 + i by omega, ih j (by simpa using hj)]
      simp
theorem eight_oneCell (c : Fc) : ∀ u ∈ eight c, u.oneCell' = true := by
  intro u hu; simp [eight] at hu; rcases hu with rfl | rfl | rfl | rfl | rfl | rfl | rfl | rfl <;> rfl
theorem eights_oneCell (L : List Fc) : ∀ u ∈ eights L, u.oneCell' = true := by
  intro u hu; obtain ⟨c, _, hc⟩ := List.mem_flatMap.1 hu; exact eight_oneCell c u hc
theorem fact_of_cells {W : World} {g o : Nat} {c : Fc} (h : ∀ i, i < 8 → W.cell? ⟨g, o + i, none⟩ = (eight c)[i]?) : FactAt W g o c :=
  ⟨h 0 (by omega), h 1 (by omega), h 2 (by omega), h 3 (by omega), h 4 (by omega), h 5 (by omega), h 6 (by omega), h 7 (by omega)⟩
theorem cells_of_fact {W : World} {g o : Nat} {c : Fc} (h : FactAt W g o c) : ∀ i, i < 8 → W.cell? ⟨g, o + i, none⟩ = (eight c)[i]? := by
  obtain ⟨h0, h1, h2, h3, h4, h5, h6, h7⟩ := h
  intro i hi
  match i, hi with
  | 0, _ => exact h0
  | 1, _ => exact h1
  | 2, _ => exact h2
  | 3, _ => exact h3
  | 4, _ => exact h4
  | 5, _ => exact h5
  | 6, _ => exact h6
  | 7, _ => exact h7
theorem facts_cells {w : World} {g : Nat} {L : List Fc} (h6 : ∀ j (hj : j < (eights L).length), w.cell? ⟨g, j, none⟩ = some (eights L)[j]) (j : Nat) (hj : j < L.length) : FactAt w g (j * 8) L[j] :=
  fact_of_cells fun i hi => by
    have hl := eights_len L
    rw [h6 (j * 8 + i) (by omega), ← List.getElem?_eq_getElem, eights_at L j hj i hi]
theorem facts_of_owns {w w' : World} {base : Nat} {e : TypeId} {v : Value} {n : Nat} {L : List Fc} (h : w'.ownsRow base e 8 v n (eights L)) (hb : w.heap.size ≤ base) (hw : Below w.heap.size w w') : FactsNew w w' v L := by
  have hl := eights_len L
  rcases own_cells2 h with ⟨rfl, hn, hx⟩ | ⟨g, cap, rfl, h1, h2, h3, h4, h5, h6, h7⟩
  · have : L = [] := by
      cases L with
      | nil => rfl
      | cons c L => rw [eights_cons] at hx; simp [eight] at hx
    subst this
    exact ⟨[], ⟨none, 0, rfl, Nat.le_refl _, .inl ⟨rfl, rfl⟩⟩, List.nodup_nil, by simp, hw⟩
  · have hn : n = L.length := by omega
    subst hn
    exact ⟨[g], ⟨_, cap, rfl, h3, .inr ⟨g, rfl, rfl, h2, fun j hj => facts_cells h6 j hj, h7⟩⟩, by simp, by simp; omega, hw⟩
def factC (k : Int) (c : Cl) (b e : Int) : Fc := ⟨k, c.k, c.a, c.r, c.v, c.p, b, e⟩
/- a call has a Begun and an Ended, and is done -/
def toldB (t : Th) (j : Nat) : Bool := (t.cs.getD j default).d && decide (j < t.bs.length) && decide (j < t.es.length)
def fC (k : Int) (t : Th) : Nat → List Fc
  | 0 => []
  | j + 1 => fC k t j ++ (if toldB t j = true then [factC k (t.cs.getD j default) (t.bs.getD j 0) (t.es.getD j 0)] else [])
def fT (ts : List Th) : Nat → List Fc
  | 0 => []
  | k + 1 => fT ts k ++ fC (k : Int) (ts.getD k default) (ts.getD k default).cs.length
def factsL (C : Cw) : List Fc := fT C.ts C.ts.length
theorem fC_len (k : Int) (t : Th) (j : Nat) : (fC k t j).length ≤ j := by
  induction j with
  | zero => exact Nat.le_refl _
  | succ j ih => show (fC k t j ++ _).length ≤ j + 1; rw [List.length_append]; split <;> simp <;> omega
theorem fT_step (ts : List Th) (k : Nat) (h : k < ts.length) : fT ts (k + 1) = fT ts k ++ fC (k : Int) ts[k] ts[k].cs.length := by
  show fT ts k ++ fC (k : Int) (ts.getD k default) (ts.getD k default).cs.length = _
  rw [getD_at ts k h]
theorem fT_len (ts : List Th) (k : Nat) : (fT ts k).length ≤ pS ts k := by
  induction k with
  | zero => exact Nat.le_refl _
  | succ k ih =>
    show (fT ts k ++ _).length ≤ pS ts k + szTh _
    rw [List.length_append]
    have := fC_len (k : Int) (ts.getD k default) (ts.getD k default).cs.length
    unfold szTh
    omega
theorem getD_int (l : List Int) (j : Nat) (h : j < l.length) : l.getD j 0 = l[j] := by simp [List.getD, h]
theorem fC_yes (k : Int) (t : Th) (j : Nat) (h : j < t.cs.length) (hd : t.cs[j].d = true) (hb : j < t.bs.length) (he : j < t.es.length) : fC k t (j + 1) = fC k t j ++ [factC k t.cs[j] t.bs[j] t.es[j]] := by
  show fC k t j ++ (if toldB t j = true then _ else _) = _
  unfold toldB
  rw [getD_at t.cs j h, getD_int _ j hb, getD_int _ j he, hd, decide_eq_true hb, decide_eq_true he]
  rfl
theorem fC_no (k : Int) (t : Th) (j : Nat) (h : toldB t j = false) : fC k t (j + 1) = fC k t j := by
  show fC k t j ++ (if toldB t j = true then _ else _) = _
  rw [h]; simp
theorem told_d (t : Th) (j : Nat) (h : j < t.cs.length) (hd : t.cs[j].d = false) : toldB t j = false := by
  unfold toldB; rw [getD_at t.cs j h, hd]; rfl
theorem told_b (t : Th) (j : Nat) (h : ¬ j < t.bs.length) : toldB t j = false := by
  unfold toldB; rw [decide_eq_false h]; simp
theorem told_e (t : Th) (j : Nat) (h : ¬ j < t.es.length) : toldB t j = false := by
  unfold toldB; rw [decide_eq_false h]; simp
theorem fC_stop (k : Int) (t : Th) (m : Nat) (h : t.bs.length ≤ m ∨ t.es.length ≤ m) : ∀ d, fC k t (m + d) = fC k t m
  | 0 => rfl
  | d + 1 => by
    rw [← Nat.add_assoc, fC_no k t (m + d) (by rcases h with h | h; exact told_b t _ (by omega); exact told_e t _ (by omega))]
    exact fC_stop k t m h d
def minB (t : Th) : Nat := min (min t.cs.length t.bs.length) t.es.length
theorem fC_min (k : Int) (t : Th) : fC k t t.cs.length = fC k t (minB t) := by
  unfold minB
  by_cases h : t.cs.length ≤ t.bs.length ∧ t.cs.length ≤ t.es.length
  · rw [show min (min t.cs.length t.bs.length) t.es.length = t.cs.length by omega]
  · have := fC_stop k t (min (min t.cs.length t.bs.length) t.es.length) (by omega) (t.cs.length - min (min t.cs.length t.bs.length) t.es.length)
    rw [show min (min t.cs.length t.bs.length) t.es.length + (t.cs.length - min (min t.cs.length t.bs.length) t.es.length) = t.cs.length by omega] at this
    exact this
theorem factsL_small (C : Cw) (h : CwFit C) (hs : C.m.length + szThs C.ts ≤ 1048576) : (factsL C).length ≤ 1048576 := by
  have := fT_len C.ts C.ts.length
  unfold szThs at hs
  unfold factsL
  omega
/- the inner loop over a thread's calls: the row of facts so far, and the thread's variable, apart -/
structure FI (w : World) (tb : Nat) (x0 x1 x2 x3 s3 : Value) (M : List Fc) (W : World) : Prop where
  own : W.ownsRow (w.heap.size + 1) 46 8 s3 M.length (eights M)
  below : Below w.heap.size w W
  box : At4 W tb 0 x0 x1 x2 x3
  lt : tb < W.heap.size
  ap : s3.ownBlock ≠ some tb
  lo : w.heap.size + 1 ≤ tb
theorem FI.start {w W : World} {x0 x1 x2 x3 s3 : Value} {M : List Fc} {T : TypeId} (own : W.ownsRow (w.heap.size + 1) 46 8 s3 M.length (eights M)) (below : Below w.heap.size w W) (lo : w.heap.size + 1 ≤ W.heap.size) : FI w W.heap.size x0 x1 x2 x3 s3 M (W.alloc (.cells #[x0, x1, x2, x3] T)) :=
  ⟨own.alloc _, below.alloc (by omega) _, by refine ⟨?_, ?_, ?_, ?_⟩ <;> simp [go_sem], by simp, fun e => by have := (own.lt _ e).2; omega, lo⟩
theorem FI.grow {w W W' : World} {tb : Nat} {x0 x1 x2 x3 s3 : Value} {M : List Fc} (h : FI w tb x0 x1 x2 x3 s3 M W) (b : Below W.heap.size W W') : FI w tb x0 x1 x2 x3 s3 M W' :=
  ⟨own_below h.own b, below_step h.below b, h.box.keep h.lt b, Nat.lt_of_lt_of_le h.lt b.size, h.ap, h.lo⟩
theorem FI.alloc {w W : World} {tb : Nat} {x0 x1 x2 x3 s3 : Value} {M : List Fc} (h : FI w tb x0 x1 x2 x3 s3 M W) (o : Obj) : FI w tb x0 x1 x2 x3 s3 M (W.alloc o) := h.grow ((Below.refl _ _).alloc (Nat.le_refl _) _)
theorem FI.app {w W W' : World} {tb n g cap H : Nat} {x0 x1 x2 x3 s3 : Value} {M : List Fc} {c : Fc} (h : FI w tb x0 x1 x2 x3 s3 M W) (hn : n = M.length + 1) (ho : W'.ownsRow (w.heap.size + 1) 46 8 (.slice (some ⟨g, 0, none⟩) n cap) n (eights M ++ eight c)) (hg : W.grownBy W' s3.ownBlock) (hat : s3.ownBlock = some g ∨ g = H) (hH : W.heap.size = H) : FI w tb x0 x1 x2 x3 (.slice (some ⟨g, 0, none⟩) n cap) (M ++ [c]) W' := by
  have hlt := h.lt
  have hlo := h.lo
  refine ⟨?_, h.below.grown hg (by omega) (fun q hq => by have := (h.own.lt q hq).1; omega), ?_, by have := hg.size; omega, ?_, hlo⟩
  · rw [List.length_append, List.length_singleton, ← hn, eights_app, eights_one]
    exact ho
  · exact h.box.of (cells_of_block (hg.block tb hlt (fun e => h.ap e.symm)))
  · intro e
    simp [Value.ownBlock] at e
    subst e
    rcases hat with hat | hat
    · exact h.ap hat
    · omega
theorem FI.form {w W : World} {tb : Nat} {x0 x1 x2 x3 s3 : Value} {M : List Fc} (h : FI w tb x0 x1 x2 x3 s3 M W) : ∃ a c, s3 = .slice a M.length c := by
  rcases own_cells2 h.own with ⟨h1, h2, -⟩ | ⟨g, cc, h1, -⟩
  · exact ⟨none, 0, by rw [h1, h2]⟩
  · exact ⟨_, cc, h1⟩
theorem ints_cell {w : World} {a : Option Addr} {n c : Nat} {xs : List Int} (h : IntsIn w (.slice a n c) xs) (j : Nat) (hj : j < xs.length) : ∃ b off, a = some ⟨b, off, none⟩ ∧ n = xs.length ∧ b < w.heap.size ∧ w.cell? ⟨b, off + j, none⟩ = some (.int .i64 xs[j]) := by
  obtain ⟨⟨a', c', hv, h⟩, -⟩ := h
  simp at hv
  obtain ⟨rfl, rfl, rfl⟩ := hv
  rcases h with h | ⟨b, off, ha, hb, hc⟩
  · subst h; exact absurd hj (by simp)
  · exact ⟨b, off, ha, rfl, hb, hc j hj⟩
theorem call_cell {w : World} {a : Option Addr} {n c : Nat} {cs : List Cl} (h : CallsIn w (.slice a n c) cs) (j : Nat) (hj : j < cs.length) : ∃ b off, a = some ⟨b, off, none⟩ ∧ b < w.heap.size ∧ At10 w b (off + j * 10) cs[j] := by
  obtain ⟨a', c', hv, -, h⟩ := h
  simp at hv
  obtain ⟨rfl, rfl, rfl⟩ := hv
  rcases h with h | ⟨b, off, ha, hb, hc⟩
  · subst h; exact absurd hj (by simp)
  · exact ⟨b, off, ha, hb, hc j hj⟩
theorem At4.cells {w : World} {b : Nat} {v0 v1 v2 v3 : Value} (h : At4 w b 0 v0 v1 v2 v3) : w.cell? ⟨b, 0, none⟩ = some v0 ∧ w.cell? ⟨b, 1, none⟩ = some v1 ∧ w.cell? ⟨b, 2, none⟩ = some v2 ∧ w.cell? ⟨b, 3, none⟩ = some v3 := h
theorem FI.drew {w W : World} {tb : Nat} {x0 x1 x2 x3 s3 : Value} {M : List Fc} (h : FI w tb x0 x1 x2 x3 s3 M W) : FI w tb x0 x1 x2 x3 s3 M W.drew := h.grow (Below.refl _ _).drew
/- what the region of the append reads -/
def S9 (tb zb bb bo eb eo : Nat) (x2 x3 : Value) (z : Cl) (β ε : Int) (W : World) : Prop :=
  W.cell? ⟨tb, 2, none⟩ = some x2 ∧ W.cell? ⟨tb, 3, none⟩ = some x3 ∧ W.cell? ⟨zb, 0, none⟩ = some (.int .i64 z.k) ∧ W.cell? ⟨zb, 1, none⟩ = some (.int .i64 z.a) ∧ W.cell? ⟨zb, 4, none⟩ = some (.int .i64 z.p) ∧ W.cell? ⟨zb, 7, none⟩ = some (.int .i64 z.r) ∧ W.cell? ⟨zb, 8, none⟩ = some (.int .i64 z.v) ∧ W.cell? ⟨bb, bo, none⟩ = some (.int .i64 β) ∧ W.cell? ⟨eb, eo, none⟩ = some (.int .i64 ε)
theorem S9.of {tb zb bb bo eb eo : Nat} {x2 x3 : Value} {z : Cl} {β ε : Int} {W W' : World} (h : S9 tb zb bb bo eb eo x2 x3 z β ε W) (h1 : W'.heap[tb]? = W.heap[tb]?) (h2 : W'.heap[zb]? = W.heap[zb]?) (h3 : W'.heap[bb]? = W.heap[bb]?) (h4 : W'.heap[eb]? = W.heap[eb]?) : S9 tb zb bb bo eb eo x2 x3 z β ε W' := by
  obtain ⟨a1, a2, a3, a4, a5, a6, a7, a8, a9⟩ := h
  have k1 := cells_of_block h1
  have k2 := cells_of_block h2
  exact ⟨(k1 _).trans a1, (k1 _).trans a2, (k2 _).trans a3, (k2 _).trans a4, (k2 _).trans a5, (k2 _).trans a6, (k2 _).trans a7, (cells_of_block h3 _).trans a8, (cells_of_block h4 _).trans a9⟩
theorem S9.below {tb zb bb bo eb eo : Nat} {x2 x3 : Value} {z : Cl} {β ε : Int} {W W' : World} (h : S9 tb zb bb bo eb eo x2 x3 z β ε W) (b : Below W.heap.size W W') (l : tb < W.heap.size ∧ zb < W.heap.size ∧ bb < W.heap.size ∧ eb < W.heap.size) : S9 tb zb bb bo eb eo x2 x3 z β ε W' :=
  h.of (b.block _ l.1) (b.block _ l.2.1) (b.block _ l.2.2.1) (b.block _ l.2.2.2)
theorem S9.grown {tb zb bb bo eb eo : Nat} {x2 x3 v : Value} {z : Cl} {β ε : Int} {W W1 W' : World} (h : S9 tb zb bb bo eb eo x2 x3 z β ε W) (l : tb < W.heap.size ∧ zb < W.heap.size ∧ bb < W.heap.size ∧ eb < W.heap.size) (n : v.ownBlock ≠ some tb ∧ v.ownBlock ≠ some zb ∧ v.ownBlock ≠ some bb ∧ v.ownBlock ≠ some eb) (b : Below W.heap.size W W1) (g : W1.grownBy W' v.ownBlock) : S9 tb zb bb bo eb eo x2 x3 z β ε W' := by
  have z := b.size
  exact (h.below b l).of (g.block _ (by omega) (fun e => n.1 e.symm)) (g.block _ (by omega) (fun e => n.2.1 e.symm)) (g.block _ (by omega) (fun e => n.2.2.1 e.symm)) (g.block _ (by omega) (fun e => n.2.2.2 e.symm))
theorem run_min3N {w : World} (ts : Array TypeId) (t : TypeId) (y : Th) : (Builtin.min_ ts t #[.int .i64 (y.cs.length : Int), .int .i64 (y.bs.length : Int), .int .i64 (y.es.length : Int)]).run Try.prog w = .ok (.int .i64 (minB y : Int)) w := by
  have e : (if (y.es.length : Int) < (if (y.bs.length : Int) < (y.cs.length : Int) then (y.bs.length : Int) else (y.cs.length : Int)) then (y.es.length : Int) else (if (y.bs.length : Int) < (y.cs.length : Int) then (y.bs.length : Int) else (y.cs.length : Int))) = ((minB y : Nat) : Int) := by
    unfold minB
    split <;> split <;> omega
  rw [← e]
  simp [Builtin.min_, Builtin.min2]

end Go.Proofs.Ytmifnemjihffkaa
