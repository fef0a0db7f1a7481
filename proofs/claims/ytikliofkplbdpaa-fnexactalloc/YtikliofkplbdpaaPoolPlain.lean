/- Pools: a row of free places, epochs, a row of places that live. What is read (In), what a model answers (Q), what is owned (R), what is marked (M). Plain lemmas on worlds. -/
import Derived.Test.YtikliofkplbdpaaRows
import Derived.WalkKit
import Derived.ProofKit
import Derived.OpenShut
import Derived.ShutString
import Derived.Test.YtikliofkplbdpaaAgesFns
import Derived.Test.YtikliofkplbdpaaThEq
import Derived.Test.YtikliofkplbdpaaCwLaw
import Derived.Test.YtikliofkplbdpaaOutMoves
namespace Go.Proofs.Ytikliofkplbdpaa
open Go.ChangeShapes Go.WideShapes Go.ChangeAt Go.RowKit
set_option linter.unusedVariables false

structure Pl where
  fr : List Int
  a : Int
  ps : List Int
  L : List (Int × Int)
  lv : List Int
def plZero : Pl := ⟨[], 0, [], [], []⟩
instance : Inhabited Pl := ⟨plZero⟩
def PlWf (P : Pl) : Prop := (∀ z ∈ P.fr, (Lit.int .i64 z).wf = true) ∧ (∀ q ∈ P.L, (Lit.int .i64 q.1).wf = true) ∧ ∀ z ∈ P.lv, (Lit.int .i64 z).wf = true
structure PlIn (w : World) (f p l v : Value) (P : Pl) : Prop where
  fr : IntsIn w f P.fr
  ag : AIn w p l P.ps P.L
  lv : IntsIn w v P.lv
theorem PlIn.below {w w' : World} {f p l v : Value} {P : Pl} (h : PlIn w f p l v P) (hb : Below w.heap.size w w') : PlIn w' f p l v P := ⟨h.fr.below hb, h.ag.below hb, h.lv.below hb⟩
theorem PlIn.form {w : World} {f p l v : Value} {P : Pl} (h : PlIn w f p l v P) : ∃ fa fc pa pc la lc va vc, f = .slice fa P.fr.length fc ∧ p = .slice pa P.ps.length pc ∧ l = .slice la P.L.length lc ∧ v = .slice va P.lv.length vc := by
  obtain ⟨fa, fc, h1, -⟩ := h.fr.form
  obtain ⟨pa, pc, la, lc, h2, h3, -⟩ := h.ag.form
  obtain ⟨va, vc, h4, -⟩ := h.lv.form
  exact ⟨fa, fc, pa, pc, la, lc, va, vc, h1, h2, h3, h4⟩
/- a row of integers that is only read, in a block from lo to hi -/
def RowQ (w : World) (lo hi : Nat) (v : Value) (xs : List Int) : Prop := ∃ a cap, v = .slice a xs.length cap ∧ (xs = [] ∨ ∃ b off, a = some ⟨b, off, none⟩ ∧ lo ≤ b ∧ b < hi ∧ ∀ j (hj : j < xs.length), w.cell? ⟨b, off + j, none⟩ = some (.int .i64 xs[j]))
theorem RowQ.loc (lo hi : Nat) (v : Value) (xs : List Int) : Loc lo hi (fun w => RowQ w lo hi v xs) := by
  rintro w w' ⟨a, cap, hv, h⟩ hk
  refine ⟨a, cap, hv, ?_⟩
  rcases h with h | ⟨b, off, ha, h1, h2, h3⟩
  · exact .inl h
  · exact .inr ⟨b, off, ha, h1, h2, fun j hj => (World.cell?_of_block (a := ⟨b, off + j, none⟩) (hk b h1 h2)).trans (h3 j hj)⟩
theorem RowQ.wide {w : World} {lo hi lo' hi' : Nat} {v : Value} {xs : List Int} (h : RowQ w lo hi v xs) (h1 : lo' ≤ lo) (h2 : hi ≤ hi') : RowQ w lo' hi' v xs := by
  obtain ⟨a, cap, hv, h⟩ := h
  refine ⟨a, cap, hv, ?_⟩
  rcases h with h | ⟨b, off, ha, g1, g2, h3⟩
  · exact .inl h
  · exact .inr ⟨b, off, ha, by omega, by omega, h3⟩
theorem RowQ.inr {w : World} {lo hi : Nat} {v : Value} {xs : List Int} (h : RowQ w lo hi v xs) (hz : hi ≤ w.heap.size) : IntsIn w v xs := by
  obtain ⟨a, cap, hv, h⟩ := h
  refine ⟨⟨a, cap, hv, ?_⟩, a, cap, hv, trivial⟩
  rcases h with h | ⟨b, off, ha, h1, h2, h3⟩
  · exact .inl h
  · exact .inr ⟨b, off, ha, by omega, h3⟩
theorem Row.toQ {w : World} {lo hi : Nat} {v : Value} {xs : List Int} (h : Row w lo hi v (ints xs)) : RowQ w lo hi v xs := by
  obtain ⟨a, cap, hv, h⟩ := h
  refine ⟨a, cap, by rw [hv, ints_len], ?_⟩
  rcases h with h | ⟨g, ha, g1, g2, h3, h4⟩
  · exact .inl (by simpa using h)
  · refine .inr ⟨g, 0, ha, g1, g2, fun j hj => ?_⟩
    have := h3 j (by simpa using hj)
    rw [List.getElem_map] at this
    simpa using this
theorem Row.intsIn {w : World} {lo hi : Nat} {v : Value} {xs : List Int} (h : Row w lo hi v (ints xs)) (hz : hi ≤ w.heap.size) : IntsIn w v xs := h.toQ.inr hz
theorem IntsO.rowW {w : World} {lo hi : Nat} {v : Value} {xs : List Int} {fp : List Nat} (h : IntsO w v xs fp) (k : Within lo hi fp) : Row w lo hi v (ints xs) := by
  obtain ⟨a, cap, hv, -, h⟩ := h
  refine ⟨a, cap, by rw [hv, ints_len], ?_⟩
  rcases h with ⟨h, -⟩ | ⟨g, ha, hf, h1, h2, h3⟩
  · exact .inl (by simp [h])
  · have := k g (by rw [hf]; exact List.mem_singleton.2 rfl)
    exact .inr ⟨g, ha, this.1, this.2, fun j hj => by rw [List.getElem_map]; exact h2 j (by simpa using hj), h3⟩
theorem IntsNew.row {w w' : World} {v : Value} {xs : List Int} (h : IntsNew w w' v xs) : Row w' w.heap.size w'.heap.size v (ints xs) ∧ Below w.heap.size w w' := by
  obtain ⟨fp, o, -, g, b⟩ := h
  exact ⟨o.rowW fun x hx => ⟨g x hx, o.lt x hx⟩, b⟩
theorem Row.size0 (w : World) (lo hi : Nat) : Row w lo hi (.slice none 0 0) (ints []) := ⟨none, 0, rfl, .inl rfl⟩
/- what a model answers -/
structure PlQ (lo hi : Nat) (f p l v : Value) (P : Pl) (W : World) : Prop where
  fr : RowQ W lo hi f P.fr
  ag : AR lo hi p l P.ps P.L W
  lv : RowQ W lo hi v P.lv
theorem PlQ.loc (lo hi : Nat) (f p l v : Value) (P : Pl) : Loc lo hi (PlQ lo hi f p l v P) :=
  fun w w' h hk => ⟨RowQ.loc _ _ _ _ w w' h.fr hk, AR.loc _ _ _ _ _ _ w w' h.ag hk, RowQ.loc _ _ _ _ w w' h.lv hk⟩
theorem PlQ.pin {w : World} {lo hi : Nat} {f p l v : Value} {P : Pl} (h : PlQ lo hi f p l v P w) (hz : hi ≤ w.heap.size) : PlIn w f p l v P := ⟨h.fr.inr hz, h.ag.ain hz, h.lv.inr hz⟩
theorem PlQ.below {w w' : World} {lo hi : Nat} {f p l v : Value} {P : Pl} (h : PlQ lo hi f p l v P w) (hb : Below hi w w') : PlQ lo hi f p l v P w' := PlQ.loc _ _ _ _ _ _ _ w w' h (fun k _ hk => hb.block k hk)
theorem PlQ.wide {w : World} {lo hi lo' hi' : Nat} {f p l v : Value} {P : Pl} (h : PlQ lo hi f p l v P w) (h1 : lo' ≤ lo) (h2 : hi ≤ hi') : PlQ lo' hi' f p l v P w := ⟨h.fr.wide h1 h2, h.ag.wide h1 h2, h.lv.wide h1 h2⟩
/- what is owned: three parts, each in blocks of its own -/
structure Dis (lo hi a1 b1 a2 b2 a3 b3 : Nat) : Prop where
  l1 : lo ≤ a1
  h1 : b1 ≤ hi
  l2 : lo ≤ a2
  h2 : b2 ≤ hi
  l3 : lo ≤ a3
  h3 : b3 ≤ hi
  d12 : b1 ≤ a2 ∨ b2 ≤ a1
  d13 : b1 ≤ a3 ∨ b3 ≤ a1
  d23 : b2 ≤ a3 ∨ b3 ≤ a2
def PlR (lo hi : Nat) (f p l v : Value) (P : Pl) (W : World) : Prop :=
  ∃ a1 b1 a2 b2 a3 b3, Dis lo hi a1 b1 a2 b2 a3 b3 ∧ Row W a1 b1 f (ints P.fr) ∧ AR a2 b2 p l P.ps P.L W ∧ Row W a3 b3 v (ints P.lv)
theorem Dis.wide {lo hi lo' hi' a1 b1 a2 b2 a3 b3 : Nat} (d : Dis lo hi a1 b1 a2 b2 a3 b3) (h1 : lo' ≤ lo) (h2 : hi ≤ hi') : Dis lo' hi' a1 b1 a2 b2 a3 b3 := by
  obtain ⟨e1, e2, e3, e4, e5, e6, e7, e8, e9⟩ := d
  exact ⟨by omega, by omega, by omega, by omega, by omega, by omega, e7, e8, e9⟩
theorem PlR.loc (lo hi : Nat) (f p l v : Value) (P : Pl) : Loc lo hi (PlR lo hi f p l v P) := by
  rintro w w' ⟨a1, b1, a2, b2, a3, b3, d, r1, r2, r3⟩ hk
  exact ⟨a1, b1, a2, b2, a3, b3, d, Row.loc _ _ _ _ w w' r1 (fun k k1 k2 => hk k (Nat.le_trans d.l1 k1) (Nat.lt_of_lt_of_le k2 d.h1)), AR.loc _ _ _ _ _ _ w w' r2 (fun k k1 k2 => hk k (Nat.le_trans d.l2 k1) (Nat.lt_of_lt_of_le k2 d.h2)), Row.loc _ _ _ _ w w' r3 (fun k k1 k2 => hk k (Nat.le_trans d.l3 k1) (Nat.lt_of_lt_of_le k2 d.h3))⟩
theorem PlR.toQ {lo hi : Nat} {f p l v : Value} {P : Pl} {W : World} (h : PlR lo hi f p l v P W) : PlQ lo hi f p l v P W := by
  obtain ⟨a1, b1, a2, b2, a3, b3, d, r1, r2, r3⟩ := h
  exact ⟨r1.toQ.wide d.l1 d.h1, r2.wide d.l2 d.h2, r3.toQ.wide d.l3 d.h3⟩
theorem PlR.below {w w' : World} {lo hi : Nat} {f p l v : Value} {P : Pl} (h : PlR lo hi f p l v P w) (hb : Below hi w w') : PlR lo hi f p l v P w' := PlR.loc _ _ _ _ _ _ _ w w' h (fun k _ hk => hb.block k hk)
theorem PlR.wide {w : World} {lo hi lo' hi' : Nat} {f p l v : Value} {P : Pl} (h : PlR lo hi f p l v P w) (h1 : lo' ≤ lo) (h2 : hi ≤ hi') : PlR lo' hi' f p l v P w := by
  obtain ⟨a1, b1, a2, b2, a3, b3, d, r⟩ := h
  exact ⟨a1, b1, a2, b2, a3, b3, d.wide h1 h2, r⟩
theorem PlR.zero (lo : Nat) (hi : Nat) (h : lo ≤ hi) (w : World) : PlR lo hi (.slice none 0 0) (.slice none 0 0) (.slice none 0 0) (.slice none 0 0) plZero w :=
  ⟨lo, lo, lo, lo, lo, lo, ⟨Nat.le_refl _, h, Nat.le_refl _, h, Nat.le_refl _, h, .inl (Nat.le_refl _), .inl (Nat.le_refl _), .inl (Nat.le_refl _)⟩, Row.size0 _ _ _, AR.nil _ _ _, Row.size0 _ _ _⟩
theorem PlQ.form {lo hi : Nat} {f p l v : Value} {P : Pl} {W : World} (h : PlQ lo hi f p l v P W) : ∃ fa fc pa pc la lc va vc, f = .slice fa P.fr.length fc ∧ p = .slice pa P.ps.length pc ∧ l = .slice la P.L.length lc ∧ v = .slice va P.lv.length vc := by
  obtain ⟨fa, fc, h1, -⟩ := h.fr
  obtain ⟨pa, pc, la, lc, h2, h3, -⟩ := h.ag.form
  obtain ⟨va, vc, h4, -⟩ := h.lv
  exact ⟨fa, fc, pa, pc, la, lc, va, vc, h1, h2, h3, h4⟩
theorem PlR.form {lo hi : Nat} {f p l v : Value} {P : Pl} {W : World} (h : PlR lo hi f p l v P W) : ∃ fa fc pa pc la lc va vc, f = .slice fa P.fr.length fc ∧ p = .slice pa P.ps.length pc ∧ l = .slice la P.L.length lc ∧ v = .slice va P.lv.length vc := h.toQ.form
/- marked: n, m, q, r: how many there are -/
structure PlM (lo hi : Nat) (f p l v : Value) (k0 n m q r : Nat) (W : World) : Prop where
  fr : Row W lo hi f (imarks k0 n)
  ag : AM lo hi p l (k0 + n) m q W
  lv : Row W lo hi v (imarks (k0 + n + m + q * 2) r)
theorem PlM.loc (lo hi : Nat) (f p l v : Value) (k0 n m q r : Nat) : Loc lo hi (PlM lo hi f p l v k0 n m q r) :=
  fun w w' h hk => ⟨Row.loc _ _ _ _ w w' h.fr hk, AM.loc _ _ _ _ _ _ _ w w' h.ag hk, Row.loc _ _ _ _ w w' h.lv hk⟩
theorem AM.wide {w : World} {lo hi lo' hi' : Nat} {p l : Value} {k0 n m : Nat} (h : AM lo hi p l k0 n m w) (h1 : lo' ≤ lo) (h2 : hi ≤ hi') : AM lo' hi' p l k0 n m w := ⟨h.pins.wide h1 h2, h.limbo.wide h1 h2⟩
theorem Loc.out {a b lo hi : Nat} {P : World → Prop} {w w' : World} (l : Loc a b P) (p : P w) (o : Out lo hi w w') (hz : b ≤ w.heap.size) (hn : b ≤ lo ∨ hi ≤ a) : P w' :=
  l w w' p (fun k k1 k2 => o.block k (by omega) (by omega))
theorem Out.wide {lo hi lo' hi' : Nat} {w w' : World} (h : Out lo hi w w') (h1 : lo' ≤ lo) (h2 : hi ≤ hi') : Out lo' hi' w w' := ⟨h.os, h.tape, h.output, h.size, fun k hk hn => h.block k hk (by omega)⟩

end Go.Proofs.Ytikliofkplbdpaa
