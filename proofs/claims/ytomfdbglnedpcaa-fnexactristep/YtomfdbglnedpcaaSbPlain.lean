/- What a law's walk knows of the world: whole variables that stand, rows that stand, nothing old has turned; two answers of a call in variables, in whatever order those were made. Plain lemmas. -/
import Derived.Test.YtomfdbglnedpcaaRows
import Derived.WalkKit
import Derived.ProofKit
import Derived.OpenShut
import Derived.ShutString
import Derived.Test.YtomfdbglnedpcaaStPlain
import Derived.Test.YtomfdbglnedpcaaKeepPlain
import Derived.Test.YtomfdbglnedpcaaCallFns
namespace Go.Proofs.Ytomfdbglnedpcaa
open Go.ChangeShapes Go.WideShapes Go.ChangeAt Go.RowKit
set_option linter.unusedVariables false

structure Sb (w : World) (bs : List (Nat × Array Value)) (rs : List (Nat × Nat × Value × List Value)) (W : World) : Prop where
  below : Below w.heap.size w W
  blocks : ∀ b cs, (b, cs) ∈ bs → b < W.heap.size ∧ ∀ o, W.cell? ⟨b, o, none⟩ = cs[o]?
  rows : ∀ lo hi v xs, (lo, hi, v, xs) ∈ rs → hi ≤ W.heap.size ∧ Row W lo hi v xs
theorem Sb.start (w : World) : Sb w [] [] w := ⟨Below.refl _ _, fun _ _ h => (by cases h), fun _ _ _ _ h => (by cases h)⟩
theorem Sb.grow {w W W1 : World} {bs : List (Nat × Array Value)} {rs : List (Nat × Nat × Value × List Value)} (h : Sb w bs rs W) (b : Below W.heap.size W W1) : Sb w bs rs W1 :=
  ⟨h.below.trans (b.mono h.below.size), fun x cs hm => ⟨Nat.lt_of_lt_of_le (h.blocks x cs hm).1 b.size, fun o => below_cell b (h.blocks x cs hm).1 ((h.blocks x cs hm).2 o)⟩,
    fun lo hi v xs hm => ⟨Nat.le_trans (h.rows lo hi v xs hm).1 b.size, (h.rows lo hi v xs hm).2.below (b.mono (h.rows lo hi v xs hm).1)⟩⟩
theorem Sb.alloc {w W : World} {bs : List (Nat × Array Value)} {rs : List (Nat × Nat × Value × List Value)} (h : Sb w bs rs W) (o : Obj) : Sb w bs rs (W.alloc o) := h.grow ((Below.refl _ _).alloc (Nat.le_refl _) _)
theorem cell_new (W : World) (cs : Array Value) (T : TypeId) (o : Nat) : (W.alloc (.cells cs T)).cell? ⟨W.heap.size, o, none⟩ = cs[o]? := by simp [go_sem]
theorem Sb.box {w W : World} {bs : List (Nat × Array Value)} {rs : List (Nat × Nat × Value × List Value)} (h : Sb w bs rs W) (x : Array Value) (T : TypeId) : Sb w ((W.heap.size, x) :: bs) rs (W.alloc (.cells x T)) := by
  refine ⟨(h.alloc _).below, fun b cs hm => ?_, (h.alloc _).rows⟩
  rcases List.mem_cons.1 hm with e | hm
  · simp only [Prod.mk.injEq] at e
    obtain ⟨rfl, rfl⟩ := e
    exact ⟨by simp, fun o => cell_new W _ T o⟩
  · exact (h.alloc _).blocks b cs hm
theorem Sb.row {w W : World} {bs : List (Nat × Array Value)} {rs : List (Nat × Nat × Value × List Value)} (h : Sb w bs rs W) {lo hi : Nat} {x : Value} {ys : List Value} (hz : hi ≤ W.heap.size) (r : Row W lo hi x ys) : Sb w bs ((lo, hi, x, ys) :: rs) W := by
  refine ⟨h.below, h.blocks, fun l k v xs hm => ?_⟩
  rcases List.mem_cons.1 hm with e | hm
  · simp only [Prod.mk.injEq] at e
    obtain ⟨rfl, rfl, rfl, rfl⟩ := e
    exact ⟨hz, r⟩
  · exact h.rows l k v xs hm
theorem Sb.block {w W : World} {bs : List (Nat × Array Value)} {rs : List (Nat × Nat × Value × List Value)} (h : Sb w bs rs W) {n : Nat} {x : Array Value} (hz : n < W.heap.size) (r : ∀ o, W.cell? ⟨n, o, none⟩ = x[o]?) : Sb w ((n, x) :: bs) rs W := by
  refine ⟨h.below, fun b cs hm => ?_, h.rows⟩
  rcases List.mem_cons.1 hm with e | hm
  · simp only [Prod.mk.injEq] at e
    obtain ⟨rfl, rfl⟩ := e
    exact ⟨hz, r⟩
  · exact h.blocks b cs hm
theorem Sb.less {w W : World} {bs bs' : List (Nat × Array Value)} {rs rs' : List (Nat × Nat × Value × List Value)} (h : Sb w bs rs W) (h1 : ∀ x ∈ bs', x ∈ bs) (h2 : ∀ x ∈ rs', x ∈ rs) : Sb w bs' rs' W :=
  ⟨h.below, fun b cs hm => h.blocks b cs (h1 _ hm), fun lo hi v xs hm => h.rows lo hi v xs (h2 _ hm)⟩
theorem Sb.front1 {w W : World} {bs : List (Nat × Array Value)} {a b : Nat × Nat × Value × List Value} {rs : List (Nat × Nat × Value × List Value)} (h : Sb w bs (a :: b :: rs) W) : Sb w bs (b :: a :: rs) W :=
  h.less (fun _ h => h) (fun x hx => by simp only [List.mem_cons] at hx ⊢; rcases hx with h | h | h <;> simp [h])
theorem Sb.mark1 {w W W1 : World} {bs : List (Nat × Array Value)} {rs : List (Nat × Nat × Value × List Value)} {lo hi : Nat} {x : Value} {ys zs : List Value} (h : Sb w bs ((lo, hi, x, ys) :: rs) W) (o : Out lo hi W W1) (r : Row W1 lo hi x zs)
    (hl : w.heap.size ≤ lo) (h1 : ∀ b cs, (b, cs) ∈ bs → b < lo ∨ hi ≤ b) (h2 : ∀ l k v xs, (l, k, v, xs) ∈ rs → k ≤ lo ∨ hi ≤ l) : Sb w bs ((lo, hi, x, zs) :: rs) W1 := by
  refine Sb.row ⟨h.below.trans (o.below hl h.below.size), fun b cs hm => ⟨Nat.lt_of_lt_of_le (h.blocks b cs hm).1 o.size, fun f => o.cell (h.blocks b cs hm).1 (h1 b cs hm) ((h.blocks b cs hm).2 f)⟩, fun l k v xs hm => ?_⟩ (Nat.le_trans (h.rows _ _ _ _ (List.mem_cons_self ..)).1 o.size) r
  have := h.rows l k v xs (List.mem_cons_of_mem _ hm)
  exact ⟨Nat.le_trans this.1 o.size, this.2.out o this.1 (h2 l k v xs hm)⟩
theorem Sb.get {w W : World} {bs : List (Nat × Array Value)} {rs : List (Nat × Nat × Value × List Value)} (h : Sb w bs rs W) {b : Nat} {cs : Array Value} (hm : (b, cs) ∈ bs) : ∀ o, W.cell? ⟨b, o, none⟩ = cs[o]? := (h.blocks b cs hm).2
theorem Sb.at {w W : World} {bs : List (Nat × Array Value)} {rs : List (Nat × Nat × Value × List Value)} (h : Sb w bs rs W) {lo hi : Nat} {v : Value} {xs : List Value} (hm : (lo, hi, v, xs) ∈ rs) : hi ≤ W.heap.size ∧ Row W lo hi v xs := h.rows lo hi v xs hm
def Got2 (w W : World) (L : List Int) (c10 : Array Value) (bs : List (Nat × Array Value)) (rs : List (Nat × Nat × Value × List Value)) (s t : Value) (wc : World) : Prop :=
  ∃ n m a k lo hi, s = .pointer (some ⟨n, 0, none⟩) ∧ t = .pointer (some ⟨m, 0, none⟩) ∧ W.heap.size ≤ n ∧ W.heap.size ≤ m ∧ W.heap.size ≤ lo ∧ (n < lo ∨ hi ≤ n) ∧ (m < lo ∨ hi ≤ m) ∧ lo ≤ wc.heap.size ∧ W.heap.size ≤ wc.heap.size ∧ Sb w ((n, #[.slice a L.length k]) :: (m, c10) :: bs) ((lo, hi, .slice a L.length k, ints L) :: rs) wc
theorem lt_of_some {W : World} {n o : Nat} {x : Value} (h0 : W.cell? ⟨n, o, none⟩ = some x) : n < W.heap.size := by
  by_cases hlt : n < W.heap.size
  · exact hlt
  · simp [World.cell?, hlt] at h0
theorem got2_mk {w W w2 wc : World} {L : List Int} {x : Value} {c10 : Array Value} {bs : List (Nat × Array Value)} {rs : List (Nat × Nat × Value × List Value)} {a : Option Addr} {k lo n m : Nat} (h : Sb w bs rs W) (g : Below W.heap.size W w2) (r : Row w2 lo w2.heap.size (.slice a L.length k) (ints L)) (hlo : W.heap.size ≤ lo) (hl2 : lo ≤ w2.heap.size)
    (kp : Kp [n, m] w2 wc) (hn : W.heap.size ≤ n) (hm : W.heap.size ≤ m) (on : n < lo ∨ w2.heap.size ≤ n) (om : m < lo ∨ w2.heap.size ≤ m) (cn : ∀ o, wc.cell? ⟨n, o, none⟩ = #[Value.slice a L.length k][o]?) (cm : ∀ o, wc.cell? ⟨m, o, none⟩ = c10[o]?) (hx : c10[0]? = some x) :
    Got2 w W L c10 bs rs (.pointer (some ⟨n, 0, none⟩)) (.pointer (some ⟨m, 0, none⟩)) wc := by
  have hb : Below W.heap.size W wc := g.trans (kp.below g.size (fun q hq => by simp at hq; omega))
  refine ⟨n, m, a, k, lo, w2.heap.size, rfl, rfl, hn, hm, hlo, on, om, Nat.le_trans hl2 kp.size, hb.size, ?_⟩
  exact (((h.grow hb).block (lt_of_some ((cm 0).trans hx)) cm).block (lt_of_some (x := Value.slice a L.length k) ((cn 0).trans rfl)) cn).row kp.size (kp.row r (Nat.le_refl _) (fun q hq => by simp at hq; omega))
theorem cell_dr {W : World} {b o : Nat} {x : Option Value} (h : W.cell? ⟨b, o, none⟩ = x) : W.drew.cell? ⟨b, o, none⟩ = x := h
theorem cell_ne {W : World} {b o n f : Nat} {x : Option Value} {v : Value} (hn : n ≠ b) (h : W.cell? ⟨b, o, none⟩ = x) : (W.setCell ⟨n, f, none⟩ v).cell? ⟨b, o, none⟩ = x := by
  rw [World.cell?_setCell_other _ _ _ _ (by simp)]; exact h
theorem cell_lt {W : World} {b o : Nat} {x : Option Value} {ob : Obj} (hb : b < W.heap.size) (h : W.cell? ⟨b, o, none⟩ = x) : (W.alloc ob).cell? ⟨b, o, none⟩ = x := by
  rw [World.cell?_alloc_lt _ _ _ hb]; exact h
theorem frozen_new (W : World) (cs : Array Value) (T : TypeId) (o : Nat) : (W.alloc (.cells cs T)).frozen? ⟨W.heap.size, o, none⟩ = false := by simp [go_sem]
theorem frozen_dr {W : World} {b o : Nat} {x : Bool} (h : W.frozen? ⟨b, o, none⟩ = x) : W.drew.frozen? ⟨b, o, none⟩ = x := h
theorem frozen_lt {W : World} {b o : Nat} {x : Bool} {ob : Obj} (hb : b < W.heap.size) (h : W.frozen? ⟨b, o, none⟩ = x) : (W.alloc ob).frozen? ⟨b, o, none⟩ = x := by
  rw [World.frozen?_alloc_old _ _ _ (by simp <;> omega)]; exact h
theorem cell_newE {W : World} {cs : Array Value} {T : TypeId} {n o : Nat} (hn : n = W.heap.size) : (W.alloc (.cells cs T)).cell? ⟨n, o, none⟩ = cs[o]? := by subst hn; exact cell_new W cs T o
theorem frozen_newE {W : World} {cs : Array Value} {T : TypeId} {n o : Nat} (hn : n = W.heap.size) : (W.alloc (.cells cs T)).frozen? ⟨n, o, none⟩ = false := by subst hn; exact frozen_new W cs T o
theorem set1 {W : World} {n : Nat} {v : Value} (h : ∀ o, W.cell? ⟨n, o, none⟩ = #[Value.slice none 0 0][o]?) (o : Nat) : (W.setCell ⟨n, 0, none⟩ v).cell? ⟨n, o, none⟩ = #[v][o]? := by
  rcases o with _ | o
  · simp [go_sem, h]
  · simp [go_sem, h]
theorem set10 {w : World} {B : Nat} {x0 x1 x2 x3 x4 x5 x6 x7 x8 x9 : Value} (h : ∀ o, w.cell? ⟨B, o, none⟩ = #[Value.int .i64 0, .int .i64 0, .int .i64 0, .int .i64 0, .int .i64 0, .int .i64 0, .int .i64 0, .int .i64 0, .int .i64 0, .bool false][o]?) (o : Nat) : ((((((((((w.setCell ⟨B, 0, none⟩ x0).setCell ⟨B, 1, none⟩ x1).setCell ⟨B, 2, none⟩ x2).setCell ⟨B, 3, none⟩ x3).setCell ⟨B, 4, none⟩ x4).setCell ⟨B, 5, none⟩ x5).setCell ⟨B, 6, none⟩ x6).setCell ⟨B, 7, none⟩ x7).setCell ⟨B, 8, none⟩ x8).setCell ⟨B, 9, none⟩ x9).cell? ⟨B, o, none⟩ = #[x0, x1, x2, x3, x4, x5, x6, x7, x8, x9][o]? := cells10 h o

end Go.Proofs.Ytomfdbglnedpcaa
