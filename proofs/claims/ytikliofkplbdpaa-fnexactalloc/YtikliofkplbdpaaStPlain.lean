/- What a law's walk knows of the world: cells that stand, rows that stand, nothing old has turned. Plain lemmas. -/
import Derived.Test.YtikliofkplbdpaaRows
import Derived.WalkKit
import Derived.ProofKit
import Derived.OpenShut
import Derived.ShutString
import Derived.Test.YtikliofkplbdpaaOutPlain
namespace Go.Proofs.Ytikliofkplbdpaa
open Go.ChangeShapes Go.WideShapes Go.ChangeAt Go.RowKit
set_option linter.unusedVariables false

structure St (w : World) (cs : List (Nat × Nat × Value)) (rs : List (Nat × Nat × Value × List Value)) (W : World) : Prop where
  below : Below w.heap.size w W
  cells : ∀ b o v, (b, o, v) ∈ cs → b < W.heap.size ∧ W.cell? ⟨b, o, none⟩ = some v
  rows : ∀ lo hi v xs, (lo, hi, v, xs) ∈ rs → hi ≤ W.heap.size ∧ Row W lo hi v xs
theorem St.start (w : World) : St w [] [] w := ⟨Below.refl _ _, fun _ _ _ h => (by cases h), fun _ _ _ _ h => (by cases h)⟩
theorem St.grow {w W W1 : World} {cs : List (Nat × Nat × Value)} {rs : List (Nat × Nat × Value × List Value)} (h : St w cs rs W) (b : Below W.heap.size W W1) : St w cs rs W1 :=
  ⟨h.below.trans (b.mono h.below.size), fun x o v hm => ⟨Nat.lt_of_lt_of_le (h.cells x o v hm).1 b.size, below_cell b (h.cells x o v hm).1 (h.cells x o v hm).2⟩,
    fun lo hi v xs hm => ⟨Nat.le_trans (h.rows lo hi v xs hm).1 b.size, (h.rows lo hi v xs hm).2.below (b.mono (h.rows lo hi v xs hm).1)⟩⟩
theorem St.drew {w W : World} {cs : List (Nat × Nat × Value)} {rs : List (Nat × Nat × Value × List Value)} (h : St w cs rs W) : St w cs rs W.drew := h.grow (Below.refl _ _).drew
theorem St.alloc {w W : World} {cs : List (Nat × Nat × Value)} {rs : List (Nat × Nat × Value × List Value)} (h : St w cs rs W) (o : Obj) : St w cs rs (W.alloc o) := h.grow ((Below.refl _ _).alloc (Nat.le_refl _) _)
theorem St.box {w W : World} {cs : List (Nat × Nat × Value)} {rs : List (Nat × Nat × Value × List Value)} (h : St w cs rs W) (x : Value) (T : TypeId) : St w ((W.heap.size, 0, x) :: cs) rs (W.alloc (.cells #[x] T)) := by
  refine ⟨(h.alloc _).below, fun b o v hm => ?_, (h.alloc _).rows⟩
  rcases List.mem_cons.1 hm with e | hm
  · simp at e
    obtain ⟨rfl, rfl, rfl⟩ := e
    exact ⟨by simp, by simp⟩
  · exact (h.alloc _).cells b o v hm
theorem St.box4 {w W : World} {cs : List (Nat × Nat × Value)} {rs : List (Nat × Nat × Value × List Value)} (h : St w cs rs W) (x0 x1 x2 x3 : Value) (T : TypeId) : St w ((W.heap.size, 0, x0) :: (W.heap.size, 1, x1) :: (W.heap.size, 2, x2) :: (W.heap.size, 3, x3) :: cs) rs (W.alloc (.cells #[x0, x1, x2, x3] T)) := by
  refine ⟨(h.alloc _).below, fun b o v hm => ?_, (h.alloc _).rows⟩
  simp only [List.mem_cons, Prod.mk.injEq] at hm
  rcases hm with ⟨rfl, rfl, rfl⟩ | ⟨rfl, rfl, rfl⟩ | ⟨rfl, rfl, rfl⟩ | ⟨rfl, rfl, rfl⟩ | hm
  iterate 4 exact ⟨by simp, by simp⟩
  exact (h.alloc _).cells b o v hm
theorem St.row {w W : World} {cs : List (Nat × Nat × Value)} {rs : List (Nat × Nat × Value × List Value)} (h : St w cs rs W) {lo hi : Nat} {x : Value} {ys : List Value} (hz : hi ≤ W.heap.size) (r : Row W lo hi x ys) : St w cs ((lo, hi, x, ys) :: rs) W := by
  refine ⟨h.below, h.cells, fun l k v xs hm => ?_⟩
  rcases List.mem_cons.1 hm with e | hm
  · simp at e
    obtain ⟨rfl, rfl, rfl, rfl⟩ := e
    exact ⟨hz, r⟩
  · exact h.rows l k v xs hm
theorem St.less {w W : World} {cs cs' : List (Nat × Nat × Value)} {rs rs' : List (Nat × Nat × Value × List Value)} (h : St w cs rs W) (h1 : ∀ x ∈ cs', x ∈ cs) (h2 : ∀ x ∈ rs', x ∈ rs) : St w cs' rs' W :=
  ⟨h.below, fun b o v hm => h.cells b o v (h1 _ hm), fun lo hi v xs hm => h.rows lo hi v xs (h2 _ hm)⟩
theorem St.mark {w W W1 : World} {cs : List (Nat × Nat × Value)} {rs rs' : List (Nat × Nat × Value × List Value)} (h : St w cs rs W) {lo hi : Nat} {x : Value} {ys : List Value} (o : Out lo hi W W1) (hz : hi ≤ W.heap.size) (r : Row W1 lo hi x ys)
    (hl : w.heap.size ≤ lo) (h1 : ∀ b o v, (b, o, v) ∈ cs → b < lo ∨ hi ≤ b) (h2 : ∀ l k v xs, (l, k, v, xs) ∈ rs' → k ≤ lo ∨ hi ≤ l) (h3 : ∀ y ∈ rs', y ∈ rs) : St w cs ((lo, hi, x, ys) :: rs') W1 := by
  refine St.row ⟨h.below.trans (o.below hl h.below.size), fun b f v hm => ⟨Nat.lt_of_lt_of_le (h.cells b f v hm).1 o.size, o.cell (h.cells b f v hm).1 (h1 b f v hm) (h.cells b f v hm).2⟩, fun l k v xs hm => ?_⟩ (Nat.le_trans hz o.size) r
  have := h.rows l k v xs (h3 _ hm)
  exact ⟨Nat.le_trans this.1 o.size, this.2.out o this.1 (h2 l k v xs hm)⟩
theorem St.get {w W : World} {cs : List (Nat × Nat × Value)} {rs : List (Nat × Nat × Value × List Value)} (h : St w cs rs W) {b o : Nat} {v : Value} (hm : (b, o, v) ∈ cs) : W.cell? ⟨b, o, none⟩ = some v := (h.cells b o v hm).2
theorem St.lt {w W : World} {cs : List (Nat × Nat × Value)} {rs : List (Nat × Nat × Value × List Value)} (h : St w cs rs W) {b o : Nat} {v : Value} (hm : (b, o, v) ∈ cs) : b < W.heap.size := (h.cells b o v hm).1
theorem St.at {w W : World} {cs : List (Nat × Nat × Value)} {rs : List (Nat × Nat × Value × List Value)} (h : St w cs rs W) {lo hi : Nat} {v : Value} {xs : List Value} (hm : (lo, hi, v, xs) ∈ rs) : hi ≤ W.heap.size ∧ Row W lo hi v xs := h.rows lo hi v xs hm
theorem and_mk {P Q : World → Prop} (h : ∀ W, P W → Q W) {W : World} (p : P W) : P W ∧ Q W := ⟨p, h W p⟩
theorem St.pack {w W : World} {cs : List (Nat × Nat × Value)} {rs : List (Nat × Nat × Value × List Value)} (h : St w cs rs W) : ∃ P : World → Prop, P W ∧ (∀ X, P X → P X.drew) ∧ (∀ X Y, P X → Below X.heap.size X Y → P Y) ∧ ∀ X, P X → St w cs rs X :=
  ⟨St w cs rs, h, fun _ p => p.drew, fun _ _ p b => p.grow b, fun _ p => p⟩
theorem St.front1 {w W : World} {cs : List (Nat × Nat × Value)} {a b : Nat × Nat × Value × List Value} {rs : List (Nat × Nat × Value × List Value)} (h : St w cs (a :: b :: rs) W) : St w cs (b :: a :: rs) W :=
  h.less (fun _ h => h) (fun x hx => by simp only [List.mem_cons] at hx ⊢; rcases hx with h | h | h <;> simp [h])
theorem St.front2 {w W : World} {cs : List (Nat × Nat × Value)} {a b c : Nat × Nat × Value × List Value} {rs : List (Nat × Nat × Value × List Value)} (h : St w cs (a :: b :: c :: rs) W) : St w cs (c :: a :: b :: rs) W :=
  h.less (fun _ h => h) (fun x hx => by simp only [List.mem_cons] at hx ⊢; rcases hx with h | h | h | h <;> simp [h])
theorem St.mark1 {w W W1 : World} {cs : List (Nat × Nat × Value)} {rs : List (Nat × Nat × Value × List Value)} {lo hi : Nat} {x : Value} {ys zs : List Value} (h : St w cs ((lo, hi, x, ys) :: rs) W) (o : Out lo hi W W1) (r : Row W1 lo hi x zs)
    (hl : w.heap.size ≤ lo) (h1 : ∀ b o v, (b, o, v) ∈ cs → b < lo ∨ hi ≤ b) (h2 : ∀ l k v xs, (l, k, v, xs) ∈ rs → k ≤ lo ∨ hi ≤ l) : St w cs ((lo, hi, x, zs) :: rs) W1 :=
  h.mark o (h.rows _ _ _ _ (List.mem_cons_self ..)).1 r hl h1 h2 (fun y hy => List.mem_cons_of_mem _ hy)
theorem below_step {W X Y : World} (h : Below W.heap.size W X) (b : Below X.heap.size X Y) : Below W.heap.size W Y := h.trans (b.mono h.size)
theorem below_al {W X : World} (h : Below W.heap.size W X) (o : Obj) : Below W.heap.size W (X.alloc o) := h.alloc h.size o
theorem below_st {W X : World} {n f : Nat} {v : Value} (h : Below W.heap.size W X) (hn : W.heap.size ≤ n) : Below W.heap.size W (X.setCell ⟨n, f, none⟩ v) := h.setCell hn v
theorem St.put {w W : World} {cs : List (Nat × Nat × Value)} {rs : List (Nat × Nat × Value × List Value)} (h : St w cs rs W) {n : Nat} {u v : Value} (hc : W.cell? ⟨n, 0, none⟩ = some u) (hw : w.heap.size ≤ n) (h1 : ∀ b o v, (b, o, v) ∈ cs → b ≠ n) (h2 : ∀ lo hi v xs, (lo, hi, v, xs) ∈ rs → n < lo ∨ hi ≤ n) :
    St w ((n, 0, v) :: cs) rs (W.setCell ⟨n, 0, none⟩ v) := by
  have hn : n < W.heap.size := by
    by_cases hlt : n < W.heap.size
    · exact hlt
    · simp [World.cell?, hlt] at hc
  refine ⟨h.below.setCell hw v, fun b o x hm => ?_, fun lo hi x xs hm => ?_⟩
  · rcases List.mem_cons.1 hm with e | hm
    · simp at e
      obtain ⟨rfl, rfl, rfl⟩ := e
      exact ⟨by simpa using hn, World.cell?_setCell_same _ _ _ hc⟩
    · exact ⟨by simpa using (h.cells b o x hm).1, by rw [World.cell?_setCell_other _ _ _ _ (by intro e; simp at e; exact h1 b o x hm e.1.symm)]; exact (h.cells b o x hm).2⟩
  · have hr := h.rows lo hi x xs hm
    refine ⟨by simpa using hr.1, ?_⟩
    refine hr.2.out (lo := n) (hi := n + 1) ⟨rfl, rfl, rfl, by simp, fun k hk hne => Below.heap_setCell _ _ _ _ (by show k ≠ n; omega)⟩ hr.1 ?_
    have := h2 lo hi x xs hm
    omega

end Go.Proofs.Ytikliofkplbdpaa
