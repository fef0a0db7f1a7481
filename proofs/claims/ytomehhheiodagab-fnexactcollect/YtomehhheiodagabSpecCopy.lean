/- Epochs copied, by the model. -/
import Derived.Test.YtomehhheiodagabRows
import Derived.WalkKit
import Derived.ProofKit
import Derived.OpenShut
import Derived.ShutString
import Derived.Test.YtomehhheiodagabImplCopy
import Derived.Deep.RegionLaw
namespace Go.Proofs.Ytomehhheiodagab
open Go.ChangeShapes Go.WideShapes Go.ChangeAt Go.RowKit
set_option linter.unusedVariables false

theorem at_new {W : World} {o : Obj} {k : Nat} (hk : k = W.heap.size) : (W.alloc o).heap[k]? = some o := by subst hk; exact heap_alloc_new _ _
theorem at_old {W : World} {o : Obj} {k : Nat} {x : Option Obj} (hk : k < W.heap.size) (h : W.heap[k]? = x) : (W.alloc o).heap[k]? = x := (Below.heap_alloc _ _ _ hk).trans h
theorem at_set {W : World} {p : Addr} {v : Value} {k : Nat} {x : Option Obj} (hk : k ≠ p.block) (h : W.heap[k]? = x) : (W.setCell p v).heap[k]? = x := (Below.heap_setCell _ _ _ _ hk).trans h
theorem at_drew {W : World} {k : Nat} {x : Option Obj} (h : W.heap[k]? = x) : W.drew.heap[k]? = x := h
/- what the model's copy leaves: two rows of its own, in the result -/
def CsR (w : World) (a : Int) (ps : List Int) (L : List (Int × Int)) (W : World) : Prop :=
  ∃ p l, W.cell? ⟨w.heap.size + 1, 0, none⟩ = some (.int .i64 a) ∧ W.cell? ⟨w.heap.size + 1, 1, none⟩ = some p ∧ W.cell? ⟨w.heap.size + 1, 2, none⟩ = some l ∧ AO w.heap.size p l ps L W ∧ Below w.heap.size w W
theorem own_empty {W : World} {lo g : Nat} {e : TypeId} {size : Nat} (hg : W.heap[g]? = some (.cells #[] e (0, 0))) (hl : lo ≤ g) : W.ownsRow lo e size (.slice (some ⟨g, 0, none⟩) 0 0) 0 [] := own_of_block hg hl (Nat.le_refl _) (by unfold maxLen; omega) (by simp) (by simp) (by simp)

theorem s_al {w W : World} {x0 x1 x2 : Value} (h : Below w.heap.size w W ∧ W.cell? ⟨w.heap.size, 0, none⟩ = some x0 ∧ W.cell? ⟨w.heap.size, 1, none⟩ = some x1 ∧ W.cell? ⟨w.heap.size, 2, none⟩ = some x2 ∧ w.heap.size + 2 ≤ W.heap.size) (o : Obj) : Below w.heap.size w (W.alloc o) ∧ (W.alloc o).cell? ⟨w.heap.size, 0, none⟩ = some x0 ∧ (W.alloc o).cell? ⟨w.heap.size, 1, none⟩ = some x1 ∧ (W.alloc o).cell? ⟨w.heap.size, 2, none⟩ = some x2 ∧ w.heap.size + 2 ≤ (W.alloc o).heap.size := by
  obtain ⟨h0, h1, h2, h3, h4⟩ := h
  have b : Below W.heap.size W (W.alloc o) := (Below.refl _ _).alloc (Nat.le_refl _) _
  exact ⟨below_step h0 b, below_cell b (by omega) h1, below_cell b (by omega) h2, below_cell b (by omega) h3, by simp; omega⟩
theorem s_drew {w W : World} {x0 x1 x2 : Value} (h : Below w.heap.size w W ∧ W.cell? ⟨w.heap.size, 0, none⟩ = some x0 ∧ W.cell? ⟨w.heap.size, 1, none⟩ = some x1 ∧ W.cell? ⟨w.heap.size, 2, none⟩ = some x2 ∧ w.heap.size + 2 ≤ W.heap.size) : Below w.heap.size w W.drew ∧ W.drew.cell? ⟨w.heap.size, 0, none⟩ = some x0 ∧ W.drew.cell? ⟨w.heap.size, 1, none⟩ = some x1 ∧ W.drew.cell? ⟨w.heap.size, 2, none⟩ = some x2 ∧ w.heap.size + 2 ≤ W.drew.heap.size := ⟨h.1.drew, h.2⟩
theorem s_st {w W : World} {x0 x1 x2 : Value} (h : Below w.heap.size w W ∧ W.cell? ⟨w.heap.size, 0, none⟩ = some x0 ∧ W.cell? ⟨w.heap.size, 1, none⟩ = some x1 ∧ W.cell? ⟨w.heap.size, 2, none⟩ = some x2 ∧ w.heap.size + 2 ≤ W.heap.size) (o : Nat) (v : Value) : Below w.heap.size w (W.setCell ⟨w.heap.size + 1, o, none⟩ v) ∧ (W.setCell ⟨w.heap.size + 1, o, none⟩ v).cell? ⟨w.heap.size, 0, none⟩ = some x0 ∧ (W.setCell ⟨w.heap.size + 1, o, none⟩ v).cell? ⟨w.heap.size, 1, none⟩ = some x1 ∧ (W.setCell ⟨w.heap.size + 1, o, none⟩ v).cell? ⟨w.heap.size, 2, none⟩ = some x2 ∧ w.heap.size + 2 ≤ (W.setCell ⟨w.heap.size + 1, o, none⟩ v).heap.size := by
  obtain ⟨h0, h1, h2, h3, h4⟩ := h
  have ne : ∀ i, (⟨w.heap.size + 1, o, none⟩ : Addr) ≠ ⟨w.heap.size, i, none⟩ := fun i e => by simp at e
  exact ⟨h0.setCell (by simp) _, by rw [World.cell?_setCell_other _ _ _ _ (ne _)]; exact h1, by rw [World.cell?_setCell_other _ _ _ _ (ne _)]; exact h2, by rw [World.cell?_setCell_other _ _ _ _ (ne _)]; exact h3, by simpa using h4⟩

end Go.Proofs.Ytomehhheiodagab
