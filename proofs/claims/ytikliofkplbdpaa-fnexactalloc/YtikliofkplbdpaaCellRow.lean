/- Rows of cells: one cell put anew; the model's copy. -/
import Derived.Test.YtikliofkplbdpaaRows
import Derived.WalkKit
import Derived.ProofKit
import Derived.OpenShut
import Derived.ShutString
import Derived.Test.YtikliofkplbdpaaMemFns
namespace Go.Proofs.Ytikliofkplbdpaa
open Go.ChangeShapes Go.WideShapes Go.ChangeAt Go.RowKit
set_option linter.unusedVariables false

theorem Row.ofSome {w : World} {lo hi : Nat} {v : Value} {xs : List Int} (h : Row w lo hi v (ints xs)) (h0 : 0 < xs.length) :
    ∃ g c, v = .slice (some ⟨g, 0, none⟩) xs.length c ∧ lo ≤ g ∧ g < hi ∧ (∀ j (hj : j < xs.length), w.cell? ⟨g, j, none⟩ = some (.int .i64 xs[j])) ∧ ∀ j, w.frozen? ⟨g, j, none⟩ = false := by
  obtain ⟨a, c, rfl, q⟩ := h
  rcases q with q | ⟨g, rfl, h1, h2, h3, h4⟩
  · have : xs = [] := by simpa using q
    subst this; simp at h0
  · exact ⟨g, c, by rw [ints_len], h1, h2, fun j hj => by have := h3 j (by simpa using hj); rw [List.getElem_map] at this; exact this, h4⟩
theorem Row.ofCells {w : World} {lo hi g c : Nat} {xs : List Int} (h1 : lo ≤ g) (h2 : g < hi) (h3 : ∀ j (hj : j < xs.length), w.cell? ⟨g, j, none⟩ = some (.int .i64 xs[j])) (h4 : ∀ j, w.frozen? ⟨g, j, none⟩ = false) :
    Row w lo hi (.slice (some ⟨g, 0, none⟩) xs.length c) (ints xs) :=
  ⟨_, c, by rw [ints_len], .inr ⟨g, rfl, h1, h2, fun j hj => by rw [List.getElem_map]; exact h3 j (by simpa using hj), h4⟩⟩
theorem Row.put {w : World} {lo hi g n c : Nat} {xs : List Int} (h : Row w lo hi (.slice (some ⟨g, 0, none⟩) n c) (ints xs)) (i : Nat) (hi' : i < xs.length) (y : Int) :
    Row (w.setCell ⟨g, i, none⟩ (.int .i64 y)) lo hi (.slice (some ⟨g, 0, none⟩) n c) (ints (xs.set i y)) := by
  obtain ⟨g', c', e, h1, h2, h3, h4⟩ := h.ofSome (by omega)
  simp at e
  obtain ⟨rfl, rfl, rfl⟩ := e
  have := Row.ofCells (w := w.setCell ⟨g, i, none⟩ (.int .i64 y)) (c := c) (xs := xs.set i y) h1 h2 (fun j hj => by
    by_cases ej : j = i
    · subst ej
      rw [World.cell?_setCell_same _ _ _ (h3 j hi')]; simp
    · rw [World.cell?_setCell_other _ _ _ _ (by simp <;> omega), h3 j (by simpa using hj), List.getElem_set_ne (by omega)]) (fun j => by rw [World.frozen?_setCell]; exact h4 j)
  rwa [List.length_set] at this

end Go.Proofs.Ytikliofkplbdpaa
