/- A slice that the calls made: what its cells hold, and what keeps it. Plain lemmas on worlds. -/
import Derived.Test.YtikliofkplbdpaaRows
import Derived.WalkKit
import Derived.ProofKit
import Derived.OpenShut
import Derived.ShutString
import Derived.Test.YtikliofkplbdpaaCutPlain
namespace Go.Proofs.Ytikliofkplbdpaa
open Go.ChangeShapes Go.WideShapes Go.ChangeAt Go.RowKit
set_option linter.unusedVariables false

def Row (w : World) (lo hi : Nat) (v : Value) (xs : List Value) : Prop :=
  ∃ a cap, v = .slice a xs.length cap ∧ (xs = [] ∨ ∃ g, a = some ⟨g, 0, none⟩ ∧ lo ≤ g ∧ g < hi ∧ (∀ j (hj : j < xs.length), w.cell? ⟨g, j, none⟩ = some xs[j]) ∧ ∀ j, w.frozen? ⟨g, j, none⟩ = false)
theorem Row.of_owns {w : World} {base : Nat} {e : TypeId} {v : Value} {n : Nat} {xs : List Value} (h : w.ownsRow base e 1 v n xs) : Row w base w.heap.size v xs := by
  rcases own_cells h with ⟨rfl, hn, rfl⟩ | ⟨g, cap, rfl, h1, h2, h3, h4, h5, h6, h7⟩
  · exact ⟨none, 0, rfl, .inl rfl⟩
  · exact ⟨_, cap, by rw [h5], .inr ⟨g, rfl, h1, h2, h6, h7⟩⟩
theorem Row.below {w w' : World} {lo hi : Nat} {v : Value} {xs : List Value} (h : Row w lo hi v xs) (hb : Below hi w w') : Row w' lo hi v xs := by
  obtain ⟨a, cap, hv, h⟩ := h
  refine ⟨a, cap, hv, ?_⟩
  rcases h with h | ⟨g, ha, h1, h2, h3, h4⟩
  · exact .inl h
  · exact .inr ⟨g, ha, h1, h2, fun j hj => (hb.cell (p := ⟨g, j, none⟩) h2).trans (h3 j hj), fun j => (hb.frozen (p := ⟨g, j, none⟩) h2).trans (h4 j)⟩
theorem Row.up {w : World} {lo hi hi' : Nat} {v : Value} {xs : List Value} (h : Row w lo hi v xs) (hb : hi ≤ hi') : Row w lo hi' v xs := by
  obtain ⟨a, cap, hv, h⟩ := h
  refine ⟨a, cap, hv, ?_⟩
  rcases h with h | ⟨g, ha, h1, h2, h3⟩
  · exact .inl h
  · exact .inr ⟨g, ha, h1, by omega, h3⟩
theorem Row.drewN {w : World} {lo hi : Nat} {v : Value} {xs : List Value} (h : Row w lo hi v xs) (n : Nat) : Row (w.drewN n) lo hi v xs :=
  h.below (below_drewN (Below.refl _ _) n)

end Go.Proofs.Ytikliofkplbdpaa
