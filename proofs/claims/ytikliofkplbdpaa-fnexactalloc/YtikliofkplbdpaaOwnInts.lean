/- A row of integers that is owned, as an answer: plain. -/
import Derived.Test.YtikliofkplbdpaaRows
import Derived.WalkKit
import Derived.ProofKit
import Derived.OpenShut
import Derived.ShutString
import Derived.Test.YtikliofkplbdpaaThCopy
namespace Go.Proofs.Ytikliofkplbdpaa
open Go.ChangeShapes Go.WideShapes Go.ChangeAt Go.RowKit
set_option linter.unusedVariables false

theorem ints_of_owns {w w' : World} {base : Nat} {e : TypeId} {v : Value} {n : Nat} {xs : List Int} (h : w'.ownsRow base e 1 v n (ints xs)) (hb : w.heap.size ≤ base) (hw : Below w.heap.size w w') : IntsNew w w' v xs := by
  rcases own_cells h with ⟨rfl, hn, hx⟩ | ⟨g, cap, rfl, h1, h2, h3, h4, h5, h6, h7⟩
  · have : xs = [] := by simpa using hx
    subst this
    exact ⟨[], ⟨none, 0, rfl, trivial, .inl ⟨rfl, rfl⟩⟩, List.nodup_nil, by simp, hw⟩
  · rw [ints_len] at h5
    refine ⟨[g], ⟨_, cap, by rw [h5], trivial, .inr ⟨g, rfl, rfl, h2, fun j hj => ?_, h7⟩⟩, by simp, by simp; omega, hw⟩
    rw [h6 j (by simpa using hj)]
    simp

end Go.Proofs.Ytikliofkplbdpaa
