/- Rows of cells as structs (Mem) and acts: copied, held against one another, marked, looked at again. -/
import Derived.Test.YtikliofkplbdpaaRows
import Derived.WalkKit
import Derived.ProofKit
import Derived.OpenShut
import Derived.ShutString
import Derived.Test.YtikliofkplbdpaaIntCopy
import Derived.Test.YtikliofkplbdpaaBasePlain
namespace Go.Proofs.Ytikliofkplbdpaa
open Go.ChangeShapes Go.WideShapes Go.ChangeAt Go.RowKit
set_option linter.unusedVariables false

theorem Row.set_below {w : World} {lo hi : Nat} {v : Value} {xs : List Value} (h : Row w lo hi v xs) (p : Addr) (x : Value) (hp : p.block < lo) : Row (w.setCell p x) lo hi v xs := by
  obtain ⟨a, cap, hv, h⟩ := h
  refine ⟨a, cap, hv, ?_⟩
  rcases h with h | ⟨g, ha, h1, h2, h3, h4⟩
  · exact .inl h
  · exact .inr ⟨g, ha, h1, h2, fun j hj => by rw [World.cell?_setCell_other _ _ _ _ (by intro e; rw [e] at hp; simp at hp; omega)]; exact h3 j hj, fun j => by rw [World.frozen?_setCell]; exact h4 j⟩
theorem Row.lo {w : World} {lo lo' hi : Nat} {v : Value} {xs : List Value} (h : Row w lo hi v xs) (hb : lo' ≤ lo) : Row w lo' hi v xs := by
  obtain ⟨a, cap, hv, h⟩ := h
  refine ⟨a, cap, hv, ?_⟩
  rcases h with h | ⟨g, ha, h1, h2, h3⟩
  · exact .inl h
  · exact .inr ⟨g, ha, by omega, h2, h3⟩
theorem Row.alloc {w : World} {lo hi : Nat} {v : Value} {xs : List Value} (h : Row w lo hi v xs) (hh : hi ≤ w.heap.size) (o : Obj) : Row (w.alloc o) lo hi v xs :=
  h.below ((Below.refl _ _).alloc hh o)

theorem Row.form {w : World} {lo hi : Nat} {v : Value} {xs : List Int} (h : Row w lo hi v (ints xs)) : ∃ a c, v = .slice a xs.length c := by
  obtain ⟨a, c, rfl, _⟩ := h
  exact ⟨a, c, by rw [ints_len]⟩
theorem Row.mform {w : World} {lo hi : Nat} {v : Value} {k0 n : Nat} (h : Row w lo hi v (imarks k0 n)) : ∃ a c, v = .slice a n c := by
  obtain ⟨a, c, rfl, _⟩ := h
  exact ⟨a, c, by rw [imarks_len]⟩

end Go.Proofs.Ytikliofkplbdpaa
