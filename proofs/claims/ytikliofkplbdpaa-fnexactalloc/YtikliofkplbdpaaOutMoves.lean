/- Worlds that differ between two block numbers alone: draws, stores, new blocks. -/
import Derived.Test.YtikliofkplbdpaaRows
import Derived.WalkKit
import Derived.ProofKit
import Derived.OpenShut
import Derived.ShutString
import Derived.Test.YtikliofkplbdpaaOutPlain
namespace Go.Proofs.Ytikliofkplbdpaa
open Go.ChangeShapes Go.WideShapes Go.ChangeAt Go.RowKit
set_option linter.unusedVariables false

theorem Out.drew {lo hi : Nat} {w w' : World} (h : Out lo hi w w') : Out lo hi w w'.drew := ⟨h.os, h.tape, h.output, h.size, h.block⟩
theorem Out.setCell {lo hi : Nat} {w w' : World} {p : Addr} {v : Value} (h : Out lo hi w w') (h1 : lo ≤ p.block) (h2 : p.block < hi) : Out lo hi w (w'.setCell p v) :=
  ⟨h.os, h.tape, h.output, by have := h.size; simpa using this, fun k hk hn => (Below.heap_setCell _ _ _ _ (by omega)).trans (h.block k hk hn)⟩
theorem Out.alloc {lo hi : Nat} {w w' : World} (h : Out lo hi w w') (o : Obj) : Out lo hi w (w'.alloc o) :=
  ⟨h.os, h.tape, h.output, by have := h.size; simp; omega, fun k hk hn => (Below.heap_alloc _ _ _ (Nat.lt_of_lt_of_le hk h.size)).trans (h.block k hk hn)⟩
theorem step_row {w w' : World} {lo hi l2 B : Nat} {v : Value} {xs : List Value} (r : Row w l2 w.heap.size v xs) (h : Out lo hi w w') (hl : hi ≤ l2) (hB : B ≤ l2) : Row w' B w'.heap.size v xs := by
  obtain ⟨a, cap, hv, r⟩ := (r.out h (Nat.le_refl _) (.inr hl)).up h.size
  refine ⟨a, cap, hv, ?_⟩
  rcases r with r | ⟨g, ha, h1, h2, h3⟩
  · exact .inl r
  · exact .inr ⟨g, ha, by omega, h2, h3⟩

theorem first_out {lo hi : Nat} {w W W' : World} (h : Out lo hi w W) (b : Below W.heap.size W W') : Out lo hi w W' := h.trans (Out.of_below b)

end Go.Proofs.Ytikliofkplbdpaa
