/- Worlds that differ between two block numbers alone: plain lemmas. -/
import Derived.Test.YtikliofkplbdpaaRows
import Derived.WalkKit
import Derived.ProofKit
import Derived.OpenShut
import Derived.ShutString
import Derived.Test.YtikliofkplbdpaaSliceRow
import Derived.Test.YtikliofkplbdpaaBasePlain
namespace Go.Proofs.Ytikliofkplbdpaa
open Go.ChangeShapes Go.WideShapes Go.ChangeAt Go.RowKit
set_option linter.unusedVariables false

structure Out (lo hi : Nat) (w w' : World) : Prop where
  os : w'.os = w.os
  tape : w'.tape = w.tape
  output : w'.output = w.output
  size : w.heap.size ≤ w'.heap.size
  block : ∀ k, k < w.heap.size → (k < lo ∨ hi ≤ k) → w'.heap[k]? = w.heap[k]?
theorem Out.refl (lo hi : Nat) (w : World) : Out lo hi w w := ⟨rfl, rfl, rfl, Nat.le_refl _, fun _ _ _ => rfl⟩
theorem Out.of_below {lo hi : Nat} {w w' : World} (h : Below w.heap.size w w') : Out lo hi w w' := ⟨h.os, h.tape, h.output, h.size, fun k hk _ => h.block k hk⟩
theorem Out.of_grown {lo hi g : Nat} {w w' : World} (h : w.grownBy w' (some g)) (h1 : lo ≤ g) (h2 : g < hi) : Out lo hi w w' :=
  ⟨h.os, h.tape, h.output, h.size, fun k hk hn => h.block k hk (fun e => by simp at e; omega)⟩
theorem Out.trans {lo hi : Nat} {a b c : World} (h : Out lo hi a b) (k : Out lo hi b c) : Out lo hi a c :=
  ⟨k.os.trans h.os, k.tape.trans h.tape, k.output.trans h.output, Nat.le_trans h.size k.size, fun x hx hn => (k.block x (Nat.lt_of_lt_of_le hx h.size) hn).trans (h.block x hx hn)⟩
theorem Out.cell {lo hi : Nat} {w w' : World} (h : Out lo hi w w') {b o : Nat} {x : Option Value} (hb : b < w.heap.size) (hn : b < lo ∨ hi ≤ b) (hx : w.cell? ⟨b, o, none⟩ = x) : w'.cell? ⟨b, o, none⟩ = x :=
  (World.cell?_of_block (a := ⟨b, o, none⟩) (h.block b hb hn)).trans hx
theorem Out.frozen {lo hi : Nat} {w w' : World} (h : Out lo hi w w') {b o : Nat} {x : Bool} (hb : b < w.heap.size) (hn : b < lo ∨ hi ≤ b) (hx : w.frozen? ⟨b, o, none⟩ = x) : w'.frozen? ⟨b, o, none⟩ = x :=
  (World.frozen?_of_block (a := ⟨b, o, none⟩) (h.block b hb hn)).trans hx
theorem Out.below {lo hi B : Nat} {w w' : World} (h : Out lo hi w w') (h1 : B ≤ lo) (h2 : B ≤ w.heap.size) : Below B w w' := ⟨h.os, h.tape, h.output, h.size, fun k hk => h.block k (by omega) (by omega)⟩
theorem Row.out {w w' : World} {lo hi l2 h2 : Nat} {v : Value} {xs : List Value} (r : Row w l2 h2 v xs) (h : Out lo hi w w') (hz : h2 ≤ w.heap.size) (hn : h2 ≤ lo ∨ hi ≤ l2) : Row w' l2 h2 v xs := by
  obtain ⟨a, cap, hv, r⟩ := r
  refine ⟨a, cap, hv, ?_⟩
  rcases r with r | ⟨g, ha, h1, h2', h3, h4⟩
  · exact .inl r
  · exact .inr ⟨g, ha, h1, h2', fun j hj => h.cell (by omega) (by omega) (h3 j hj), fun j => h.frozen (by omega) (by omega) (h4 j)⟩
theorem grown_set {w wr : World} {g : Nat} (h : w.grownBy wr (some g)) (j : Nat) (v : Value) : w.grownBy (wr.setCell ⟨g, j, none⟩ v) (some g) :=
  ⟨h.os, h.tape, h.output, by have := h.size; simpa using this, fun k hk hn => (Below.heap_setCell _ _ _ _ (fun e => hn (by simp [e]))).trans (h.block k hk hn)⟩

end Go.Proofs.Ytikliofkplbdpaa
