/- What a law's walk over facts knows: plain lemmas. -/
import Derived.Test.YtmifnemjihffkaaRows
import Derived.WalkKit
import Derived.ProofKit
import Derived.OpenShut
import Derived.ShutString
import Derived.Test.YtmifnemjihffkaaFactRows
import Derived.Test.YtmifnemjihffkaaCwLaw
namespace Go.Proofs.Ytmifnemjihffkaa
open Go.ChangeShapes Go.WideShapes Go.ChangeAt Go.RowKit
set_option linter.unusedVariables false

theorem Sv.box8 {w W : World} {cs : List (Nat × Nat × Value)} {rs : List (Nat × Nat × (World → Prop))} (h : Sv w cs rs W) (x0 x1 x2 x3 x4 x5 x6 x7 : Value) (T : TypeId) : Sv w ((W.heap.size, 0, x0) :: (W.heap.size, 1, x1) :: (W.heap.size, 2, x2) :: (W.heap.size, 3, x3) :: (W.heap.size, 4, x4) :: (W.heap.size, 5, x5) :: (W.heap.size, 6, x6) :: (W.heap.size, 7, x7) :: cs) rs (W.alloc (.cells #[x0, x1, x2, x3, x4, x5, x6, x7] T)) :=
  ((((((((h.alloc _).cell (by simp) (by simp)).cell (by simp) (by simp)).cell (by simp) (by simp)).cell (by simp) (by simp)).cell (by simp) (by simp)).cell (by simp) (by simp)).cell (by simp) (by simp)).cell (by simp) (by simp)
/- a row of integers that a region's calls have made, in whatever order -/
def GotInts (w : World) (cs : List (Nat × Nat × Value)) (rs : List (Nat × Nat × (World → Prop))) (lo : Nat) (L : List Int) (x : Value) (wc : World) : Prop :=
  ∃ a k fp, x = .slice a L.length k ∧ Sv w cs rs wc ∧ IntsO wc x L fp ∧ Within lo wc.heap.size fp ∧ lo ≤ wc.heap.size
theorem gotInts_of {w wc wX : World} {cs : List (Nat × Nat × Value)} {rs : List (Nat × Nat × (World → Prop))} {lo k : Nat} {L : List Int} {a : Option Addr} {fp : List Nat} (s : Sv w cs rs wc) (o : IntsO wc (.slice a L.length k) L fp) (g : ∀ x ∈ fp, wX.heap.size ≤ x) (h : lo ≤ wX.heap.size) (hb : Below wX.heap.size wX wc) : GotInts w cs rs lo L (.slice a L.length k) wc :=
  ⟨a, k, fp, rfl, s, o, fun x hx => ⟨Nat.le_trans h (g x hx), o.lt x hx⟩, Nat.le_trans h hb.size⟩

end Go.Proofs.Ytmifnemjihffkaa
