/- A row of the call's own in a variable of the law's: what is known of it, in whatever order the variable was made. -/
import Derived.Test.YtikliofkplbdpaaRows
import Derived.WalkKit
import Derived.ProofKit
import Derived.OpenShut
import Derived.ShutString
import Derived.Test.YtikliofkplbdpaaStPlain
import Derived.Test.YtikliofkplbdpaaIntRows
namespace Go.Proofs.Ytikliofkplbdpaa
open Go.ChangeShapes Go.WideShapes Go.ChangeAt Go.RowKit
set_option linter.unusedVariables false

def Got (w W : World) (L : List Int) (cs : List (Nat × Nat × Value)) (rs : List (Nat × Nat × Value × List Value)) (s : Value) (wc : World) : Prop :=
  ∃ n a k lo hi, s = .pointer (some ⟨n, 0, none⟩) ∧ W.heap.size ≤ n ∧ W.heap.size ≤ lo ∧ (n < lo ∨ hi ≤ n) ∧ n < wc.heap.size ∧ lo ≤ wc.heap.size ∧ W.heap.size ≤ wc.heap.size ∧ St w ((n, 0, .slice a L.length k) :: cs) ((lo, hi, .slice a L.length k, ints L) :: rs) wc
theorem got_last {w W w2 : World} {L : List Int} {cs : List (Nat × Nat × Value)} {rs : List (Nat × Nat × Value × List Value)} {a : Option Addr} {k lo : Nat} (T : TypeId) (h : St w cs rs W) (hb : Below W.heap.size W w2) (hlo : W.heap.size ≤ lo) (hl2 : lo ≤ w2.heap.size) (r : Row w2 lo w2.heap.size (.slice a L.length k) (ints L)) :
    Got w W L cs rs (.pointer (some ⟨w2.heap.size, 0, none⟩)) (w2.alloc (.cells #[.slice a L.length k] T)) :=
  ⟨w2.heap.size, a, k, lo, w2.heap.size, rfl, hb.size, hlo, .inr (Nat.le_refl _), by simp, by simp; omega, by have := hb.size; simp; omega, ((h.grow hb).row (Nat.le_refl _) r).box _ _⟩
theorem got_put {w W w2 : World} {L : List Int} {cs : List (Nat × Nat × Value)} {rs : List (Nat × Nat × Value × List Value)} {a : Option Addr} {k lo n : Nat} {u : Value} (h : St w cs rs W) (hb : Below W.heap.size W w2) (hlo : n < lo) (hl2 : lo ≤ w2.heap.size) (hn : W.heap.size ≤ n) (hc : w2.cell? ⟨n, 0, none⟩ = some u) (r : Row w2 lo w2.heap.size (.slice a L.length k) (ints L)) :
    Got w W L cs rs (.pointer (some ⟨n, 0, none⟩)) (w2.setCell ⟨n, 0, none⟩ (.slice a L.length k)) :=
  ⟨n, a, k, lo, w2.heap.size, rfl, hn, by omega, .inl hlo, by simp; omega, by simp; omega, by have := hb.size; simp; omega, ((h.grow hb).row (Nat.le_refl _) r).put hc (Nat.le_trans h.below.size hn) (fun b o v hm e => by have := (h.cells b o v hm).1; omega) (fun l q v xs hm => by
    rcases List.mem_cons.1 hm with e | hm
    · simp at e
      obtain ⟨rfl, rfl, -, -⟩ := e
      exact .inl hlo
    · have := (h.rows l q v xs hm).1
      exact .inr (by omega))⟩

end Go.Proofs.Ytikliofkplbdpaa
