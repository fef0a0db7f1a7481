/- Worlds in which but some blocks stand as they stood: plain lemmas. -/
import Derived.Test.YtikliofkplbdpaaRows
import Derived.WalkKit
import Derived.ProofKit
import Derived.OpenShut
import Derived.ShutString
import Derived.Test.YtikliofkplbdpaaOutMoves
import Derived.Test.YtikliofkplbdpaaMemFns
namespace Go.Proofs.Ytikliofkplbdpaa
open Go.ChangeShapes Go.WideShapes Go.ChangeAt Go.RowKit
set_option linter.unusedVariables false

structure Kp (bs : List Nat) (w w' : World) : Prop where
  os : w'.os = w.os
  tape : w'.tape = w.tape
  output : w'.output = w.output
  size : w.heap.size ≤ w'.heap.size
  block : ∀ k, k < w.heap.size → ¬ k ∈ bs → w'.heap[k]? = w.heap[k]?
theorem Kp.refl (bs : List Nat) (w : World) : Kp bs w w := ⟨rfl, rfl, rfl, Nat.le_refl _, fun _ _ _ => rfl⟩
theorem Kp.trans {bs : List Nat} {a b c : World} (h : Kp bs a b) (k : Kp bs b c) : Kp bs a c :=
  ⟨k.os.trans h.os, k.tape.trans h.tape, k.output.trans h.output, Nat.le_trans h.size k.size, fun x hx hn => (k.block x (Nat.lt_of_lt_of_le hx h.size) hn).trans (h.block x hx hn)⟩
theorem Kp.of_below {bs : List Nat} {w w' : World} (h : Below w.heap.size w w') : Kp bs w w' := ⟨h.os, h.tape, h.output, h.size, fun k hk _ => h.block k hk⟩
theorem Kp.drew {bs : List Nat} {w w' : World} (h : Kp bs w w') : Kp bs w w'.drew := ⟨h.os, h.tape, h.output, h.size, h.block⟩
theorem Kp.alloc {bs : List Nat} {w w' : World} (h : Kp bs w w') (o : Obj) : Kp bs w (w'.alloc o) :=
  ⟨h.os, h.tape, h.output, by have := h.size; simp; omega, fun k hk hn => (Below.heap_alloc _ _ _ (Nat.lt_of_lt_of_le hk h.size)).trans (h.block k hk hn)⟩
theorem Kp.setCell {bs : List Nat} {w w' : World} {b f : Nat} {v : Value} (h : Kp bs w w') (hb : b ∈ bs ∨ w.heap.size ≤ b) : Kp bs w (w'.setCell ⟨b, f, none⟩ v) :=
  ⟨h.os, h.tape, h.output, by have := h.size; simpa using this, fun k hk hn => (Below.heap_setCell _ _ _ _ (by
    show k ≠ b
    rcases hb with hb | hb
    · intro e; exact hn (e ▸ hb)
    · omega)).trans (h.block k hk hn)⟩
theorem Kp.cell {bs : List Nat} {w w' : World} (h : Kp bs w w') {b o : Nat} {x : Option Value} (hb : b < w.heap.size) (hn : ¬ b ∈ bs) (hx : w.cell? ⟨b, o, none⟩ = x) : w'.cell? ⟨b, o, none⟩ = x :=
  (World.cell?_of_block (a := ⟨b, o, none⟩) (h.block b hb hn)).trans hx
theorem Kp.frozen {bs : List Nat} {w w' : World} (h : Kp bs w w') {b o : Nat} {x : Bool} (hb : b < w.heap.size) (hn : ¬ b ∈ bs) (hx : w.frozen? ⟨b, o, none⟩ = x) : w'.frozen? ⟨b, o, none⟩ = x :=
  (World.frozen?_of_block (a := ⟨b, o, none⟩) (h.block b hb hn)).trans hx
theorem Kp.below {bs : List Nat} {w w' : World} {B : Nat} (h : Kp bs w w') (hB : B ≤ w.heap.size) (hb : ∀ k ∈ bs, B ≤ k) : Below B w w' :=
  ⟨h.os, h.tape, h.output, h.size, fun k hk => h.block k (by omega) (fun hm => by have := hb k hm; omega)⟩
theorem Kp.row {bs : List Nat} {w w' : World} {lo hi : Nat} {v : Value} {xs : List Value} (h : Kp bs w w') (r : Row w lo hi v xs) (hz : hi ≤ w.heap.size) (hb : ∀ k ∈ bs, k < lo ∨ hi ≤ k) : Row w' lo hi v xs := by
  obtain ⟨a, cap, hv, r⟩ := r
  refine ⟨a, cap, hv, ?_⟩
  rcases r with r | ⟨g, ha, h1, h2, h3, h4⟩
  · exact .inl r
  · have hg : ¬ g ∈ bs := fun hm => by have := hb g hm; omega
    exact .inr ⟨g, ha, h1, h2, fun j hj => h.cell (by omega) hg (h3 j hj), fun j => h.frozen (by omega) hg (h4 j)⟩
theorem Kp.own {bs : List Nat} {w w' : World} {base : Nat} {e : TypeId} {size : Nat} {g c : Nat} {n : Nat} {xs : List Value} (h : Kp bs w w') (o : w.ownsRow base e size (.slice (some ⟨g, 0, none⟩) n c) n xs) (hg : ¬ g ∈ bs) : w'.ownsRow base e size (.slice (some ⟨g, 0, none⟩) n c) n xs := by
  refine ⟨o.1, ?_⟩
  rcases o.2 with ⟨hn, -⟩ | ⟨g', cap, cur, hv, hbg, hgg, rest⟩
  · cases hn
  · simp at hv
    obtain ⟨rfl, rfl⟩ := hv
    exact .inr ⟨g, c, cur, rfl, hbg, by rw [h.block g (Array.getElem?_eq_some_iff.1 hgg).1 hg]; exact hgg, rest⟩
theorem Kp.of_grown {w w' : World} {g : Nat} (h : w.grownBy w' (some g)) : Kp [g] w w' :=
  ⟨h.os, h.tape, h.output, h.size, fun k hk hn => h.block k hk (fun e => hn (by simp at e; simp [e]))⟩
theorem Kp.more {bs cs : List Nat} {w w' : World} (h : Kp bs w w') (hs : ∀ k ∈ bs, k ∈ cs ∨ w.heap.size ≤ k) : Kp cs w w' :=
  ⟨h.os, h.tape, h.output, h.size, fun k hk hn => h.block k hk (fun hm => by
    rcases hs k hm with h | h
    · exact hn h
    · omega)⟩
theorem cells10 {w : World} {B : Nat} {x0 x1 x2 x3 x4 x5 x6 x7 x8 x9 y0 y1 y2 y3 y4 y5 y6 y7 y8 y9 : Value} (h : ∀ o, w.cell? ⟨B, o, none⟩ = #[y0, y1, y2, y3, y4, y5, y6, y7, y8, y9][o]?) : ∀ o, ((((((((((w.setCell ⟨B, 0, none⟩ x0).setCell ⟨B, 1, none⟩ x1).setCell ⟨B, 2, none⟩ x2).setCell ⟨B, 3, none⟩ x3).setCell ⟨B, 4, none⟩ x4).setCell ⟨B, 5, none⟩ x5).setCell ⟨B, 6, none⟩ x6).setCell ⟨B, 7, none⟩ x7).setCell ⟨B, 8, none⟩ x8).setCell ⟨B, 9, none⟩ x9).cell? ⟨B, o, none⟩ = #[x0, x1, x2, x3, x4, x5, x6, x7, x8, x9][o]? := by
  intro o
  rcases o with _ | _ | _ | _ | _ | _ | _ | _ | _ | _ | o
  all_goals simp [go_sem, h]

end Go.Proofs.Ytikliofkplbdpaa
