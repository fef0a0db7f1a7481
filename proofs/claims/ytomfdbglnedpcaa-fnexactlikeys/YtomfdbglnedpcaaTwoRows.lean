/- Two rows of numbers that a call owns and appends to: what keeps them, and that they are not one. Plain lemmas on worlds. -/
import Derived.Test.YtomfdbglnedpcaaRows
import Derived.WalkKit
import Derived.ProofKit
import Derived.OpenShut
import Derived.ShutString
import Derived.Test.YtomfdbglnedpcaaCellRow
import Derived.Test.YtomfdbglnedpcaaStItemsPlain
import Derived.Test.YtomfdbglnedpcaaLiPlain
import Derived.Deep.AppendLies
namespace Go.Proofs.Ytomfdbglnedpcaa
open Go.ChangeShapes Go.WideShapes Go.ChangeAt Go.RowKit
set_option linter.unusedVariables false

structure Two (w W : World) (X u v : Value) (out seen : List Int) : Prop where
  below : Below w.heap.size w W
  more : w.heap.size < W.heap.size
  mem : W.cell? ⟨w.heap.size, 0, none⟩ = some X
  own1 : W.ownsRow (w.heap.size + 1) 3 1 u out.length (ints out)
  own2 : W.ownsRow (w.heap.size + 1) 3 1 v seen.length (ints seen)
  apart : ∀ g, u.ownBlock = some g → v.ownBlock = some g → False
theorem Two.grow {w W W' : World} {X u v : Value} {out seen : List Int} (h : Two w W X u v out seen) (b : Below W.heap.size W W') : Two w W' X u v out seen :=
  ⟨h.below.trans (b.mono h.below.size), Nat.lt_of_lt_of_le h.more b.size, below_cell b h.more h.mem, own_below h.own1 b, own_below h.own2 b, h.apart⟩
theorem Two.alloc {w W : World} {X u v : Value} {out seen : List Int} (h : Two w W X u v out seen) (o : Obj) : Two w (W.alloc o) X u v out seen := h.grow ((Below.refl _ _).alloc (Nat.le_refl _) _)
theorem ints_snoc (xs : List Int) (y : Int) : ints (xs ++ [y]) = ints xs ++ [.int .i64 y] := by simp
theorem Two.grown {w W W' : World} {X u v : Value} {out seen : List Int} (h : Two w W X u v out seen) {r : Option Nat} (hg : W.grownBy W' r) (hr : ∀ k, r = some k → w.heap.size + 1 ≤ k) :
    Below w.heap.size w W' ∧ w.heap.size < W'.heap.size ∧ W'.cell? ⟨w.heap.size, 0, none⟩ = some X := by
  refine ⟨h.below.grown hg h.below.size (fun k hk => by have := hr k hk; omega), Nat.lt_of_lt_of_le h.more hg.size, ?_⟩
  rw [hg.cell_far ⟨w.heap.size, 0, none⟩ h.more (fun e => absurd (hr _ e.symm) (by show ¬ (w.heap.size + 1 ≤ w.heap.size); omega))]
  exact h.mem
theorem Two.app2 {w W W' : World} {X u v : Value} {out seen : List Int} {y : Int} {g cap : Nat} (h : Two w W X u v out seen)
    (ho : W'.ownsRow (w.heap.size + 1) 3 1 (.slice (some ⟨g, 0, none⟩) (seen.length + 1) cap) (seen.length + 1) (ints seen ++ [.int .i64 y])) (hg : W.grownBy W' v.ownBlock) (hat : v.ownBlock = some g ∨ g = W.heap.size) :
    Two w W' X u (.slice (some ⟨g, 0, none⟩) (seen.length + 1) cap) out (seen ++ [y]) := by
  obtain ⟨b, m, c⟩ := h.grown hg (fun k hk => (h.own2.lt k hk).1)
  refine ⟨b, m, c, h.own1.kept hg ?_, by rw [ints_snoc]; simpa using ho, ?_⟩
  · cases hu : u.ownBlock with
    | none => exact .inl rfl
    | some k => exact .inr fun e => h.apart k hu e.symm
  · intro k hk hk2
    simp [Value.ownBlock] at hk2
    subst hk2
    rcases hat with hat | hat
    · exact h.apart g hk hat
    · have := (h.own1.lt g hk).2; omega
theorem Two.app1 {w W W' : World} {X u v : Value} {out seen : List Int} {y : Int} {g cap : Nat} (h : Two w W X u v out seen)
    (ho : W'.ownsRow (w.heap.size + 1) 3 1 (.slice (some ⟨g, 0, none⟩) (out.length + 1) cap) (out.length + 1) (ints out ++ [.int .i64 y])) (hg : W.grownBy W' u.ownBlock) (hat : u.ownBlock = some g ∨ g = W.heap.size) :
    Two w W' X (.slice (some ⟨g, 0, none⟩) (out.length + 1) cap) v (out ++ [y]) seen := by
  obtain ⟨b, m, c⟩ := h.grown hg (fun k hk => (h.own1.lt k hk).1)
  refine ⟨b, m, c, by rw [ints_snoc]; simpa using ho, h.own2.kept hg ?_, ?_⟩
  · cases hv : v.ownBlock with
    | none => exact .inl rfl
    | some k => exact .inr fun e => h.apart k e.symm hv
  · intro k hk hk2
    simp [Value.ownBlock] at hk
    subst hk
    rcases hat with hat | hat
    · exact h.apart g hat hk2
    · have := (h.own2.lt g hk2).2; omega
/- what a loop over the links of a list knows: the link x, the keys so far, the nodes seen, the fuel -/
def KInv (w : World) (X : Value) (N : Nat) (xs R : List Int) (u v i : Value) (wr : World) : Prop :=
  ∃ (x : Int) (out seen : List Int) (f : Nat), i = .int .i64 x ∧ -9223372036854775808 ≤ x ∧ x ≤ 9223372036854775807 ∧ seen.length + f = N + 1 ∧ 1 ≤ f ∧ out.length ≤ seen.length ∧ Two w wr X u v out seen ∧ R = liGo xs N f x seen out ∧ seen.Nodup ∧ ∀ y ∈ seen, 0 ≤ y ∧ y < (N : Int)
theorem KInv.mk {w : World} {X : Value} {N : Nat} {xs R : List Int} {u v : Value} {wr : World} (x : Int) (out seen : List Int) (f : Nat) (x1 : -9223372036854775808 ≤ x) (x2 : x ≤ 9223372036854775807) (hf : seen.length + f = N + 1) (hf1 : 1 ≤ f) (ho : out.length ≤ seen.length) (T : Two w wr X u v out seen) (hR : R = liGo xs N f x seen out) (hn : seen.Nodup ∧ ∀ y ∈ seen, 0 ≤ y ∧ y < (N : Int)) : KInv w X N xs R u v (.int .i64 x) wr :=
  ⟨x, out, seen, f, rfl, x1, x2, hf, hf1, ho, T, hR, hn⟩

end Go.Proofs.Ytomfdbglnedpcaa
