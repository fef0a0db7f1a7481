/- Rows of cells as structs (Mem) and acts: copied, held against one another, marked, looked at again. -/
import Derived.Test.YtpfofjcfaelocaaRows
import Derived.WalkKit
import Derived.ProofKit
import Derived.OpenShut
import Derived.ShutString
import Derived.Test.YtpfofjcfaelocaaIntCopy
import Derived.Test.YtpfofjcfaelocaaBasePlain
namespace Go.Proofs.Ytpfofjcfaelocaa
open Go.ChangeShapes Go.WideShapes Go.ChangeAt Go.RowKit
set_option linter.unusedVariables false

theorem Row.set_below {w : World} {lo hi : Nat} {v : Value} {xs : List Value} (h : Row w lo hi v xs) (p : Addr) (x : Value) (hp : p.block < lo) : Row (w.setCell p x) lo hi v xs := by
  obtain ⟨a, cap, hv, h⟩ := h
  refine ⟨a, cap, hv, ?_⟩
  rcases h with h | ⟨g, ha, h1, h2, h3, h4⟩
  · exact .inl h
  · exact .inr ⟨g, ha, h1, h2, fun j hj => by rw [World.cell?_setCell_other _ _ _ _ (by intro e; rw [e] at hp; simp at hp; omega)]; exact h3 j hj, fun j => by rw [World.frozen?_setCell]; exact h4 j⟩
theorem Row.lo {w : World} {lo lo' hi : Nat} {v : Value} {xs : List Value} (h : Row w lo hi v xs) (hb : lo' ≤ lo) : Row w lo' hi v xs := by
  obtain ⟨a, cap, hv, h⟩ := h
  refine ⟨a, cap, hv, ?_⟩
  rcases h with h | ⟨g, ha, h1, h2, h3⟩
  · exact .inl h
  · exact .inr ⟨g, ha, by omega, h2, h3⟩
theorem Row.alloc {w : World} {lo hi : Nat} {v : Value} {xs : List Value} (h : Row w lo hi v xs) (hh : hi ≤ w.heap.size) (o : Obj) : Row (w.alloc o) lo hi v xs :=
  h.below ((Below.refl _ _).alloc hh o)

theorem Row.form {w : World} {lo hi : Nat} {v : Value} {xs : List Int} (h : Row w lo hi v (ints xs)) : ∃ a c, v = .slice a xs.length c := by
  obtain ⟨a, c, rfl, _⟩ := h
  exact ⟨a, c, by rw [ints_len]⟩
theorem Row.mform {w : World} {lo hi : Nat} {v : Value} {k0 n : Nat} (h : Row w lo hi v (imarks k0 n)) : ∃ a c, v = .slice a n c := by
  obtain ⟨a, c, rfl, _⟩ := h
  exact ⟨a, c, by rw [imarks_len]⟩

theorem eq_mem (w : World) (l1 h1 l2 h2 : Nat) (v1 v2 : Value) (ps : List Int) (hn : ps.length ≤ 4194304) (e1 : h1 ≤ w.heap.size) (e2 : h2 ≤ w.heap.size) (r1 : Row w l1 h1 v1 (ints ps)) (r2 : Row w l2 h2 v2 (ints ps)) :
    Calls Try.prog 19 #[.agg #[v1], .agg #[v2]] w fun e w' => e = .returned (.bool true) ∧ Below w.heap.size w w' := by
  have R1 : Hid (Row w l1 h1 v1 (ints ps)) := r1
  have R2 : Hid (Row w l2 h2 v2 (ints ps)) := r2
  obtain ⟨a, c, rfl⟩ := r1.form
  obtain ⟨b, d, rfl⟩ := r2.form
  clear r1 r2
  go_enter Try.func19, Try.ntmps19
  go_wp2_with fail
  refine (eq_int _ l1 h1 l2 h2 _ _ ps hn ((R1.out.alloc e1 _).alloc (by simp; omega) _) ((R2.out.alloc e2 _).alloc (by simp; omega) _)).mono ?_
  rintro e w1 ⟨rfl, n1, rfl⟩
  go_wp2
  go_ret
  exact ⟨rfl, below_drewN (((Below.refl _ _).alloc (Nat.le_refl _) _).alloc (by simp) _) n1⟩

theorem mark_mem (w : World) (lo hi : Nat) (v : Value) (ps : List Int) (k0 : Nat) (hn : ps.length ≤ 4194304) (h2 : k0 ≤ 4194304) (hh : hi ≤ w.heap.size) (r : Row w lo hi v (ints ps)) :
    Calls Try.prog 23 #[.agg #[v], .int .i64 k0] w fun e w' => e = .returned (.int .i64 ((k0 + ps.length : Nat) : Int)) ∧ Row w' lo hi v (imarks k0 ps.length) ∧ Out lo hi w w' := by
  have R : Hid (Row w lo hi v (ints ps)) := r
  obtain ⟨a, c, rfl⟩ := r.form
  clear r
  go_enter Try.func23, Try.ntmps23
  go_wp2_with fail
  refine (mark_int _ lo hi _ ps k0 hn h2 (by simp; omega) (R.out.alloc hh _)).mono ?_
  rintro e w1 ⟨rfl, r1, b1⟩
  go_wp2
  go_ret
  exact ⟨rfl, r1, (Out.of_below ((Below.refl _ _).alloc (Nat.le_refl _) _)).trans b1⟩

theorem held_mem (w : World) (lo hi : Nat) (v : Value) (n k0 : Nat) (hn : n ≤ 4194304) (h2 : k0 ≤ 4194304) (hh : hi ≤ w.heap.size) (r : Row w lo hi v (imarks k0 n)) :
    Calls Try.prog 24 #[.agg #[v], .int .i64 k0] w fun e w' => e = .returned (.int .i64 ((k0 + n : Nat) : Int)) ∧ Below w.heap.size w w' := by
  have R : Hid (Row w lo hi v (imarks k0 n)) := r
  obtain ⟨a, c, rfl⟩ := r.mform
  clear r
  go_enter Try.func24, Try.ntmps24
  go_wp2_with fail
  refine (held_int _ lo hi _ n k0 hn h2 (R.out.alloc hh _)).mono ?_
  rintro e w1 ⟨rfl, rfl⟩
  go_wp2
  go_ret
  exact ⟨rfl, (Below.refl _ _).alloc (Nat.le_refl _) _⟩

end Go.Proofs.Ytpfofjcfaelocaa
