/- Rows of cells as structs (Mem) and acts: copied, held against one another, marked, looked at again. -/
import Derived.Test.YtmifnemjihffkaaRows
import Derived.WalkKit
import Derived.ProofKit
import Derived.OpenShut
import Derived.ShutString
import Derived.Test.YtmifnemjihffkaaIntCopy
import Derived.Test.YtmifnemjihffkaaBasePlain
namespace Go.Proofs.Ytmifnemjihffkaa
open Go.ChangeShapes Go.WideShapes Go.ChangeAt Go.RowKit
set_option linter.unusedVariables false

theorem sz_mem (a : Option Addr) (n c : Nat) (l : Int) (w : World) (hn : n ≤ 9223372036854775807) (h1 : 0 ≤ l) (h2 : l ≤ 4194304) :
    Calls Try.prog 32 #[.agg #[.slice a n c], .int .i64 l] w fun e w' => e = .returned (.int .i64 (if l < n then -1 else l - n)) ∧ Below w.heap.size w w' := by
  by_cases h : l < n
  · rw [if_pos h]
    go_enter Try.func32, Try.ntmps32
    go_wp2_with (go_at_call 54; refine (sz_int a n c l _ hn h1 h2).mono ?_; rintro e w' ⟨rfl, rfl⟩; rw [if_pos h])
    go_ret
    exact ⟨rfl, (Below.refl _ _).alloc (Nat.le_refl _) _⟩
  · rw [if_neg h]
    go_enter Try.func32, Try.ntmps32
    go_wp2_with (go_at_call 54; refine (sz_int a n c l _ hn h1 h2).mono ?_; rintro e w' ⟨rfl, rfl⟩; rw [if_neg h])
    go_ret
    exact ⟨rfl, (Below.refl _ _).alloc (Nat.le_refl _) _⟩

theorem Row.set_below {w : World} {lo hi : Nat} {v : Value} {xs : List Value} (h : Row w lo hi v xs) (p : Addr) (x : Value) (hp : p.block < lo) : Row (w.setCell p x) lo hi v xs := by
  obtain ⟨a, cap, hv, h⟩ := h
  refine ⟨a, cap, hv, ?_⟩
  rcases h with h | ⟨g, ha, h1, h2, h3, h4⟩
  · exact .inl h
  · exact .inr ⟨g, ha, h1, h2, fun j hj => by rw [World.cell?_setCell_other _ _ _ _ (by intro e; rw [e] at hp; simp at hp; omega)]; exact h3 j hj, fun j => by rw [World.frozen?_setCell]; exact h4 j⟩
theorem Row.lo {w : World} {lo lo' hi : Nat} {v : Value} {xs : List Value} (h : Row w lo hi v xs) (hb : lo' ≤ lo) : Row w lo' hi v xs := by
  obtain ⟨a, cap, hv, h⟩ := h
  refine ⟨a, cap, hv, ?_⟩
  rcases h with h | ⟨g, ha, h1, h2, h3⟩
  · exact .inl h
  · exact .inr ⟨g, ha, by omega, h2, h3⟩
theorem Row.alloc {w : World} {lo hi : Nat} {v : Value} {xs : List Value} (h : Row w lo hi v xs) (hh : hi ≤ w.heap.size) (o : Obj) : Row (w.alloc o) lo hi v xs :=
  h.below ((Below.refl _ _).alloc hh o)

theorem Row.form {w : World} {lo hi : Nat} {v : Value} {xs : List Int} (h : Row w lo hi v (ints xs)) : ∃ a c, v = .slice a xs.length c := by
  obtain ⟨a, c, rfl, _⟩ := h
  exact ⟨a, c, by rw [ints_len]⟩
theorem Row.mform {w : World} {lo hi : Nat} {v : Value} {k0 n : Nat} (h : Row w lo hi v (imarks k0 n)) : ∃ a c, v = .slice a n c := by
  obtain ⟨a, c, rfl, _⟩ := h
  exact ⟨a, c, by rw [imarks_len]⟩

set_option maxRecDepth 100000 in
theorem to_mem (w : World) (v : Value) (xs : List Int) (hn : xs.length ≤ 4194304) (h : InRow w v xs) :
    Calls Try.prog 34 #[.agg #[v]] w fun e w' => ∃ v', e = .returned (.agg #[v']) ∧ Row w' w.heap.size w'.heap.size v' (ints xs) ∧ Below w.heap.size w w' := by
  have H : Hid (InRow w v xs) := h
  obtain ⟨a, cap, rfl, -⟩ := h
  go_enter Try.func34, Try.ntmps34
  go_wp2_with fail
  refine (to_int _ _ xs hn (InRow.below H.out ((((Below.refl w.heap.size w).alloc (Nat.le_refl _) _).alloc (by simp) _).alloc (by simp <;> omega) _))).mono ?_
  rintro e w1 ⟨v', rfl, r1, b1⟩
  have R1 : Hid (Row w1 _ _ v' (ints xs)) := r1
  obtain ⟨a', c', rfl⟩ := r1.form
  clear r1
  obtain ⟨hc1, hf1⟩ := bcell b1
  have hz1 := b1.size
  simp at hz1
  go_wp2
  refine bodyPost_ret (v := .agg #[.slice a' xs.length c']) (by simp [results, Try.results34, go_sem, hc1]) rfl ⟨_, rfl, ?_, ?_⟩
  · refine ((R1.out.lo (lo' := w.heap.size + 3) (by simp)).set_below _ _ (by simp)).set_below _ _ (by simp) |>.lo (by omega) |>.up (by simp)
  · exact ((((((Below.refl w.heap.size w).alloc (Nat.le_refl _) _).alloc (by simp) _).alloc (by simp <;> omega) _).trans (b1.mono (by simp <;> omega))).setCell (by simp <;> omega) _).setCell (by simp <;> omega) _

theorem eq_mem (w : World) (l1 h1 l2 h2 : Nat) (v1 v2 : Value) (ps : List Int) (hn : ps.length ≤ 4194304) (e1 : h1 ≤ w.heap.size) (e2 : h2 ≤ w.heap.size) (r1 : Row w l1 h1 v1 (ints ps)) (r2 : Row w l2 h2 v2 (ints ps)) :
    Calls Try.prog 37 #[.agg #[v1], .agg #[v2]] w fun e w' => e = .returned (.bool true) ∧ Below w.heap.size w w' := by
  have R1 : Hid (Row w l1 h1 v1 (ints ps)) := r1
  have R2 : Hid (Row w l2 h2 v2 (ints ps)) := r2
  obtain ⟨a, c, rfl⟩ := r1.form
  obtain ⟨b, d, rfl⟩ := r2.form
  clear r1 r2
  go_enter Try.func37, Try.ntmps37
  go_wp2_with fail
  refine (eq_int _ l1 h1 l2 h2 _ _ ps hn ((R1.out.alloc e1 _).alloc (by simp; omega) _) ((R2.out.alloc e2 _).alloc (by simp; omega) _)).mono ?_
  rintro e w1 ⟨rfl, n1, rfl⟩
  go_wp2
  go_ret
  exact ⟨rfl, below_drewN (((Below.refl _ _).alloc (Nat.le_refl _) _).alloc (by simp) _) n1⟩

theorem mark_mem (w : World) (lo hi : Nat) (v : Value) (ps : List Int) (k0 : Nat) (hn : ps.length ≤ 4194304) (h2 : k0 ≤ 4194304) (hh : hi ≤ w.heap.size) (r : Row w lo hi v (ints ps)) :
    Calls Try.prog 39 #[.agg #[v], .int .i64 k0] w fun e w' => e = .returned (.int .i64 ((k0 + ps.length : Nat) : Int)) ∧ Row w' lo hi v (imarks k0 ps.length) ∧ Out lo hi w w' := by
  have R : Hid (Row w lo hi v (ints ps)) := r
  obtain ⟨a, c, rfl⟩ := r.form
  clear r
  go_enter Try.func39, Try.ntmps39
  go_wp2_with fail
  refine (mark_int _ lo hi _ ps k0 hn h2 (by simp; omega) (R.out.alloc hh _)).mono ?_
  rintro e w1 ⟨rfl, r1, b1⟩
  go_wp2
  go_ret
  exact ⟨rfl, r1, (Out.of_below ((Below.refl _ _).alloc (Nat.le_refl _) _)).trans b1⟩

end Go.Proofs.Ytmifnemjihffkaa
