/- The program's copy of a row of cells; its acts on a row. -/
import Derived.Test.YtomfdbglnedpcaaRows
import Derived.WalkKit
import Derived.ProofKit
import Derived.OpenShut
import Derived.ShutString
import Derived.Test.YtomfdbglnedpcaaCellOk
import Derived.Test.YtomfdbglnedpcaaCellRow
import Derived.Test.YtomfdbglnedpcaaShelf
namespace Go.Proofs.Ytomfdbglnedpcaa
open Go.ChangeShapes Go.WideShapes Go.ChangeAt Go.RowKit
set_option linter.unusedVariables false

theorem clone_int (w : World) (lo hi : Nat) (v : Value) (xs : List Int) (hn : xs.length ≤ 4194304) (r : Row w lo hi v (ints xs)) :
    Calls Try.prog 104 #[v] w fun e w' => ∃ v', e = .returned v' ∧ Row w' w.heap.size w'.heap.size v' (ints xs) ∧ Below w.heap.size w w' := by
  by_cases h0 : 0 < xs.length
  · obtain ⟨g, c, rfl, g1, g2, g3, g4⟩ := r.ofSome h0
    refine (Try.slices_Clone_int g 0 xs.length c xs w (Nat.le_refl _) (by omega) (fun j hj => by rw [Nat.zero_add, g3 j hj]; simp [hj])).mono ?_
    rintro e w' ⟨v', rfl, o1, -, b1⟩
    exact ⟨v', rfl, Row.of_owns (by simpa using o1), b1⟩
  · obtain rfl : xs = [] := List.length_eq_zero_iff.1 (by omega)
    obtain ⟨a, c, rfl⟩ := r.form
    cases a with
    | none =>
      refine (Try.slices_Clone_int_nil _ c w).mono ?_
      rintro e w' ⟨rfl, rfl⟩
      exact ⟨_, rfl, ⟨none, 0, rfl, .inl rfl⟩, Below.refl _ _⟩
    | some ad =>
      refine (Try.slices_Clone_int_zero ad c w).mono ?_
      rintro e w' ⟨v', rfl, o1, -, b1⟩
      exact ⟨v', rfl, Row.of_owns o1, b1⟩

set_option maxRecDepth 100000 in
theorem impl_copy (w : World) (lo hi : Nat) (v : Value) (xs : List Int) (hn : xs.length ≤ 4194304) (hh : hi ≤ w.heap.size) (r : Row w lo hi v (ints xs)) :
    Calls Try.prog 79 #[.agg #[v]] w fun e w' => ∃ v', e = .returned (.agg #[v']) ∧ Row w' w.heap.size w'.heap.size v' (ints xs) ∧ Below w.heap.size w w' := by
  have R := hidIt r
  obtain ⟨a, c, rfl⟩ := r.form
  clear r
  go_enter Try.func79, Try.ntmps79
  go_wp2_with fail
  refine (clone_int _ lo hi _ xs hn ((R.out.alloc hh _).alloc (by simp <;> omega) _)).mono ?_
  rintro e w1 ⟨v', rfl, r1, b1⟩
  have R1 := hidIt r1
  obtain ⟨a', c', rfl⟩ := r1.form
  clear r1
  have d5 : w1.cell? ⟨w.heap.size + 1, 0, none⟩ = some (.slice none 0 0) := below_cell b1 (by simp <;> omega) (by simp [go_sem])
  have d6 : w1.frozen? ⟨w.heap.size + 1, 0, none⟩ = false := below_frozen b1 (by simp <;> omega) (by simp [go_sem])
  go_wp2
  refine bodyPost_ret (v := .agg #[.slice a' xs.length c']) (by simp [results, Try.results79, go_sem, d5]) rfl ⟨_, rfl, ?_, ?_⟩
  · exact (R1.out.set_below ⟨w.heap.size + 1, 0, none⟩ _ (by simp <;> omega)).lo (by simp <;> omega) |>.up (by simp <;> omega)
  · exact (((((Below.refl w.heap.size w).alloc (Nat.le_refl _) _).alloc (by simp) _)).trans (b1.mono (by simp <;> omega))).setCell (p := ⟨w.heap.size + 1, 0, none⟩) (by simp <;> omega) _

theorem cells_of (a : Option Addr) (n c : Nat) (w : World) :
    Calls Try.prog 80 #[.agg #[.slice a n c]] w fun e w' => e = .returned (.iface 83 (.slice a n c)) ∧ w' = w.alloc (.cells #[.slice a n c] 28) := by
  go_enter Try.func80, Try.ntmps80
  go_wp2
  go_ret
  exact ⟨rfl, rfl⟩

theorem below_grown {w w' : World} (h : Below w.heap.size w w') (row : Option Nat) : w.grownBy w' row := ⟨h.os, h.tape, h.output, h.size, fun k hk _ => h.block k hk⟩
theorem grown_put (w : World) (g i : Nat) (y : Value) (o : Obj) : w.grownBy ((w.setCell ⟨g, i, none⟩ y).alloc o) (some g) :=
  ⟨rfl, rfl, rfl, by simp, fun k hk hne => (Below.heap_alloc _ _ _ (by simpa using hk)).trans (Below.heap_setCell _ _ _ _ (fun e => hne (by simp [e])))⟩

set_option maxRecDepth 100000 in
theorem act_load (lo hi g n c : Nat) (xs : List Int) (i : Nat) (a b x : Int) (w : World) (hh : hi ≤ w.heap.size) (r : Row w lo hi (.slice (some ⟨g, 0, none⟩) n c) (ints xs)) (hi1 : i < xs.length) (hx : xs[i] = x) :
    Calls Try.prog 126 #[.slice (some ⟨g, 0, none⟩) n c, .agg #[.int .i64 1, .int .i64 (i : Int), .int .i64 a, .int .i64 b]] w fun e w' => e = .returned (.int .i64 x) ∧ Row w' lo hi (.slice (some ⟨g, 0, none⟩) n c) (ints xs) ∧ Below w.heap.size w w' := by
  have R := hidIt r
  obtain ⟨g', c', e, g1, g2, g3, g4⟩ := r.ofSome (by omega)
  simp at e
  obtain ⟨rfl, rfl, rfl⟩ := e
  have hg3 := g3 i hi1
  have hg4 := g4 i
  rw [hx] at hg3
  clear r g3 g4 hx
  have hi2 : (i : Int) < (xs.length : Int) := by omega
  have hgz : g < w.heap.size := by omega
  go_enter Try.func126, Try.ntmps126
  go_wp2
  go_ret
  exact ⟨rfl, R.out.alloc hh _, (Below.refl _ _).alloc (Nat.le_refl _) _⟩

set_option maxRecDepth 100000 in
theorem act_store (lo hi g n c : Nat) (xs : List Int) (i : Nat) (a b x : Int) (w : World) (hh : hi ≤ w.heap.size) (r : Row w lo hi (.slice (some ⟨g, 0, none⟩) n c) (ints xs)) (hi1 : i < xs.length) (hx : xs[i] = x) :
    Calls Try.prog 126 #[.slice (some ⟨g, 0, none⟩) n c, .agg #[.int .i64 2, .int .i64 (i : Int), .int .i64 a, .int .i64 b]] w fun e w' => e = .returned (.int .i64 0) ∧ Row w' lo hi (.slice (some ⟨g, 0, none⟩) n c) (ints (xs.set i a)) ∧ w.grownBy w' (some g) := by
  have R := hidIt r
  obtain ⟨g', c', e, g1, g2, g3, g4⟩ := r.ofSome (by omega)
  simp at e
  obtain ⟨rfl, rfl, rfl⟩ := e
  have hg3 := g3 i hi1
  have hg4 := g4 i
  rw [hx] at hg3
  clear r g3 g4 hx
  have hi2 : (i : Int) < (xs.length : Int) := by omega
  have hgz : g < w.heap.size := by omega
  go_enter Try.func126, Try.ntmps126
  go_wp2
  go_ret
  exact ⟨rfl, (R.out.put i hi1 _).alloc (by simp <;> omega) _, grown_put w g i _ _⟩

set_option maxRecDepth 100000 in
theorem act_hit (lo hi g n c : Nat) (xs : List Int) (i : Nat) (a b x : Int) (w : World) (hh : hi ≤ w.heap.size) (r : Row w lo hi (.slice (some ⟨g, 0, none⟩) n c) (ints xs)) (hi1 : i < xs.length) (hx : xs[i] = x) (hxa : x = a) :
    Calls Try.prog 126 #[.slice (some ⟨g, 0, none⟩) n c, .agg #[.int .i64 3, .int .i64 (i : Int), .int .i64 a, .int .i64 b]] w fun e w' => e = .returned (.int .i64 1) ∧ Row w' lo hi (.slice (some ⟨g, 0, none⟩) n c) (ints (xs.set i b)) ∧ w.grownBy w' (some g) := by
  have R := hidIt r
  obtain ⟨g', c', e, g1, g2, g3, g4⟩ := r.ofSome (by omega)
  simp at e
  obtain ⟨rfl, rfl, rfl⟩ := e
  have hg3 := g3 i hi1
  have hg4 := g4 i
  rw [hx] at hg3
  clear r g3 g4 hx
  have hi2 : (i : Int) < (xs.length : Int) := by omega
  have hgz : g < w.heap.size := by omega
  go_enter Try.func126, Try.ntmps126
  go_wp2
  go_ret
  exact ⟨rfl, (R.out.put i hi1 _).alloc (by simp <;> omega) _, grown_put w g i _ _⟩

set_option maxRecDepth 100000 in
theorem act_miss (lo hi g n c : Nat) (xs : List Int) (i : Nat) (a b x : Int) (w : World) (hh : hi ≤ w.heap.size) (r : Row w lo hi (.slice (some ⟨g, 0, none⟩) n c) (ints xs)) (hi1 : i < xs.length) (hx : xs[i] = x) (hxa : ¬ x = a) :
    Calls Try.prog 126 #[.slice (some ⟨g, 0, none⟩) n c, .agg #[.int .i64 3, .int .i64 (i : Int), .int .i64 a, .int .i64 b]] w fun e w' => e = .returned (.int .i64 0) ∧ Row w' lo hi (.slice (some ⟨g, 0, none⟩) n c) (ints xs) ∧ Below w.heap.size w w' := by
  have R := hidIt r
  obtain ⟨g', c', e, g1, g2, g3, g4⟩ := r.ofSome (by omega)
  simp at e
  obtain ⟨rfl, rfl, rfl⟩ := e
  have hg3 := g3 i hi1
  have hg4 := g4 i
  rw [hx] at hg3
  clear r g3 g4 hx
  have hi2 : (i : Int) < (xs.length : Int) := by omega
  have hgz : g < w.heap.size := by omega
  go_enter Try.func126, Try.ntmps126
  go_wp2
  go_ret
  exact ⟨rfl, R.out.alloc hh _, (Below.refl _ _).alloc (Nat.le_refl _) _⟩

set_option maxRecDepth 100000 in
theorem act_add (lo hi g n c : Nat) (xs : List Int) (i : Nat) (a b x : Int) (w : World) (hh : hi ≤ w.heap.size) (r : Row w lo hi (.slice (some ⟨g, 0, none⟩) n c) (ints xs)) (hi1 : i < xs.length) (hx : xs[i] = x) :
    Calls Try.prog 126 #[.slice (some ⟨g, 0, none⟩) n c, .agg #[.int .i64 4, .int .i64 (i : Int), .int .i64 a, .int .i64 b]] w fun e w' => e = .returned (.int .i64 (wrap64 (x + a))) ∧ Row w' lo hi (.slice (some ⟨g, 0, none⟩) n c) (ints (xs.set i (wrap64 (x + a)))) ∧ w.grownBy w' (some g) := by
  have R := hidIt r
  obtain ⟨g', c', e, g1, g2, g3, g4⟩ := r.ofSome (by omega)
  simp at e
  obtain ⟨rfl, rfl, rfl⟩ := e
  have hg3 := g3 i hi1
  have hg4 := g4 i
  rw [hx] at hg3
  clear r g3 g4 hx
  have hi2 : (i : Int) < (xs.length : Int) := by omega
  have hgz : g < w.heap.size := by omega
  go_enter Try.func126, Try.ntmps126
  go_wp2
  go_ret
  exact ⟨rfl, (R.out.put i hi1 _).alloc (by simp <;> omega) _, grown_put w g i _ _⟩

theorem act_any (lo hi g n c : Nat) (xs : List Int) (i : Nat) (k a b : Int) (w : World) (hh : hi ≤ w.heap.size) (r : Row w lo hi (.slice (some ⟨g, 0, none⟩) n c) (ints xs)) (hi1 : i < xs.length) (h1 : 1 ≤ k) (h4 : k ≤ 4) :
    Calls Try.prog 126 #[.slice (some ⟨g, 0, none⟩) n c, .agg #[.int .i64 k, .int .i64 (i : Int), .int .i64 a, .int .i64 b]] w fun e w' => e = .returned (.int .i64 (actTold (xs.getD i 0) k a)) ∧ Row w' lo hi (.slice (some ⟨g, 0, none⟩) n c) (ints (memDo xs k i a b)) ∧ w.grownBy w' (some g) := by
  have hx : xs.getD i 0 = xs[i] := by simp [hi1]
  obtain rfl | rfl | rfl | rfl : k = 1 ∨ k = 2 ∨ k = 3 ∨ k = 4 := by omega
  · have e1 : actTold (xs.getD i 0) 1 a = xs[i] := by rw [hx]; simp [actTold]
    have e2 : memDo xs 1 i a b = xs := by simp [memDo, actNew, hi1]
    rw [e1, e2]
    refine (act_load lo hi g n c xs i a b xs[i] w hh r hi1 rfl).mono ?_
    rintro e w' ⟨rfl, r1, b1⟩
    exact ⟨rfl, r1, below_grown b1 _⟩
  · have e1 : actTold (xs.getD i 0) 2 a = 0 := by simp [actTold]
    have e2 : memDo xs 2 i a b = xs.set i a := by simp [memDo, actNew]
    rw [e1, e2]
    refine (act_store lo hi g n c xs i a b xs[i] w hh r hi1 rfl).mono ?_
    rintro e w' ⟨rfl, r1, b1⟩
    exact ⟨rfl, r1, b1⟩
  · by_cases hxa : xs[i] = a
    · have e1 : actTold (xs.getD i 0) 3 a = 1 := by rw [hx]; simp [actTold, hxa]
      have e2 : memDo xs 3 i a b = xs.set i b := by simp [memDo, actNew, hi1, hxa]
      rw [e1, e2]
      refine (act_hit lo hi g n c xs i a b xs[i] w hh r hi1 rfl hxa).mono ?_
      rintro e w' ⟨rfl, r1, b1⟩
      exact ⟨rfl, r1, b1⟩
    · have e1 : actTold (xs.getD i 0) 3 a = 0 := by rw [hx]; simp [actTold, hxa]
      have e2 : memDo xs 3 i a b = xs := by simp [memDo, actNew, hi1, hxa]
      rw [e1, e2]
      refine (act_miss lo hi g n c xs i a b xs[i] w hh r hi1 rfl hxa).mono ?_
      rintro e w' ⟨rfl, r1, b1⟩
      exact ⟨rfl, r1, below_grown b1 _⟩
  · have e1 : actTold (xs.getD i 0) 4 a = wrap64 (xs[i] + a) := by rw [hx]; simp [actTold]
    have e2 : memDo xs 4 i a b = xs.set i (wrap64 (xs[i] + a)) := by simp [memDo, actNew, hi1]
    rw [e1, e2]
    refine (act_add lo hi g n c xs i a b xs[i] w hh r hi1 rfl).mono ?_
    rintro e w' ⟨rfl, r1, b1⟩
    exact ⟨rfl, r1, b1⟩

end Go.Proofs.Ytomfdbglnedpcaa
