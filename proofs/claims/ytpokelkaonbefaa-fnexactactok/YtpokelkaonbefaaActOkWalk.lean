/- The walk of the law of ActOk. -/
import Derived.Test.YtpokelkaonbefaaRows
import Derived.WalkKit
import Derived.ProofKit
import Derived.OpenShut
import Derived.ShutString
import Derived.Test.YtpokelkaonbefaaCellOk
import Derived.Deep.RegionHeld3
namespace Go.Proofs.Ytpokelkaonbefaa
open Go.ChangeShapes Go.WideShapes Go.ChangeAt Go.RowKit
set_option linter.unusedVariables false

theorem keep_box {w Wc w1 : World} {m v0 v1 v2 v3 : Value} (b : Below Wc.heap.size Wc w1) (h : Wc.cell? ⟨w.heap.size, 0, none⟩ = some m ∧ Wc.cell? ⟨w.heap.size + 1, 0, none⟩ = some v0 ∧ Wc.cell? ⟨w.heap.size + 1, 1, none⟩ = some v1 ∧ Wc.cell? ⟨w.heap.size + 1, 2, none⟩ = some v2 ∧ Wc.cell? ⟨w.heap.size + 1, 3, none⟩ = some v3 ∧ w.heap.size + 2 ≤ Wc.heap.size ∧ Below w.heap.size w Wc) :
    w1.cell? ⟨w.heap.size, 0, none⟩ = some m ∧ w1.cell? ⟨w.heap.size + 1, 0, none⟩ = some v0 ∧ w1.cell? ⟨w.heap.size + 1, 1, none⟩ = some v1 ∧ w1.cell? ⟨w.heap.size + 1, 2, none⟩ = some v2 ∧ w1.cell? ⟨w.heap.size + 1, 3, none⟩ = some v3 ∧ w.heap.size + 2 ≤ w1.heap.size ∧ Below w.heap.size w w1 := by
  obtain ⟨h0, h1, h2, h3, h4, hz, hb⟩ := h
  have := b.size
  exact ⟨below_cell b (by omega) h0, below_cell b (by omega) h1, below_cell b (by omega) h2, below_cell b (by omega) h3, below_cell b (by omega) h4, by omega, hb.trans (b.mono (by omega))⟩
theorem keep_drew {w Wc : World} {m v0 v1 v2 v3 : Value} (h : Wc.cell? ⟨w.heap.size, 0, none⟩ = some m ∧ Wc.cell? ⟨w.heap.size + 1, 0, none⟩ = some v0 ∧ Wc.cell? ⟨w.heap.size + 1, 1, none⟩ = some v1 ∧ Wc.cell? ⟨w.heap.size + 1, 2, none⟩ = some v2 ∧ Wc.cell? ⟨w.heap.size + 1, 3, none⟩ = some v3 ∧ w.heap.size + 2 ≤ Wc.heap.size ∧ Below w.heap.size w Wc) :
    Wc.drew.cell? ⟨w.heap.size, 0, none⟩ = some m ∧ Wc.drew.cell? ⟨w.heap.size + 1, 0, none⟩ = some v0 ∧ Wc.drew.cell? ⟨w.heap.size + 1, 1, none⟩ = some v1 ∧ Wc.drew.cell? ⟨w.heap.size + 1, 2, none⟩ = some v2 ∧ Wc.drew.cell? ⟨w.heap.size + 1, 3, none⟩ = some v3 ∧ w.heap.size + 2 ≤ Wc.drew.heap.size ∧ Below w.heap.size w Wc.drew := by
  obtain ⟨h0, h1, h2, h3, h4, hz, hb⟩ := h
  exact ⟨h0, h1, h2, h3, h4, hz, hb.drew⟩
theorem box_below {w Wc : World} {m v0 v1 v2 v3 : Value} (h : Wc.cell? ⟨w.heap.size, 0, none⟩ = some m ∧ Wc.cell? ⟨w.heap.size + 1, 0, none⟩ = some v0 ∧ Wc.cell? ⟨w.heap.size + 1, 1, none⟩ = some v1 ∧ Wc.cell? ⟨w.heap.size + 1, 2, none⟩ = some v2 ∧ Wc.cell? ⟨w.heap.size + 1, 3, none⟩ = some v3 ∧ w.heap.size + 2 ≤ Wc.heap.size ∧ Below w.heap.size w Wc) : Below w.heap.size w Wc := h.2.2.2.2.2.2

theorem keep_two {w w3 Wc w1 : World} {m v0 v1 v2 v3 x : Value} (b : Below Wc.heap.size Wc w1) (h : (Wc.cell? ⟨w.heap.size, 0, none⟩ = some m ∧ Wc.cell? ⟨w.heap.size + 1, 0, none⟩ = some v0 ∧ Wc.cell? ⟨w.heap.size + 1, 1, none⟩ = some v1 ∧ Wc.cell? ⟨w.heap.size + 1, 2, none⟩ = some v2 ∧ Wc.cell? ⟨w.heap.size + 1, 3, none⟩ = some v3 ∧ w.heap.size + 2 ≤ Wc.heap.size ∧ Below w.heap.size w Wc) ∧ Wc.cell? ⟨w3.heap.size, 0, none⟩ = some x ∧ w3.heap.size + 1 ≤ Wc.heap.size ∧ Below w3.heap.size w3 Wc) : (w1.cell? ⟨w.heap.size, 0, none⟩ = some m ∧ w1.cell? ⟨w.heap.size + 1, 0, none⟩ = some v0 ∧ w1.cell? ⟨w.heap.size + 1, 1, none⟩ = some v1 ∧ w1.cell? ⟨w.heap.size + 1, 2, none⟩ = some v2 ∧ w1.cell? ⟨w.heap.size + 1, 3, none⟩ = some v3 ∧ w.heap.size + 2 ≤ w1.heap.size ∧ Below w.heap.size w w1) ∧ w1.cell? ⟨w3.heap.size, 0, none⟩ = some x ∧ w3.heap.size + 1 ≤ w1.heap.size ∧ Below w3.heap.size w3 w1 := by
  have := b.size
  have := h.2.2.1
  exact ⟨keep_box b h.1, below_cell b (by omega) h.2.1, by omega, h.2.2.2.trans (b.mono (by omega))⟩
theorem keep_two_drew {w w3 Wc : World} {m v0 v1 v2 v3 x : Value} (h : (Wc.cell? ⟨w.heap.size, 0, none⟩ = some m ∧ Wc.cell? ⟨w.heap.size + 1, 0, none⟩ = some v0 ∧ Wc.cell? ⟨w.heap.size + 1, 1, none⟩ = some v1 ∧ Wc.cell? ⟨w.heap.size + 1, 2, none⟩ = some v2 ∧ Wc.cell? ⟨w.heap.size + 1, 3, none⟩ = some v3 ∧ w.heap.size + 2 ≤ Wc.heap.size ∧ Below w.heap.size w Wc) ∧ Wc.cell? ⟨w3.heap.size, 0, none⟩ = some x ∧ w3.heap.size + 1 ≤ Wc.heap.size ∧ Below w3.heap.size w3 Wc) : (Wc.drew.cell? ⟨w.heap.size, 0, none⟩ = some m ∧ Wc.drew.cell? ⟨w.heap.size + 1, 0, none⟩ = some v0 ∧ Wc.drew.cell? ⟨w.heap.size + 1, 1, none⟩ = some v1 ∧ Wc.drew.cell? ⟨w.heap.size + 1, 2, none⟩ = some v2 ∧ Wc.drew.cell? ⟨w.heap.size + 1, 3, none⟩ = some v3 ∧ w.heap.size + 2 ≤ Wc.drew.heap.size ∧ Below w.heap.size w Wc.drew) ∧ Wc.drew.cell? ⟨w3.heap.size, 0, none⟩ = some x ∧ w3.heap.size + 1 ≤ Wc.drew.heap.size ∧ Below w3.heap.size w3 Wc.drew :=
  ⟨keep_drew h.1, h.2.1, h.2.2.1, h.2.2.2.drew⟩
theorem two_below {w w3 Wc : World} {m v0 v1 v2 v3 x : Value} (h : (Wc.cell? ⟨w.heap.size, 0, none⟩ = some m ∧ Wc.cell? ⟨w.heap.size + 1, 0, none⟩ = some v0 ∧ Wc.cell? ⟨w.heap.size + 1, 1, none⟩ = some v1 ∧ Wc.cell? ⟨w.heap.size + 1, 2, none⟩ = some v2 ∧ Wc.cell? ⟨w.heap.size + 1, 3, none⟩ = some v3 ∧ w.heap.size + 2 ≤ Wc.heap.size ∧ Below w.heap.size w Wc) ∧ Wc.cell? ⟨w3.heap.size, 0, none⟩ = some x ∧ w3.heap.size + 1 ≤ Wc.heap.size ∧ Below w3.heap.size w3 Wc) : Below w3.heap.size w3 Wc := h.2.2.2
theorem two_le {w w3 Wc : World} {m v0 v1 v2 v3 x : Value} (h : (Wc.cell? ⟨w.heap.size, 0, none⟩ = some m ∧ Wc.cell? ⟨w.heap.size + 1, 0, none⟩ = some v0 ∧ Wc.cell? ⟨w.heap.size + 1, 1, none⟩ = some v1 ∧ Wc.cell? ⟨w.heap.size + 1, 2, none⟩ = some v2 ∧ Wc.cell? ⟨w.heap.size + 1, 3, none⟩ = some v3 ∧ w.heap.size + 2 ≤ Wc.heap.size ∧ Below w.heap.size w Wc) ∧ Wc.cell? ⟨w3.heap.size, 0, none⟩ = some x ∧ w3.heap.size + 1 ≤ Wc.heap.size ∧ Below w3.heap.size w3 Wc) : w3.heap.size ≤ Wc.heap.size := Nat.le_of_succ_le h.2.2.1
theorem two_new {w w3 : World} {m v0 v1 v2 v3 x : Value} {T : TypeId} (h : w3.cell? ⟨w.heap.size, 0, none⟩ = some m ∧ w3.cell? ⟨w.heap.size + 1, 0, none⟩ = some v0 ∧ w3.cell? ⟨w.heap.size + 1, 1, none⟩ = some v1 ∧ w3.cell? ⟨w.heap.size + 1, 2, none⟩ = some v2 ∧ w3.cell? ⟨w.heap.size + 1, 3, none⟩ = some v3 ∧ w.heap.size + 2 ≤ w3.heap.size ∧ Below w.heap.size w w3) : ((w3.alloc (.cells #[x] T)).cell? ⟨w.heap.size, 0, none⟩ = some m ∧ (w3.alloc (.cells #[x] T)).cell? ⟨w.heap.size + 1, 0, none⟩ = some v0 ∧ (w3.alloc (.cells #[x] T)).cell? ⟨w.heap.size + 1, 1, none⟩ = some v1 ∧ (w3.alloc (.cells #[x] T)).cell? ⟨w.heap.size + 1, 2, none⟩ = some v2 ∧ (w3.alloc (.cells #[x] T)).cell? ⟨w.heap.size + 1, 3, none⟩ = some v3 ∧ w.heap.size + 2 ≤ (w3.alloc (.cells #[x] T)).heap.size ∧ Below w.heap.size w (w3.alloc (.cells #[x] T))) ∧ (w3.alloc (.cells #[x] T)).cell? ⟨w3.heap.size, 0, none⟩ = some x ∧ w3.heap.size + 1 ≤ (w3.alloc (.cells #[x] T)).heap.size ∧ Below w3.heap.size w3 (w3.alloc (.cells #[x] T)) :=
  ⟨keep_box ((Below.refl _ _).alloc (Nat.le_refl _) _) h, by simp, by simp, (Below.refl _ _).alloc (Nat.le_refl _) _⟩

set_option maxHeartbeats 1600000 in
set_option maxRecDepth 100000 in
theorem walk_ActOk (m0 : Value) (xs : List Int) (k t a b : Int) (w : World) (r0 : InRow w m0 xs) (n0 : xs.length ≤ maxLen) :
    Calls Try.prog 3 #[.agg #[m0], .agg #[.int .i64 k, .int .i64 t, .int .i64 a, .int .i64 b]] w fun e w' => e = .returned (.bool true) ∧ Below w.heap.size w w' := by
  have RI := hidIt r0
  obtain ⟨md, mc, rfl, -⟩ := r0
  unfold maxLen at n0
  by_cases hs : xs.length ≤ 1048576
  · go_enter Try.func3, Try.ntmps3
    go_wp2_with fail
    refine (sz_mem md xs.length mc 1048576 _ (by omega) (by omega) (by omega)).mono ?_
    rintro e w1 ⟨rfl, b1⟩
    rw [if_neg (by omega)]
    have hS : w1.cell? ⟨w.heap.size, 0, none⟩ = some (.slice md xs.length mc) ∧ w1.cell? ⟨w.heap.size + 1, 0, none⟩ = some (.int .i64 k) ∧ w1.cell? ⟨w.heap.size + 1, 1, none⟩ = some (.int .i64 t) ∧ w1.cell? ⟨w.heap.size + 1, 2, none⟩ = some (.int .i64 a) ∧ w1.cell? ⟨w.heap.size + 1, 3, none⟩ = some (.int .i64 b) ∧ w.heap.size + 2 ≤ w1.heap.size ∧ Below w.heap.size w w1 :=
      keep_box b1 (by simp [go_sem]; exact ((Below.refl _ _).alloc (Nat.le_refl _) _).alloc (by simp) _)
    clear b1
    go_wp2_with fail
    go_region_held3 (fun w' => w'.cell? ⟨w.heap.size, 0, none⟩ = some (.slice md xs.length mc) ∧ w'.cell? ⟨w.heap.size + 1, 0, none⟩ = some (.int .i64 k) ∧ w'.cell? ⟨w.heap.size + 1, 1, none⟩ = some (.int .i64 t) ∧ w'.cell? ⟨w.heap.size + 1, 2, none⟩ = some (.int .i64 a) ∧ w'.cell? ⟨w.heap.size + 1, 3, none⟩ = some (.int .i64 b) ∧ w.heap.size + 2 ≤ w'.heap.size ∧ Below w.heap.size w w')
      (first | exact keep_drew (by assumption) | exact keep_box (by assumption) (by assumption))
      (first | (go_at_call 10; refine (to_mem _ _ xs (by omega) (RI.out.below (box_below (by assumption)))).mono ?_; rintro e wa ⟨va, rfl, ra, ba⟩; obtain ⟨aa, ca, rfl⟩ := ra.form) | (go_at_call 11; refine (to_act k t a b _).mono ?_; rintro e wb ⟨rfl, bb⟩) | (go_at_call 9; refine (spec_actok _ xs.length _ k t a b _ (by omega)).mono ?_; rintro e wc ⟨rfl, bc⟩))
    rename_i hH
    clear hS ba bb bc ra
    go_wp2_with fail
    refine (to_mem _ _ xs (by omega) (RI.out.below (box_below hH))).mono ?_
    rintro e w3 ⟨v3, rfl, r3, b3⟩
    have hH3 := hidIt (keep_box b3 hH)
    have R3 := hidIt r3
    obtain ⟨a3, c3, rfl⟩ := r3.form
    clear r3 b3 hH
    go_wp2_with fail
    have h2 := two_new (x := .slice a3 xs.length c3) (T := 29) hH3.out
    go_region_held3 (fun w' => (w'.cell? ⟨w.heap.size, 0, none⟩ = some (.slice md xs.length mc) ∧ w'.cell? ⟨w.heap.size + 1, 0, none⟩ = some (.int .i64 k) ∧ w'.cell? ⟨w.heap.size + 1, 1, none⟩ = some (.int .i64 t) ∧ w'.cell? ⟨w.heap.size + 1, 2, none⟩ = some (.int .i64 a) ∧ w'.cell? ⟨w.heap.size + 1, 3, none⟩ = some (.int .i64 b) ∧ w.heap.size + 2 ≤ w'.heap.size ∧ Below w.heap.size w w') ∧ w'.cell? ⟨w3.heap.size, 0, none⟩ = some (.slice a3 xs.length c3) ∧ w3.heap.size + 1 ≤ w'.heap.size ∧ Below w3.heap.size w3 w')
      (first | exact keep_two_drew (by assumption) | exact keep_two (by assumption) (by assumption))
      (first | (go_at_call 11; refine (to_act k t a b _).mono ?_; rintro e wb ⟨rfl, bb⟩) | (go_at_call 12; refine (impl_actok _ xs.length _ k t a b _ (by omega)).mono ?_; rintro e wc ⟨rfl, bc⟩))
    rename_i hH4
    clear h2 bb bc
    go_wp2_with fail
    go_region_held3 (fun w' => (w'.cell? ⟨w.heap.size, 0, none⟩ = some (.slice md xs.length mc) ∧ w'.cell? ⟨w.heap.size + 1, 0, none⟩ = some (.int .i64 k) ∧ w'.cell? ⟨w.heap.size + 1, 1, none⟩ = some (.int .i64 t) ∧ w'.cell? ⟨w.heap.size + 1, 2, none⟩ = some (.int .i64 a) ∧ w'.cell? ⟨w.heap.size + 1, 3, none⟩ = some (.int .i64 b) ∧ w.heap.size + 2 ≤ w'.heap.size ∧ Below w.heap.size w w') ∧ w'.cell? ⟨w3.heap.size, 0, none⟩ = some (.slice a3 xs.length c3) ∧ w3.heap.size + 1 ≤ w'.heap.size ∧ Below w3.heap.size w3 w')
      (first | exact keep_two_drew (by assumption) | exact keep_two (by assumption) (by assumption))
      (first | (go_at_call 10; refine (to_mem _ _ xs (by omega) (RI.out.below (box_below (And.left (by assumption))))).mono ?_; rintro e wa ⟨va, rfl, ra, ba⟩; obtain ⟨aa, ca, rfl⟩ := ra.form) | (go_at_call 13; refine (eq_mem _ _ _ _ _ _ _ xs (by omega) (two_le (by assumption)) (Nat.le_refl _) (R3.out.below (two_below (by assumption))) ra).mono ?_; rintro e wd ⟨rfl, bd⟩))
    rename_i hH5
    go_wp2
    go_ret
    exact ⟨rfl, box_below hH5.1⟩
  · go_enter Try.func3, Try.ntmps3
    go_wp2_with fail
    refine (sz_mem md xs.length mc 1048576 _ (by omega) (by omega) (by omega)).mono ?_
    rintro e w1 ⟨rfl, b1⟩
    rw [if_pos (by omega)]
    go_wp2
    go_ret
    exact ⟨rfl, (((Below.refl _ _).alloc (Nat.le_refl _) _).alloc (by simp) _).trans (b1.mono (by simp <;> omega))⟩

end Go.Proofs.Ytpokelkaonbefaa
