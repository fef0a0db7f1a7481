/- Epochs as structs (a number and two rows): measured, copied, held against one another, marked, looked at again. -/
import Derived.Test.YtikliofkplbdpaaRows
import Derived.WalkKit
import Derived.ProofKit
import Derived.OpenShut
import Derived.ShutString
import Derived.Test.YtikliofkplbdpaaGoneCopy
namespace Go.Proofs.Ytikliofkplbdpaa
open Go.ChangeShapes Go.WideShapes Go.ChangeAt Go.RowKit
set_option linter.unusedVariables false

theorem sz_ages (a : Int) (p l : Option Addr) (n c m d : Nat) (w : World) (hn : n ≤ 9223372036854775807) (hm : m ≤ 9223372036854775807) :
    Calls Try.prog 12 #[.agg #[.int .i64 a, .slice p n c, .slice l m d], .int .i64 1048576] w fun e w' => e = .returned (.int .i64 (if n + m ≤ 1048576 then (1048576 : Int) - n - m else -1)) ∧ Below w.heap.size w w' := by
  by_cases h : n ≤ 1048576
  · by_cases h2 : n + m ≤ 1048576
    · rw [if_pos h2]
      go_enter Try.func12, Try.ntmps12
      go_wp2_with (first | (go_at_call 11; refine (sz_int p n c 1048576 _ hn (by omega) (by omega)).mono ?_; rintro e w' ⟨rfl, rfl⟩; rw [if_neg (by omega)]) | (go_at_call 30; refine (sz_gones l m d _ _ hm (by omega) (by omega)).mono ?_; rintro e w' ⟨rfl, rfl⟩; rw [if_neg (by omega)]))
      go_ret
      exact ⟨rfl, (Below.refl _ _).alloc (Nat.le_refl _) _⟩
    · rw [if_neg h2]
      go_enter Try.func12, Try.ntmps12
      go_wp2_with (first | (go_at_call 11; refine (sz_int p n c 1048576 _ hn (by omega) (by omega)).mono ?_; rintro e w' ⟨rfl, rfl⟩; rw [if_neg (by omega)]) | (go_at_call 30; refine (sz_gones l m d _ _ hm (by omega) (by omega)).mono ?_; rintro e w' ⟨rfl, rfl⟩; rw [if_pos (by omega)]))
      go_ret
      exact ⟨rfl, (Below.refl _ _).alloc (Nat.le_refl _) _⟩
  · rw [if_neg (by omega)]
    go_enter Try.func12, Try.ntmps12
    go_wp2_with (go_at_call 11; refine (sz_int p n c 1048576 _ hn (by omega) (by omega)).mono ?_; rintro e w' ⟨rfl, rfl⟩; rw [if_pos (by omega)])
    go_ret
    exact ⟨rfl, (Below.refl _ _).alloc (Nat.le_refl _) _⟩

theorem Rw.set_below {w : World} {lo hi : Nat} {v : Value} {n : Nat} {xs : List Value} (h : Rw w lo hi v n xs) (p : Addr) (x : Value) (hp : p.block < lo) : Rw (w.setCell p x) lo hi v n xs :=
  Rw.loc lo hi v n xs w _ h (fun k k1 k2 => Below.heap_setCell _ _ _ _ (by omega))
theorem Rw.alloc {w : World} {lo hi : Nat} {v : Value} {n : Nat} {xs : List Value} (h : Rw w lo hi v n xs) (hh : hi ≤ w.heap.size) (o : Obj) : Rw (w.alloc o) lo hi v n xs := h.below ((Below.refl _ _).alloc hh o)

set_option maxRecDepth 100000 in
theorem to_ages (w : World) (a : Int) (p l : Value) (ps : List Int) (L : List (Int × Int)) (hn : ps.length ≤ 4194304) (hm : L.length ≤ 4194304) (h : AIn w p l ps L) :
    Calls Try.prog 17 #[.agg #[.int .i64 a, p, l]] w fun e w' => ∃ p' l', e = .returned (.agg #[.int .i64 a, p', l']) ∧ AR w.heap.size w'.heap.size p' l' ps L w' ∧ Below w.heap.size w w' := by
  have H := hidIt h
  obtain ⟨pa, pc, la, lc, rfl, rfl, -⟩ := h.form
  clear h
  go_enter Try.func17, Try.ntmps17
  go_wp2_with fail
  generalize hW : World.alloc (World.alloc (World.alloc w _) _) _ = W0
  have bW : Below w.heap.size w W0 := by
    rw [← hW]
    exact (((Below.refl w.heap.size w).alloc (Nat.le_refl _) _).alloc (by simp) _).alloc (by simp <;> omega) _
  have zW : W0.heap.size = w.heap.size + 3 := by rw [← hW]; simp
  have cW : W0.cell? ⟨w.heap.size, 0, none⟩ = some (.int .i64 a) ∧ W0.cell? ⟨w.heap.size, 1, none⟩ = some (.slice pa ps.length pc) ∧ W0.cell? ⟨w.heap.size, 2, none⟩ = some (.slice la L.length lc) := by rw [← hW]; simp [go_sem]
  have dW : W0.cell? ⟨w.heap.size + 1, 0, none⟩ = some (.int .i64 0) ∧ W0.cell? ⟨w.heap.size + 1, 1, none⟩ = some (.slice none 0 0) ∧ W0.cell? ⟨w.heap.size + 1, 2, none⟩ = some (.slice none 0 0) := by rw [← hW]; simp [go_sem]
  have eW : W0.cell? ⟨w.heap.size + 1 + 1, 0, none⟩ = some (.int .i64 a) ∧ W0.cell? ⟨w.heap.size + 1 + 1, 1, none⟩ = some (.slice none 0 0) ∧ W0.cell? ⟨w.heap.size + 1 + 1, 2, none⟩ = some (.slice none 0 0) := by rw [← hW]; simp [go_sem]
  have fW : (∀ o, W0.frozen? ⟨w.heap.size + 1, o, none⟩ = false) ∧ (∀ o, W0.frozen? ⟨w.heap.size + 1 + 1, o, none⟩ = false) := by rw [← hW]; simp [go_sem]
  clear hW
  refine (to_int _ _ ps hn (H.out.pins.below bW)).mono ?_
  rintro e w1 ⟨v1, rfl, r1, b1⟩
  have z1 := b1.size
  have R1 := hidIt r1
  obtain ⟨a1, c1, rfl⟩ := r1.form
  clear r1
  have c2 := below_cell b1 (by omega) cW.2.2
  have d0 := below_cell b1 (by omega) dW.1
  have d1 := below_cell b1 (by omega) dW.2.1
  have d2 := below_cell b1 (by omega) dW.2.2
  have e0 := below_cell b1 (by omega) eW.1
  have e1 := below_cell b1 (by omega) eW.2.1
  have e2 := below_cell b1 (by omega) eW.2.2
  have f1 : (∀ o, w1.frozen? ⟨w.heap.size + 1, o, none⟩ = false) ∧ (∀ o, w1.frozen? ⟨w.heap.size + 1 + 1, o, none⟩ = false) := ⟨fun o => below_frozen b1 (by omega) (fW.1 o), fun o => below_frozen b1 (by omega) (fW.2 o)⟩
  obtain ⟨f11, f12⟩ := f1
  have b01 := below_step (bW) (b1.mono (by omega))
  clear cW dW eW fW b1 bW
  go_wp2_with fail
  have b02 : Below w.heap.size w (w1.setCell ⟨w.heap.size + 1 + 1, 1, none⟩ (.slice a1 ps.length c1)) := b01.setCell (by simp <;> omega) _
  refine (to_gones _ _ L hm (H.out.limbo.below b02)).mono ?_
  rintro e w2 ⟨v2, rfl, r2, b2⟩
  have z2 := b2.size
  simp at z2
  have R2 := hidIt r2
  obtain ⟨a2, c2', rfl, -⟩ := r2.form
  clear r2
  have g0 : w2.cell? ⟨w.heap.size + 1, 0, none⟩ = some (.int .i64 0) := below_cell b2 (by simp; omega) (by simp [go_sem, d0])
  have g1 : w2.cell? ⟨w.heap.size + 1, 1, none⟩ = some (.slice none 0 0) := below_cell b2 (by simp; omega) (by simp [go_sem, d1])
  have g2 : w2.cell? ⟨w.heap.size + 1, 2, none⟩ = some (.slice none 0 0) := below_cell b2 (by simp; omega) (by simp [go_sem, d2])
  have h0 : w2.cell? ⟨w.heap.size + 1 + 1, 0, none⟩ = some (.int .i64 a) := below_cell b2 (by simp; omega) (by simp [go_sem, e0])
  have h1 : w2.cell? ⟨w.heap.size + 1 + 1, 1, none⟩ = some (.slice a1 ps.length c1) := below_cell b2 (by simp; omega) (by simp [go_sem, e1])
  have h2 : w2.cell? ⟨w.heap.size + 1 + 1, 2, none⟩ = some (.slice none 0 0) := below_cell b2 (by simp; omega) (by simp [go_sem, e2])
  have k1 : ∀ o, w2.frozen? ⟨w.heap.size + 1, o, none⟩ = false := fun o => below_frozen b2 (by simp; omega) (by simp [go_sem, f11])
  have k2 : ∀ o, w2.frozen? ⟨w.heap.size + 1 + 1, o, none⟩ = false := fun o => below_frozen b2 (by simp; omega) (by simp [go_sem, f12])
  have Q1 := hidIt ((R1.out.set_below ⟨w.heap.size + 1 + 1, 1, none⟩ (.slice a1 ps.length c1) (by show w.heap.size + 1 + 1 < W0.heap.size; omega)).below (b2.mono (by simp)))
  have B2 := hidIt (b02.trans (b2.mono (by simp; omega)))
  clear b2 d0 d1 d2 e0 e1 e2 f11 f12 b01 b02 c2 R1
  go_wp2
  refine bodyPost_ret (v := .agg #[.int .i64 a, .slice a1 ps.length c1, .slice a2 L.length c2']) (by simp [results, Try.results17, go_sem, g0, g1, g2]) rfl ⟨_, _, rfl, ?_, ?_⟩
  · have hz : w1.heap.size ≤ w2.heap.size := z2
    have A1 : Row w2 w.heap.size w2.heap.size (.slice a1 ps.length c1) (ints ps) := Q1.out.wide (by omega) (by omega)
    have A2 : Rw w2 w.heap.size w2.heap.size (.slice a2 L.length c2') L.length (gones L) := R2.out.wide (by simp; omega) (Nat.le_refl _)
    have ap := apart_of Q1.out R2.out (.inl (by simp))
    refine ⟨?_, ?_, ap⟩
    · refine (((((Q1.out.wide (lo' := w.heap.size + 3) (hi' := w2.heap.size) (by omega) (by omega)).set_below _ _ (by simp)).set_below _ _ (by simp)).set_below _ _ (by simp)).set_below _ _ (by simp)).wide (by omega) (by simp)
    · refine (((((R2.out.wide (lo' := w.heap.size + 3) (hi' := w2.heap.size) (by simp; omega) (by omega)).set_below _ _ (by simp)).set_below _ _ (by simp)).set_below _ _ (by simp)).set_below _ _ (by simp)).wide (by omega) (by simp)
  · exact (((B2.out.setCell (by simp <;> omega) _).setCell (by simp <;> omega) _).setCell (by simp <;> omega) _).setCell (by simp <;> omega) _

theorem Rw.grown {w w' : World} {lo hi : Nat} {v : Value} {n : Nat} {xs : List Value} {q : Option Nat} (r : Rw w lo hi v n xs) (hz : hi ≤ w.heap.size) (hg : w.grownBy w' q) (hne : xs ≠ [] → ∀ k, q = some k → v.ownBlock ≠ some k) : Rw w' lo hi v n xs := by
  obtain ⟨a, cap, rfl, hcp, h⟩ := r
  refine ⟨a, cap, rfl, hcp, ?_⟩
  by_cases hx : xs = []
  · exact .inl hx
  · rcases h with h | ⟨g, rfl, h1, h2, h3, h4⟩
    · exact .inl h
    · have hq : w'.heap[g]? = w.heap[g]? := hg.block g (by omega) (fun e => hne hx g e.symm rfl)
      exact .inr ⟨g, rfl, h1, h2, fun j hj => (World.cell?_of_block (a := ⟨g, j, none⟩) hq).trans (h3 j hj), fun j => (World.frozen?_of_block (a := ⟨g, j, none⟩) hq).trans (h4 j)⟩
theorem Row.grown {w w' : World} {lo hi : Nat} {v : Value} {xs : List Value} {q : Option Nat} (r : Row w lo hi v xs) (hz : hi ≤ w.heap.size) (hg : w.grownBy w' q) (hne : xs ≠ [] → ∀ k, q = some k → v.ownBlock ≠ some k) : Row w' lo hi v xs := by
  obtain ⟨a, cap, rfl, h⟩ := r
  refine ⟨a, cap, rfl, ?_⟩
  by_cases hx : xs = []
  · exact .inl hx
  · rcases h with h | ⟨g, rfl, h1, h2, h3, h4⟩
    · exact .inl h
    · have hq : w'.heap[g]? = w.heap[g]? := hg.block g (by omega) (fun e => hne hx g e.symm rfl)
      exact .inr ⟨g, rfl, h1, h2, fun j hj => (World.cell?_of_block (a := ⟨g, j, none⟩) hq).trans (h3 j hj), fun j => (World.frozen?_of_block (a := ⟨g, j, none⟩) hq).trans (h4 j)⟩
theorem mark_int_fine (w : World) (lo hi : Nat) (v : Value) (ps : List Int) (k0 : Nat) (hn : ps.length ≤ 4194304) (h2 : k0 ≤ 4194304) (hh : hi ≤ w.heap.size) (r : Row w lo hi v (ints ps)) :
    Calls Try.prog 26 #[v, .int .i64 k0] w fun e w' => e = .returned (.int .i64 ((k0 + ps.length : Nat) : Int)) ∧ Row w' lo hi v (imarks k0 ps.length) ∧ ∃ g, w.grownBy w' g ∧ ∀ k, g = some k → 0 < ps.length ∧ v.ownBlock = some k ∧ lo ≤ k ∧ k < hi := by
  obtain ⟨a, c, rfl, q1⟩ := r
  rw [ints_len]
  by_cases h0 : ps.length = 0
  · rw [h0]
    refine (mark_int_zero a c k0 w).mono ?_
    rintro e w' ⟨rfl, rfl⟩
    exact ⟨rfl, ⟨a, c, rfl, .inl rfl⟩, none, World.grownBy.refl _ _, fun k h => by cases h⟩
  · rcases q1 with q1 | ⟨g, rfl, g1, g2, q1, q2⟩
    · exact absurd (by simpa using congrArg List.length q1) h0
    · refine (mark_int_some g c ps.length k0 w hn h2 (by omega) (fun j hj => ⟨ps[j], by have := q1 j (by simpa using hj); rw [List.getElem_map] at this; exact this⟩) q2).mono ?_
      rintro e w' ⟨rfl, m1, m2, m3⟩
      exact ⟨rfl, ⟨_, c, by rw [imarks_len], .inr ⟨g, rfl, g1, g2, fun j hj => by
        rw [imarks_len] at hj
        rw [m1 j hj, imarks_at _ _ _ hj], m2⟩⟩, some g, m3, fun k h => by cases h; exact ⟨by omega, rfl, g1, g2⟩⟩
theorem out_fine {w w' : World} {lo hi : Nat} {g : Option Nat} {n : Nat} {v : Value} (hg : w.grownBy w' g) (h : ∀ k, g = some k → 0 < n ∧ v.ownBlock = some k ∧ lo ≤ k ∧ k < hi) : Out lo hi w w' := by
  refine ⟨hg.os, hg.tape, hg.output, hg.size, fun k hk hn => hg.block k hk (fun e => ?_)⟩
  have := h k e.symm
  omega
theorem ne_nil_pos {L : List (Int × Int)} (h : gones L ≠ []) : 0 < L.length := by
  rcases Nat.eq_zero_or_pos L.length with h0 | h0
  · exact absurd (by rw [List.length_eq_zero_iff.1 h0]; rfl) h
  · exact h0
theorem imarks_pos {k0 n : Nat} (h : imarks k0 n ≠ []) : 0 < n := by
  rcases Nat.eq_zero_or_pos n with h0 | h0
  · exact absurd (by rw [h0]; rfl) h
  · exact h0

theorem mark_ages (w : World) (lo hi : Nat) (a : Int) (p l : Value) (ps : List Int) (L : List (Int × Int)) (k0 : Nat) (hn : ps.length ≤ 4194304) (hm : L.length ≤ 4194304) (h2 : k0 ≤ 4194304) (hh : hi ≤ w.heap.size) (r : AR lo hi p l ps L w) :
    Calls Try.prog 27 #[.agg #[.int .i64 a, p, l], .int .i64 k0] w fun e w' => e = .returned (.int .i64 ((k0 + ps.length + L.length * 2 : Nat) : Int)) ∧ AM lo hi p l k0 ps.length L.length w' ∧ Out lo hi w w' := by
  have R := hidIt r
  obtain ⟨pa, pc, la, lc, rfl, rfl, -⟩ := r.form
  clear r
  go_enter Try.func27, Try.ntmps27
  go_wp2_with fail
  refine (mark_int_fine _ lo hi _ ps k0 hn h2 (by simp; omega) (R.out.pins.alloc hh _)).mono ?_
  rintro e w1 ⟨rfl, r1, g, hg, hd⟩
  have z1 := hg.size
  simp at z1
  have o1 := hidIt (out_fine hg hd)
  have c2 : w1.cell? ⟨w.heap.size, 2, none⟩ = some (.slice la L.length lc) := o1.out.cell (by simp) (.inr hh) (by simp [go_sem])
  have r2 := hidIt ((R.out.limbo.alloc hh _).grown (by simp; omega) hg (fun hx k e e2 => R.out.apart (hd k e).1 (ne_nil_pos hx) ((hd k e).2.1.trans e2.symm)))
  have R1 := hidIt r1
  clear hg hd r1
  go_wp2_with fail
  refine (mark_gones _ lo hi _ L (k0 + ps.length) hm (by omega) (by omega) r2.out).mono ?_
  rintro e w2 ⟨rfl, r3, g2, hg2, hd2⟩
  have o2 := hidIt (out_fine hg2 hd2)
  have r4 := hidIt (R1.out.grown (by omega) hg2 (fun hx k e e2 => R.out.apart (imarks_pos hx) (hd2 k e).1 (e2.trans (hd2 k e).2.1.symm)))
  have R3 := hidIt r3
  clear hg2 hd2 r3
  go_wp2
  go_ret
  exact ⟨rfl, ⟨r4.out, R3.out⟩, ((Out.of_below ((Below.refl _ _).alloc (Nat.le_refl _) _)).trans o1.out).trans o2.out⟩

theorem held_ages (w : World) (lo hi : Nat) (a : Int) (p l : Value) (n m k0 : Nat) (hn : n ≤ 4194304) (hm : m ≤ 4194304) (h2 : k0 ≤ 4194304) (hh : hi ≤ w.heap.size) (r : AM lo hi p l k0 n m w) :
    Calls Try.prog 29 #[.agg #[.int .i64 a, p, l], .int .i64 k0] w fun e w' => e = .returned (.int .i64 ((k0 + n + m * 2 : Nat) : Int)) ∧ Below w.heap.size w w' := by
  have R := hidIt r
  obtain ⟨pa, pc, rfl⟩ := r.pins.mform
  obtain ⟨la, lc, rfl, -⟩ := r.limbo.form
  clear r
  go_enter Try.func29, Try.ntmps29
  go_wp2_with fail
  refine (held_int _ lo hi _ n k0 hn h2 (R.out.pins.alloc hh _)).mono ?_
  rintro e w1 ⟨rfl, rfl⟩
  go_wp2_with fail
  refine (held_gones _ lo hi _ m (k0 + n) hm (by omega) (R.out.limbo.alloc hh _)).mono ?_
  rintro e w1 ⟨rfl, rfl⟩
  go_wp2
  go_ret
  exact ⟨rfl, (Below.refl _ _).alloc (Nat.le_refl _) _⟩

theorem eq_ages (w : World) (l1 h1 l2 h2 : Nat) (a : Int) (p1 q1 p2 q2 : Value) (ps : List Int) (L : List (Int × Int)) (hn : ps.length ≤ 4194304) (hm : L.length ≤ 4194304) (e1 : h1 ≤ w.heap.size) (e2 : h2 ≤ w.heap.size) (r1 : AR l1 h1 p1 q1 ps L w) (r2 : AR l2 h2 p2 q2 ps L w) :
    Calls Try.prog 25 #[.agg #[.int .i64 a, p1, q1], .agg #[.int .i64 a, p2, q2]] w fun e w' => e = .returned (.bool true) ∧ Below w.heap.size w w' := by
  have R1 := hidIt r1
  have R2 := hidIt r2
  obtain ⟨pa, pc, la, lc, rfl, rfl, -⟩ := r1.form
  obtain ⟨pb, pd, lb, ld, rfl, rfl, -⟩ := r2.form
  clear r1 r2
  go_enter Try.func25, Try.ntmps25
  go_wp2_with fail
  generalize hW : World.alloc (World.alloc w _) _ = W0
  have bW : Below w.heap.size w W0 := by
    rw [← hW]
    exact ((Below.refl w.heap.size w).alloc (Nat.le_refl _) _).alloc (by simp) _
  have zW : W0.heap.size = w.heap.size + 2 := by rw [← hW]; simp
  have cW : W0.cell? ⟨w.heap.size, 2, none⟩ = some (.slice la L.length lc) ∧ W0.cell? ⟨w.heap.size + 1, 2, none⟩ = some (.slice lb L.length ld) := by rw [← hW]; simp [go_sem]
  clear hW
  refine (eq_int _ l1 h1 l2 h2 _ _ ps hn (R1.out.pins.below (bW.mono e1)) (R2.out.pins.below (bW.mono e2))).mono ?_
  rintro e w1 ⟨rfl, n1, rfl⟩
  have B1 := hidIt (below_drewN bW n1)
  have zz : (W0.drewN n1).heap.size = W0.heap.size := by simp
  have c1 : (W0.drewN n1).cell? ⟨w.heap.size, 2, none⟩ = some (.slice la L.length lc) := by simp [cW.1]
  have c2 : (W0.drewN n1).cell? ⟨w.heap.size + 1, 2, none⟩ = some (.slice lb L.length ld) := by simp [cW.2]
  generalize W0.drewN n1 = w1 at *
  clear bW cW
  go_wp2_with fail
  refine (eq_gones _ l1 h1 l2 h2 _ _ L hm (by omega) (by omega) (R1.out.limbo.below (B1.out.mono e1)) (R2.out.limbo.below (B1.out.mono e2))).mono ?_
  rintro e w2 ⟨rfl, b2⟩
  go_wp2
  go_ret
  exact ⟨rfl, B1.out.trans (b2.mono (by omega))⟩

end Go.Proofs.Ytikliofkplbdpaa
