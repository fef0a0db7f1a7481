/- Pools measured, copied, held against one another, marked, looked at again. -/
import Derived.Test.YtikliofkplbdpaaRows
import Derived.WalkKit
import Derived.ProofKit
import Derived.OpenShut
import Derived.ShutString
import Derived.Test.YtikliofkplbdpaaPoolPlain
namespace Go.Proofs.Ytikliofkplbdpaa
open Go.ChangeShapes Go.WideShapes Go.ChangeAt Go.RowKit
set_option linter.unusedVariables false

theorem sz_agesG (a : Int) (p l : Option Addr) (n c m d : Nat) (t : Int) (w : World) (hn : n ≤ 9223372036854775807) (hm : m ≤ 9223372036854775807) (h1 : 0 ≤ t) (h2 : t ≤ 4194304) :
    Calls Try.prog 12 #[.agg #[.int .i64 a, .slice p n c, .slice l m d], .int .i64 t] w fun e w' => e = .returned (.int .i64 (if (n : Int) + m ≤ t then t - n - m else -1)) ∧ Below w.heap.size w w' := by
  by_cases h : (n : Int) ≤ t
  · by_cases h3 : (n : Int) + m ≤ t
    · rw [if_pos h3]
      go_enter Try.func12, Try.ntmps12
      go_wp2_with (first | (go_at_call 11; refine (sz_int p n c t _ hn h1 h2).mono ?_; rintro e w' ⟨rfl, rfl⟩; rw [if_neg (by omega)]) | (go_at_call 30; refine (sz_gones l m d _ _ hm (by omega) (by omega)).mono ?_; rintro e w' ⟨rfl, rfl⟩; rw [if_neg (by omega)]))
      go_ret
      exact ⟨rfl, (Below.refl _ _).alloc (Nat.le_refl _) _⟩
    · rw [if_neg h3]
      go_enter Try.func12, Try.ntmps12
      go_wp2_with (first | (go_at_call 11; refine (sz_int p n c t _ hn h1 h2).mono ?_; rintro e w' ⟨rfl, rfl⟩; rw [if_neg (by omega)]) | (go_at_call 30; refine (sz_gones l m d _ _ hm (by omega) (by omega)).mono ?_; rintro e w' ⟨rfl, rfl⟩; rw [if_pos (by omega)]))
      go_ret
      exact ⟨rfl, (Below.refl _ _).alloc (Nat.le_refl _) _⟩
  · rw [if_neg (by omega)]
    go_enter Try.func12, Try.ntmps12
    go_wp2_with (go_at_call 11; refine (sz_int p n c t _ hn h1 h2).mono ?_; rintro e w' ⟨rfl, rfl⟩; rw [if_pos (by omega)])
    go_ret
    exact ⟨rfl, (Below.refl _ _).alloc (Nat.le_refl _) _⟩
theorem sz_pool (a : Int) (f p l v : Option Addr) (n cf m cp q cl r cv : Nat) (w : World) (hn : n ≤ 9223372036854775807) (hm : m ≤ 9223372036854775807) (hq : q ≤ 9223372036854775807) (hr : r ≤ 9223372036854775807) :
    Calls Try.prog 4 #[.agg #[.slice f n cf, .int .i64 a, .slice p m cp, .slice l q cl, .slice v r cv], .int .i64 1048576] w fun e w' => (∃ z, e = .returned (.int .i64 z) ∧ (n + m + q + r ≤ 1048576 → 0 ≤ z) ∧ (¬ n + m + q + r ≤ 1048576 → z = -1)) ∧ Below w.heap.size w w' := by
  by_cases h : n ≤ 1048576
  · by_cases h2 : n + m + q ≤ 1048576
    · by_cases h3 : n + m + q + r ≤ 1048576
      · go_enter Try.func4, Try.ntmps4
        go_wp2_with fail
        refine (sz_int f n cf 1048576 _ hn (by omega) (by omega)).mono ?_
        rintro e w1 ⟨rfl, rfl⟩
        rw [if_neg (by omega)]
        go_wp2_with fail
        refine (sz_agesG a p l m cp q cl _ _ hm hq (by omega) (by omega)).mono ?_
        rintro e w1 ⟨rfl, b1⟩
        rw [if_pos (by omega)]
        have c4 : w1.cell? ⟨w.heap.size, 4, none⟩ = some (.slice v r cv) := below_cell b1 (by simp) (by simp [go_sem])
        have B := hidIt (((Below.refl w.heap.size w).alloc (Nat.le_refl _) (.cells #[.slice f n cf, .int .i64 a, .slice p m cp, .slice l q cl, .slice v r cv] 27)).trans (b1.mono (by simp)))
        clear b1
        go_wp2_with fail
        refine (sz_int v r cv _ _ hr (by omega) (by omega)).mono ?_
        rintro e w2 ⟨rfl, rfl⟩
        rw [if_neg (by omega)]
        go_wp2
        go_ret
        exact ⟨⟨_, rfl, fun _ => by omega, fun hh => absurd h3 hh⟩, B.out⟩
      · go_enter Try.func4, Try.ntmps4
        go_wp2_with fail
        refine (sz_int f n cf 1048576 _ hn (by omega) (by omega)).mono ?_
        rintro e w1 ⟨rfl, rfl⟩
        rw [if_neg (by omega)]
        go_wp2_with fail
        refine (sz_agesG a p l m cp q cl _ _ hm hq (by omega) (by omega)).mono ?_
        rintro e w1 ⟨rfl, b1⟩
        rw [if_pos (by omega)]
        have c4 : w1.cell? ⟨w.heap.size, 4, none⟩ = some (.slice v r cv) := below_cell b1 (by simp) (by simp [go_sem])
        have B := hidIt (((Below.refl w.heap.size w).alloc (Nat.le_refl _) (.cells #[.slice f n cf, .int .i64 a, .slice p m cp, .slice l q cl, .slice v r cv] 27)).trans (b1.mono (by simp)))
        clear b1
        go_wp2_with fail
        refine (sz_int v r cv _ _ hr (by omega) (by omega)).mono ?_
        rintro e w2 ⟨rfl, rfl⟩
        rw [if_pos (by omega)]
        go_wp2
        go_ret
        exact ⟨⟨_, rfl, fun hh => absurd hh (by omega), fun _ => rfl⟩, B.out⟩
    · go_enter Try.func4, Try.ntmps4
      go_wp2_with fail
      refine (sz_int f n cf 1048576 _ hn (by omega) (by omega)).mono ?_
      rintro e w1 ⟨rfl, rfl⟩
      rw [if_neg (by omega)]
      go_wp2_with fail
      refine (sz_agesG a p l m cp q cl _ _ hm hq (by omega) (by omega)).mono ?_
      rintro e w1 ⟨rfl, b1⟩
      rw [if_neg (by omega)]
      go_wp2
      go_ret
      exact ⟨⟨_, rfl, fun hh => absurd hh (by omega), fun _ => rfl⟩, ((Below.refl w.heap.size w).alloc (Nat.le_refl _) _).trans (b1.mono (by simp))⟩
  · go_enter Try.func4, Try.ntmps4
    go_wp2_with (go_at_call 11; refine (sz_int f n cf 1048576 _ hn (by omega) (by omega)).mono ?_; rintro e w' ⟨rfl, rfl⟩; rw [if_pos (by omega)])
    go_ret
    exact ⟨⟨_, rfl, fun hh => absurd hh (by omega), fun _ => rfl⟩, (Below.refl _ _).alloc (Nat.le_refl _) _⟩

theorem PlR.set_low {W : World} {lo hi : Nat} {f p l v : Value} {P : Pl} (h : PlR lo hi f p l v P W) {b o : Nat} {x : Value} (hb : b < lo) : PlR lo hi f p l v P (W.setCell ⟨b, o, none⟩ x) :=
  PlR.loc lo hi f p l v P W _ h (fun k k1 _ => Below.heap_setCell _ _ _ _ (by show k ≠ b; omega))
def PlFit (P : Pl) : Prop := P.fr.length + P.ps.length + P.L.length + P.lv.length ≤ 1048576
set_option maxHeartbeats 1600000 in
set_option maxRecDepth 100000 in
theorem to_pool (w : World) (f p l v : Value) (P : Pl) (hf : PlFit P) (h : PlIn w f p l v P) :
    Calls Try.prog 6 #[.agg #[f, .int .i64 P.a, p, l, v]] w fun e w' => ∃ f' p' l' v', e = .returned (.agg #[f', .int .i64 P.a, p', l', v']) ∧ PlR w.heap.size w'.heap.size f' p' l' v' P w' ∧ Below w.heap.size w w' := by
  have H := hidIt h
  unfold PlFit at hf
  obtain ⟨fa, fc, pa, pc, la, lc, va, vc, rfl, rfl, rfl, rfl⟩ := h.form
  clear h
  go_enter Try.func6, Try.ntmps6
  go_wp2_with fail
  generalize hW : World.alloc (World.alloc (World.alloc w _) _) _ = W0
  have X := bx3 w #[.slice fa P.fr.length fc, .int .i64 P.a, .slice pa P.ps.length pc, .slice la P.L.length lc, .slice va P.lv.length vc] #[.slice none 0 0, .int .i64 0, .slice none 0 0, .slice none 0 0, .slice none 0 0] #[.slice none 0 0, .int .i64 0, .slice none 0 0, .slice none 0 0, .slice none 0 0] 27 33 33
  rw [hW] at X
  clear hW
  obtain ⟨X0, X1, X2, bW, zW⟩ := X
  refine (to_int W0 _ P.fr (by omega) (H.out.fr.below bW).1).mono ?_
  rintro e w1 ⟨f1, rfl, r1, b1⟩
  have z1 := b1.size
  have R1 := hidIt r1
  obtain ⟨a1, c1, rfl⟩ := r1.form
  clear r1
  have Y := hidIt (And.intro (X0.below b1) (And.intro (X1.below b1) (And.intro (X2.below b1) (below_step bW (b1.mono (by omega))))))
  clear X0 X1 X2 b1 bW
  have y1 := Y.out.1.2.1 1
  have y2 := Y.out.1.2.1 2
  have y3 := Y.out.1.2.1 3
  have k2 := Y.out.2.2.1.2.1 0
  have q2' := Y.out.2.2.1.2.2
  simp at y1 y2 y3 k2
  go_wp2_with fail
  clear y1 y2 y3 k2 q2'
  generalize hW : World.setCell w1 _ _ = W1
  have Z : Bx W1 w.heap.size #[.slice fa P.fr.length fc, .int .i64 P.a, .slice pa P.ps.length pc, .slice la P.L.length lc, .slice va P.lv.length vc] ∧ Bx W1 (w.heap.size + 1) #[.slice none 0 0, .int .i64 0, .slice none 0 0, .slice none 0 0, .slice none 0 0] ∧ Bx W1 (w.heap.size + 1 + 1) #[.slice a1 P.fr.length c1, .int .i64 0, .slice none 0 0, .slice none 0 0, .slice none 0 0] ∧ Below w.heap.size w W1 ∧ W1.heap.size = w1.heap.size ∧ Row W1 W0.heap.size W1.heap.size (.slice a1 P.fr.length c1) (ints P.fr) := by
    rw [← hW]
    obtain ⟨y0, y1, y2, y3⟩ := Y.out
    exact ⟨y0.other _ (by omega), y1.other _ (by omega), y2.set _ (by simp), y3.setCell (by simp <;> omega) _, by simp, (R1.out.set_below _ _ (by simp; omega)).wide (Nat.le_refl _) (by simp)⟩
  clear hW Y R1
  obtain ⟨X0, X1, X2, bW, zW1, r1⟩ := Z
  refine (to_ages W1 P.a _ _ P.ps P.L (by omega) (by omega) (H.out.ag.below bW)).mono ?_
  rintro e w2 ⟨p2, l2, rfl, r2, b2⟩
  have z2 := b2.size
  have R1 := hidIt (r1.below (b2.mono (by omega)))
  have R2 := hidIt r2
  obtain ⟨pa2, pc2, la2, lc2, rfl, rfl, -⟩ := r2.form
  clear r1 r2
  have Y := hidIt (And.intro (X0.below b2) (And.intro (X1.below b2) (And.intro (X2.below b2) (below_step bW (b2.mono (by omega))))))
  clear X0 X1 X2 b2 bW
  have y4 := Y.out.1.2.1 4
  have k0 := Y.out.2.2.1.2.1 0
  have k1 := Y.out.2.2.1.2.1 1
  have k2 := Y.out.2.2.1.2.1 2
  have k3 := Y.out.2.2.1.2.1 3
  have q2' := Y.out.2.2.1.2.2
  simp at y4 k0 k1 k2 k3
  go_wp2_with fail
  clear y4 k0 k1 k2 k3 q2'
  generalize hW : World.setCell _ _ (Value.slice la2 P.L.length lc2) = W2
  have Z : Bx W2 (w.heap.size + 1) #[.slice none 0 0, .int .i64 0, .slice none 0 0, .slice none 0 0, .slice none 0 0] ∧ Bx W2 (w.heap.size + 1 + 1) #[.slice a1 P.fr.length c1, .int .i64 P.a, .slice pa2 P.ps.length pc2, .slice la2 P.L.length lc2, .slice none 0 0] ∧ Below w.heap.size w W2 ∧ W2.heap.size = w2.heap.size ∧ Row W2 W0.heap.size W1.heap.size (.slice a1 P.fr.length c1) (ints P.fr) ∧ AR W1.heap.size W2.heap.size (.slice pa2 P.ps.length pc2) (.slice la2 P.L.length lc2) P.ps P.L W2 := by
    rw [← hW]
    obtain ⟨y0, y1, y2, y3⟩ := Y.out
    refine ⟨((y1.other _ (by omega)).other _ (by omega)).other _ (by omega), ((y2.set _ (by simp)).set _ (by simp)).set _ (by simp), ((y3.setCell (by simp <;> omega) _).setCell (by simp <;> omega) _).setCell (by simp <;> omega) _, by simp, ((R1.out.set_below _ _ (by simp; omega)).set_below _ _ (by simp; omega)).set_below _ _ (by simp; omega), ?_⟩
    have hk : ∀ k, W1.heap.size ≤ k → (((w2.setCell ⟨w.heap.size + 1 + 1, 1, none⟩ (.int .i64 P.a)).setCell ⟨w.heap.size + 1 + 1, 2, none⟩ (.slice pa2 P.ps.length pc2)).setCell ⟨w.heap.size + 1 + 1, 3, none⟩ (.slice la2 P.L.length lc2)).heap[k]? = w2.heap[k]? := fun k hk => ((Below.heap_setCell _ _ _ _ (by show k ≠ w.heap.size + 1 + 1; omega)).trans (Below.heap_setCell _ _ _ _ (by show k ≠ w.heap.size + 1 + 1; omega))).trans (Below.heap_setCell _ _ _ _ (by show k ≠ w.heap.size + 1 + 1; omega))
    exact (AR.loc _ _ _ _ _ _ _ _ R2.out (fun k k1 _ => hk k k1)).wide (Nat.le_refl _) (by simp)
  clear hW Y R1 R2
  obtain ⟨X1, X2, bW, zW2, r1, r2⟩ := Z
  refine (to_int W2 _ P.lv (by omega) (H.out.lv.below bW).1).mono ?_
  rintro e w3 ⟨v3, rfl, r3, b3⟩
  have z3 := b3.size
  have R1 := hidIt (r1.below (b3.mono (by omega)))
  have R2 := hidIt (r2.below (b3.mono (by omega)))
  have R3 := hidIt r3
  obtain ⟨a3, c3, rfl⟩ := r3.form
  clear r1 r2 r3
  have Y := hidIt (And.intro (X1.below b3) (And.intro (X2.below b3) (below_step bW (b3.mono (by omega)))))
  clear X1 X2 b3 bW
  have m0 := Y.out.1.2.1 0
  have m1 := Y.out.1.2.1 1
  have m2 := Y.out.1.2.1 2
  have m3 := Y.out.1.2.1 3
  have m4 := Y.out.1.2.1 4
  have q1' := Y.out.1.2.2
  have k0 := Y.out.2.1.2.1 0
  have k1 := Y.out.2.1.2.1 1
  have k2 := Y.out.2.1.2.1 2
  have k3 := Y.out.2.1.2.1 3
  have k4 := Y.out.2.1.2.1 4
  have q2' := Y.out.2.1.2.2
  simp at m0 m1 m2 m3 m4 k0 k1 k2 k3 k4
  go_wp2
  refine bodyPost_ret (v := .agg #[.slice a1 P.fr.length c1, .int .i64 P.a, .slice pa2 P.ps.length pc2, .slice la2 P.L.length lc2, .slice a3 P.lv.length c3]) (by simp [results, Try.results6, go_sem, m0, m1, m2, m3, m4]) rfl ⟨_, _, _, _, rfl, ?_, ?_⟩
  · refine PlR.wide (lo := W0.heap.size) (hi := w3.heap.size) ((((((PlR.set_low (lo := W0.heap.size) (hi := w3.heap.size) (W := w3) ⟨W0.heap.size, W1.heap.size, W1.heap.size, W2.heap.size, W2.heap.size, w3.heap.size, ⟨by omega, by omega, by omega, by omega, by omega, by omega, .inl (Nat.le_refl _), .inl (by omega), .inl (Nat.le_refl _)⟩, R1.out, R2.out, R3.out⟩ (by omega)).set_low (by omega)).set_low (by omega)).set_low (by omega)).set_low (by omega)).set_low (by omega)) (by omega) (by simp)
  · have y3 := Y.out.2.2
    exact ((((((y3.setCell (by simp <;> omega) _).setCell (by simp <;> omega) _).setCell (by simp <;> omega) _).setCell (by simp <;> omega) _).setCell (by simp <;> omega) _).setCell (by simp <;> omega) _)
theorem eq_pool (w : World) (l1 h1 l2 h2 : Nat) (f1 p1 q1 v1 f2 p2 q2 v2 : Value) (P : Pl) (hf : PlFit P) (e1 : h1 ≤ w.heap.size) (e2 : h2 ≤ w.heap.size) (r1 : PlQ l1 h1 f1 p1 q1 v1 P w) (r2 : PlQ l2 h2 f2 p2 q2 v2 P w) :
    Calls Try.prog 8 #[.agg #[f1, .int .i64 P.a, p1, q1, v1], .agg #[f2, .int .i64 P.a, p2, q2, v2]] w fun e w' => e = .returned (.bool true) ∧ Below w.heap.size w w' := by
  have R1 := hidIt r1
  have R2 := hidIt r2
  unfold PlFit at hf
  obtain ⟨fa, fc, pa, pc, la, lc, va, vc, rfl, rfl, rfl, rfl⟩ := r1.form
  obtain ⟨fb, fd, pb, pd, lb, ld, vb, vd, rfl, rfl, rfl, rfl⟩ := r2.form
  clear r1 r2
  go_enter Try.func8, Try.ntmps8
  go_wp2_with fail
  generalize hW : World.alloc (World.alloc w _) _ = W0
  have X := bx2 w #[.slice fa P.fr.length fc, .int .i64 P.a, .slice pa P.ps.length pc, .slice la P.L.length lc, .slice va P.lv.length vc] #[.slice fb P.fr.length fd, .int .i64 P.a, .slice pb P.ps.length pd, .slice lb P.L.length ld, .slice vb P.lv.length vd] 33 33
  rw [hW] at X
  clear hW
  obtain ⟨X0, X1, bW, zW⟩ := X
  refine (eq_ints W0 _ _ P.fr (by omega) ((R1.out.pin e1).fr.below bW) ((R2.out.pin e2).fr.below bW)).mono ?_
  rintro e w1 ⟨rfl, b1⟩
  have z1 := b1.size
  have Y := hidIt (And.intro (X0.below b1) (And.intro (X1.below b1) (below_step bW (b1.mono (by omega)))))
  clear X0 X1 bW b1
  have y1 := Y.out.1.2.1 1
  have y2 := Y.out.1.2.1 2
  have y3 := Y.out.1.2.1 3
  have k1 := Y.out.2.1.2.1 1
  have k2 := Y.out.2.1.2.1 2
  have k3 := Y.out.2.1.2.1 3
  simp at y1 y2 y3 k1 k2 k3
  go_wp2_with fail
  clear y1 y2 y3 k1 k2 k3
  refine (eq_ages w1 l1 h1 l2 h2 P.a _ _ _ _ P.ps P.L (by omega) (by omega) (by omega) (by omega) (R1.out.ag.below (Y.out.2.2.mono e1)) (R2.out.ag.below (Y.out.2.2.mono e2))).mono ?_
  rintro e w2 ⟨rfl, b2⟩
  have z2 := b2.size
  have Z := hidIt (And.intro (Y.out.1.below b2) (And.intro (Y.out.2.1.below b2) (below_step Y.out.2.2 (b2.mono (by omega)))))
  clear Y b2
  have y4 := Z.out.1.2.1 4
  have k4 := Z.out.2.1.2.1 4
  simp at y4 k4
  go_wp2_with fail
  clear y4 k4
  refine (eq_ints w2 _ _ P.lv (by omega) ((R1.out.pin e1).lv.below Z.out.2.2) ((R2.out.pin e2).lv.below Z.out.2.2)).mono ?_
  rintro e w3 ⟨rfl, b3⟩
  go_wp2
  go_ret
  exact ⟨rfl, below_step Z.out.2.2 (b3.mono (by omega))⟩

theorem mark_pool (w : World) (lo hi : Nat) (f p l v : Value) (P : Pl) (k0 : Nat) (hf : PlFit P) (h2 : k0 ≤ 1) (hh : hi ≤ w.heap.size) (r : PlR lo hi f p l v P w) :
    Calls Try.prog 9 #[.agg #[f, .int .i64 P.a, p, l, v], .int .i64 k0] w fun e w' => e = .returned (.int .i64 ((k0 + P.fr.length + P.ps.length + P.L.length * 2 + P.lv.length : Nat) : Int)) ∧ PlM lo hi f p l v k0 P.fr.length P.ps.length P.L.length P.lv.length w' ∧ Out lo hi w w' := by
  obtain ⟨fa, fc, pa, pc, la, lc, va, vc, rfl, rfl, rfl, rfl⟩ := r.form
  unfold PlFit at hf
  obtain ⟨a1, b1, a2, b2, a3, b3, d, r1, r2, r3⟩ := r
  obtain ⟨d1, d2, d3, d4, d5, d6, d7, d8, d9⟩ := d
  have R1 := hidIt r1
  have R2 := hidIt r2
  have R3 := hidIt r3
  clear r1 r2 r3
  go_enter Try.func9, Try.ntmps9
  go_wp2_with fail
  generalize hW : World.alloc w _ = W0
  have X := Bx.new w #[.slice fa P.fr.length fc, .int .i64 P.a, .slice pa P.ps.length pc, .slice la P.L.length lc, .slice va P.lv.length vc] 33
  have bW : Below w.heap.size w W0 := by rw [← hW]; exact (Below.refl _ _).alloc (Nat.le_refl _) _
  have zW : W0.heap.size = w.heap.size + 1 := by rw [← hW]; simp
  rw [hW] at X
  clear hW
  refine (mark_int W0 a1 b1 _ P.fr k0 (by omega) (by omega) (by omega) (R1.out.below (bW.mono (by omega)))).mono ?_
  rintro e w1 ⟨rfl, m1, o1⟩
  have M1 := hidIt m1
  have zz1 := o1.size
  have R2a := hidIt ((AR.loc _ _ _ _ _ _).out (R2.out.below (bW.mono (by omega))) o1 (by omega) (by omega))
  have R3a := hidIt ((Row.loc _ _ _ _).out (R3.out.below (bW.mono (by omega))) o1 (by omega) (by omega))
  have X1 := hidIt (X.block o1.size (o1.block _ X.1 (.inr (by omega))))
  have O1 := hidIt ((Out.of_below (lo := lo) (hi := hi) bW).trans (o1.wide (by omega) (by omega)))
  clear m1 o1 R1 R2 R3 X bW
  have y1 := X1.out.2.1 1
  have y2 := X1.out.2.1 2
  have y3 := X1.out.2.1 3
  simp at y1 y2 y3
  go_wp2_with fail
  clear y1 y2 y3
  refine (mark_ages w1 a2 b2 P.a _ _ P.ps P.L (k0 + P.fr.length) (by omega) (by omega) (by omega) (by omega) R2a.out).mono ?_
  rintro e w2 ⟨rfl, m2, o2⟩
  have zz2 := o2.size
  have M2 := hidIt m2
  have M1a := hidIt ((Row.loc _ _ _ _).out M1.out o2 (by omega) (by omega))
  have R3b := hidIt ((Row.loc _ _ _ _).out R3a.out o2 (by omega) (by omega))
  have X2 := hidIt (X1.out.block o2.size (o2.block _ X1.out.1 (.inr (by omega))))
  have O2 := hidIt (O1.out.trans (o2.wide (by omega) (by omega)))
  clear m2 o2 M1 R2a R3a X1 O1
  have y4 := X2.out.2.1 4
  simp at y4
  go_wp2_with fail
  clear y4
  refine (mark_int w2 a3 b3 _ P.lv (k0 + P.fr.length + P.ps.length + P.L.length * 2) (by omega) (by omega) (by omega) R3b.out).mono ?_
  rintro e w3 ⟨rfl, m3, o3⟩
  have M3 := hidIt m3
  have M1b := hidIt ((Row.loc _ _ _ _).out M1a.out o3 (by omega) (by omega))
  have M2a := hidIt ((AM.loc _ _ _ _ _ _ _).out M2.out o3 (by omega) (by omega))
  have O3 := hidIt (O2.out.trans (o3.wide (by omega) (by omega)))
  clear m3 o3 M1a M2 R3b X2 O2
  go_wp2
  go_ret
  exact ⟨rfl, ⟨M1b.out.wide (by omega) (by omega), M2a.out.wide (by omega) (by omega), M3.out.wide (by omega) (by omega)⟩, O3.out⟩

theorem held_pool (w : World) (lo hi : Nat) (a : Int) (f p l v : Value) (n m q r k0 : Nat) (hf : n + m + q + r ≤ 1048576) (h2 : k0 ≤ 1) (hh : hi ≤ w.heap.size) (hm : PlM lo hi f p l v k0 n m q r w) :
    Calls Try.prog 10 #[.agg #[f, .int .i64 a, p, l, v], .int .i64 k0] w fun e w' => e = .returned (.int .i64 ((k0 + n + m + q * 2 + r : Nat) : Int)) ∧ Below w.heap.size w w' := by
  have R := hidIt hm
  obtain ⟨fa, fc, rfl⟩ := hm.fr.mform
  obtain ⟨pa, pc, rfl⟩ := hm.ag.pins.mform
  obtain ⟨la, lc, rfl, -⟩ := hm.ag.limbo.form
  obtain ⟨va, vc, rfl⟩ := hm.lv.mform
  clear hm
  go_enter Try.func10, Try.ntmps10
  go_wp2_with fail
  generalize hW : World.alloc w _ = W0
  have X := Bx.new w #[.slice fa n fc, .int .i64 a, .slice pa m pc, .slice la q lc, .slice va r vc] 33
  have bW : Below w.heap.size w W0 := by rw [← hW]; exact (Below.refl _ _).alloc (Nat.le_refl _) _
  have zW : W0.heap.size = w.heap.size + 1 := by rw [← hW]; simp
  rw [hW] at X
  clear hW
  refine (held_int W0 lo hi _ n k0 (by omega) (by omega) (R.out.fr.below (bW.mono (by omega)))).mono ?_
  rintro e w1 ⟨rfl, rfl⟩
  have y1 := X.2.1 1
  have y2 := X.2.1 2
  have y3 := X.2.1 3
  simp at y1 y2 y3
  have BW := hidIt bW
  have HX := hidIt X
  clear X bW
  go_wp2_with fail
  clear y1 y2 y3
  refine (held_ages w1 lo hi a _ _ m q (k0 + n) (by omega) (by omega) (by omega) (by omega) (AM.loc _ _ _ _ _ _ _ _ _ R.out.ag (fun k _ hk => BW.out.block k (by omega)))).mono ?_
  rintro e w2 ⟨rfl, b2⟩
  have z2 := b2.size
  have B2 := hidIt (below_step BW.out (b2.mono (by omega)))
  have X2 := hidIt (HX.out.below b2)
  clear b2 HX BW
  have y4 := X2.out.2.1 4
  simp at y4
  go_wp2_with fail
  clear y4
  refine (held_int w2 lo hi _ r (k0 + n + m + q * 2) (by omega) (by omega) (R.out.lv.below (B2.out.mono (by omega)))).mono ?_
  rintro e w3 ⟨rfl, rfl⟩
  go_wp2
  go_ret
  exact ⟨rfl, B2.out⟩

end Go.Proofs.Ytikliofkplbdpaa
