/- The walk of the law of LiKeys, over the contracts of the two functions. -/
import Derived.Test.YtomfdbglnedpcaaRows
import Derived.WalkKit
import Derived.ProofKit
import Derived.OpenShut
import Derived.ShutString
import Derived.Test.YtomfdbglnedpcaaMemFns
import Derived.Test.YtomfdbglnedpcaaStPlain
import Derived.Deep.RegionHeld3
namespace Go.Proofs.Ytomfdbglnedpcaa
open Go.ChangeShapes Go.WideShapes Go.ChangeAt Go.RowKit
set_option linter.unusedVariables false

set_option maxHeartbeats 1600000 in
set_option maxRecDepth 100000 in
theorem walk_LiKeys (n : Int) (m0 : Value) (xs L : List Int) (w : World) (r0 : InRow w m0 xs) (n0 : xs.length ≤ maxLen) (hl : L.length ≤ 4194304)
    (hS : xs.length ≤ 1048576 → ∀ lo hi v W, hi ≤ W.heap.size → Row W lo hi v (ints xs) → Calls Try.prog 27 #[.int .i64 n, .agg #[v]] W fun e w' => ∃ v', e = .returned v' ∧ Row w' W.heap.size w'.heap.size v' (ints L) ∧ Below W.heap.size W w')
    (hI : xs.length ≤ 1048576 → ∀ lo hi v W, hi ≤ W.heap.size → Row W lo hi v (ints xs) → Calls Try.prog 28 #[.int .i64 n, .agg #[v]] W fun e w' => ∃ v', e = .returned v' ∧ Row w' W.heap.size w'.heap.size v' (ints L) ∧ Below W.heap.size W w') :
    Calls Try.prog 8 #[.int .i64 n, .agg #[m0]] w fun e w' => e = .returned (.bool true) ∧ Below w.heap.size w w' := by
  have RI := hidIt r0
  obtain ⟨md, mc, rfl, -⟩ := r0
  unfold maxLen at n0
  by_cases hs : xs.length ≤ 1048576
  · have HS := hidIt (hS hs)
    have HI := hidIt (hI hs)
    clear hS hI
    have s0 := hidIt ((St.start w).box (.slice md xs.length mc) 24)
    go_enter Try.func8, Try.ntmps8
    go_wp2_with fail
    refine (sz_mem md xs.length mc 1048576 _ (by omega) (by omega) (by omega)).mono ?_
    rintro e w1 ⟨rfl, b1⟩
    rw [if_neg (by omega)]
    have s1 := hidIt (s0.out.grow b1)
    have z1 := b1.size
    simp at z1
    have c1 := s1.out.get (b := w.heap.size) (o := 0) (v := .slice md xs.length mc) (by simp)
    clear b1 s0
    go_wp2_with fail
    refine (to_mem _ _ xs (by omega) (RI.out.below s1.out.below)).mono ?_
    rintro e w2 ⟨v2, rfl, r2, b2⟩
    have s2 := hidIt (s1.out.grow b2)
    have z2 := b2.size
    have R2 := hidIt r2
    obtain ⟨a2, k2, rfl⟩ := r2.form
    clear r2 b2 c1 s1
    go_wp2_with fail
    refine (HS.out _ _ _ _ (Nat.le_refl _) R2.out).mono ?_
    rintro e w3 ⟨v3, rfl, r3, b3⟩
    have s3 := hidIt ((s2.out.grow b3).row (Nat.le_refl _) r3)
    obtain ⟨a3, k3, rfl⟩ := r3.form
    have z3 := b3.size
    clear r3 b3 s2 R2
    have c3 := s3.out.get (b := w.heap.size) (o := 0) (v := .slice md xs.length mc) (by simp)
    go_wp2_with fail
    refine (to_mem _ _ xs (by omega) (RI.out.below s3.out.below)).mono ?_
    rintro e w4 ⟨v4, rfl, r4, b4⟩
    have s4 := hidIt ((s3.out.grow b4).row (Nat.le_refl _) r4)
    obtain ⟨a4, k4, rfl⟩ := r4.form
    have R4 := hidIt r4
    have z4 := b4.size
    clear r4 b4 c3 s3
    have t4 := hidIt (s4.out.box (.slice a4 xs.length k4) 28)
    go_wp2_with fail
    refine (HI.out _ _ _ _ (by simp) (R4.out.alloc (Nat.le_refl _) _)).mono ?_
    rintro e w5 ⟨v5, rfl, r5, b5⟩
    have s5 := hidIt ((t4.out.grow b5).row (Nat.le_refl _) r5)
    obtain ⟨a5, k5, rfl⟩ := r5.form
    have z5 := b5.size
    simp at z5
    clear r5 b5 t4 s4 R4
    go_wp2_with fail
    refine (eq_int _ _ _ _ _ _ _ L (by omega) (s5.out.at (.head _)).2 (s5.out.at (.tail _ (.tail _ (.head _)))).2).mono ?_
    rintro e w6 ⟨rfl, n6, rfl⟩
    have s6 := hidIt (s5.out.grow (below_drewN (Below.refl _ _) n6))
    generalize hw6 : w5.drewN n6 = w6 at s6 ⊢
    have z6 : w5.heap.size ≤ w6.heap.size := by rw [← hw6]; exact (below_drewN (Below.refl w5.heap.size w5) n6).size
    clear s5 hw6
    go_wp2_with fail
    obtain ⟨P, p0, pd, pg, ps⟩ := s6.out.pack
    have PD := hidIt pd
    have PG := hidIt pg
    have PS := hidIt ps
    have PC := hidIt (fun W (h : P W) => (⟨(ps W h).get (b := w.heap.size) (o := 0) (v := .slice md xs.length mc) (by simp), (ps W h).get (b := w4.heap.size) (o := 0) (v := .slice a4 xs.length k4) (by simp)⟩ : W.cell? ⟨w.heap.size, 0, none⟩ = some (.slice md xs.length mc) ∧ W.cell? ⟨w4.heap.size, 0, none⟩ = some (.slice a4 xs.length k4)))
    have h6 := and_mk PC.out p0
    clear pd pg ps p0 s6
    go_region_held3 (fun w' => P w' ∧ w'.cell? ⟨w.heap.size, 0, none⟩ = some (.slice md xs.length mc) ∧ w'.cell? ⟨w4.heap.size, 0, none⟩ = some (.slice a4 xs.length k4))
      (first | exact and_mk PC.out (PD.out _ (And.left (by assumption))) | exact and_mk PC.out (PG.out _ _ (And.left (by assumption)) (by assumption)))
      (first | (go_at_call 11; refine (to_mem _ _ xs (by omega) (RI.out.below (PS.out _ (And.left (by assumption))).below)).mono ?_; rintro e wa ⟨va, rfl, ra, ba⟩; obtain ⟨aa, ca, rfl⟩ := ra.form) | (go_at_call 14; refine (eq_mem _ _ _ _ _ _ _ xs (by omega) ((PS.out _ (And.left (by assumption))).at (.tail _ (.head _))).1 (Nat.le_refl _) ((PS.out _ (And.left (by assumption))).at (.tail _ (.head _))).2 ra).mono ?_; rintro e w7 ⟨rfl, b7⟩))
    rename_i h7
    have s7 := hidIt (PS.out _ h7.1).front1
    have z7 : w6.heap.size ≤ w7.heap.size := by have := b7.size; have := ba.size; simp at *; omega
    clear PD PG PC PS h6 h7 ra ba b7
    have c7 := s7.out.get (b := w4.heap.size) (o := 0) (v := .slice a4 xs.length k4) (by simp)
    go_wp2_with fail
    refine (mark_mem _ _ _ _ xs 1 (by omega) (by omega) (s7.out.at (.head _)).1 (s7.out.at (.head _)).2).mono ?_
    rintro e w8 ⟨rfl, r8, o8⟩
    have s8 := hidIt (s7.out.mark1 o8 r8 (by omega) (by intro b o v h; simp at h; omega) (by intro l k v zs h; simp at h; omega))
    have z8 := o8.size
    clear r8 o8 s7 c7
    go_wp2_with fail
    refine (eq_int _ _ _ _ _ _ _ L (by omega) (s8.out.at (.tail _ (.head _))).2 (s8.out.at (.tail _ (.tail _ (.head _)))).2).mono ?_
    rintro e w9 ⟨rfl, n9, rfl⟩
    have s9 := hidIt (s8.out.grow (below_drewN (Below.refl _ _) n9)).front1
    generalize hw9 : w8.drewN n9 = w9 at s9 ⊢
    have z9 : w8.heap.size ≤ w9.heap.size := by rw [← hw9]; exact (below_drewN (Below.refl w8.heap.size w8) n9).size
    clear s8 hw9
    go_wp2_with fail
    refine (mark_int _ _ _ _ L 1 (by omega) (by omega) (s9.out.at (.head _)).1 (s9.out.at (.head _)).2).mono ?_
    rintro e w10 ⟨rfl, r10, o10⟩
    have s10 := hidIt (s9.out.mark1 o10 r10 (by simp <;> omega) (by intro b o v h; simp at h; simp; omega) (by intro l k v zs h; simp at h; simp; omega))
    have z10 := o10.size
    clear r10 o10 s9
    go_wp2_with fail
    refine (held_int _ _ _ _ L.length 1 (by omega) (by omega) (s10.out.at (.head _)).2).mono ?_
    rintro e w10 ⟨rfl, rfl⟩
    have c11 := s10.out.get (b := w.heap.size) (o := 0) (v := .slice md xs.length mc) (by simp)
    go_wp2_with fail
    refine (to_mem _ _ xs (by omega) (RI.out.below s10.out.below)).mono ?_
    rintro e w12 ⟨v12, rfl, r12, b12⟩
    have s12 := hidIt (s10.out.grow b12)
    have R12 := hidIt r12
    obtain ⟨a12, k12, rfl⟩ := r12.form
    have z12 := b12.size
    clear r12 b12 c11 s10
    go_wp2_with fail
    refine (HI.out _ _ _ _ (Nat.le_refl _) R12.out).mono ?_
    rintro e w13 ⟨v13, rfl, r13, b13⟩
    have s13 := hidIt ((s12.out.grow b13).row (Nat.le_refl _) r13)
    obtain ⟨a13, k13, rfl⟩ := r13.form
    have z13 := b13.size
    clear r13 b13 s12 R12
    go_wp2_with fail
    refine (eq_int _ _ _ _ _ _ _ L (by omega) (s13.out.at (.head _)).2 (s13.out.at (.tail _ (.tail _ (.tail _ (.head _))))).2).mono ?_
    rintro e w14 ⟨rfl, n14, rfl⟩
    have s14 := hidIt (s13.out.grow (below_drewN (Below.refl _ _) n14))
    clear s13
    go_wp2_with fail
    refine (held_int _ _ _ _ L.length 1 (by omega) (by omega) (s14.out.at (.tail _ (.head _))).2).mono ?_
    rintro e w15 ⟨rfl, rfl⟩
    go_wp2
    go_ret
    exact ⟨rfl, s14.out.below⟩
  · go_enter Try.func8, Try.ntmps8
    go_wp2_with fail
    refine (sz_mem md xs.length mc 1048576 _ (by omega) (by omega) (by omega)).mono ?_
    rintro e w1 ⟨rfl, b1⟩
    rw [if_pos (by omega)]
    go_wp2
    go_ret
    exact ⟨rfl, ((Below.refl _ _).alloc (Nat.le_refl _) _).trans (b1.mono (by simp <;> omega))⟩

end Go.Proofs.Ytomfdbglnedpcaa
