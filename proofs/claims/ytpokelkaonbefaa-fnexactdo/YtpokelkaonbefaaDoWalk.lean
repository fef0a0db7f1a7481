/- The walk of the law of Do. -/
import Derived.Test.YtpokelkaonbefaaRows
import Derived.WalkKit
import Derived.ProofKit
import Derived.OpenShut
import Derived.ShutString
import Derived.Test.YtpokelkaonbefaaDoFns
import Derived.Test.YtpokelkaonbefaaGotMem
import Derived.Deep.RegionHeld3
import Derived.Deep.DeepCutAuto
namespace Go.Proofs.Ytpokelkaonbefaa
open Go.ChangeShapes Go.WideShapes Go.ChangeAt Go.RowKit
set_option linter.unusedVariables false

set_option maxHeartbeats 3200000 in
set_option maxRecDepth 100000 in
theorem walk_Do (m0 : Value) (xs : List Int) (k t a b : Int) (w : World) (r0 : InRow w m0 xs) (n0 : xs.length ≤ maxLen) :
    Calls Try.prog 4 #[.agg #[m0], .agg #[.int .i64 k, .int .i64 t, .int .i64 a, .int .i64 b]] w fun e w' => e = .returned (.bool true) ∧ Below w.heap.size w w' := by
  have RI := hidIt r0
  obtain ⟨md, mc, rfl, -⟩ := r0
  unfold maxLen at n0
  by_cases hs : xs.length ≤ 1048576
  · have HS := hidIt (fun lo hi v W => spec_do lo hi v xs k t a b W (by omega))
    have HI := hidIt (fun lo hi v W => impl_do lo hi v xs k t a b W (by omega))
    have hl := doL_len xs k t a b
    generalize doL xs k t a b = L at HS HI hl
    generalize doT xs k t a b = D at HS HI
    generalize actB xs.length k t a b = B at HS HI
    have s0 := hidIt (((St.start w).box (.slice md xs.length mc) 24).box4 (.int .i64 k) (.int .i64 t) (.int .i64 a) (.int .i64 b) 26)
    go_enter Try.func4, Try.ntmps4
    go_wp2_with fail
    refine (sz_mem md xs.length mc 1048576 _ (by omega) (by omega) (by omega)).mono ?_
    rintro e w1 ⟨rfl, b1⟩
    rw [if_neg (by omega)]
    have z1 := b1.size
    simp at z1
    have s1 := s0.out.grow b1
    rw [show (w.alloc (.cells #[.slice md xs.length mc] 24)).heap.size = w.heap.size + 1 from by simp] at s1
    have S1 := hidIt s1
    have PC := hidIt (fun W (h : Below w1.heap.size w1 W) => (⟨(s1.grow h).get (by simp), (s1.grow h).get (by simp), (s1.grow h).get (by simp), (s1.grow h).get (by simp), (s1.grow h).get (by simp)⟩ : W.cell? ⟨w.heap.size, 0, none⟩ = some (.slice md xs.length mc) ∧ W.cell? ⟨w.heap.size + 1, 0, none⟩ = some (.int .i64 k) ∧ W.cell? ⟨w.heap.size + 1, 1, none⟩ = some (.int .i64 t) ∧ W.cell? ⟨w.heap.size + 1, 2, none⟩ = some (.int .i64 a) ∧ W.cell? ⟨w.heap.size + 1, 3, none⟩ = some (.int .i64 b)))
    have h1 := and_mk PC.out (Below.refl _ w1)
    have q0 : w1.heap.size ≤ w1.heap.size := Nat.le_refl _
    clear s1 b1 s0
    go_wp2_with fail
    go_cut [6, 7, 8] from 24 to 32 (fun x6 x7 x8 wc => x7 = .int .i64 D ∧ x8 = .bool B ∧ Got w w1 L [(w.heap.size + 1, 0, .int .i64 k), (w.heap.size + 1, 1, .int .i64 t), (w.heap.size + 1, 2, .int .i64 a), (w.heap.size + 1, 3, .int .i64 b), (w.heap.size, 0, .slice md xs.length mc)] [] x6 wc)
    case first =>
      go_region_held3 (fun W => Below w1.heap.size w1 W ∧ W.cell? ⟨w.heap.size, 0, none⟩ = some (.slice md xs.length mc) ∧ W.cell? ⟨w.heap.size + 1, 0, none⟩ = some (.int .i64 k) ∧ W.cell? ⟨w.heap.size + 1, 1, none⟩ = some (.int .i64 t) ∧ W.cell? ⟨w.heap.size + 1, 2, none⟩ = some (.int .i64 a) ∧ W.cell? ⟨w.heap.size + 1, 3, none⟩ = some (.int .i64 b))
        (first | exact and_mk PC.out (Below.drew (And.left (by assumption))) | exact and_mk PC.out (below_step (And.left (by assumption)) (by assumption)) | exact and_mk PC.out (below_al (And.left (by assumption)) _) | exact and_mk PC.out (below_al g2 _) | exact and_mk PC.out (below_st (And.left (by assumption)) (by omega)))
        (first | (go_at_call 10; refine (to_mem _ _ xs (by omega) (RI.out.below (S1.out.grow (And.left (by assumption))).below)).mono ?_; rintro e wa ⟨va, rfl, ra, ba⟩; obtain ⟨aa, ca, rfl⟩ := ra.form; have za := ba.size; (try simp at za); (try (refine have_intro (P := wa.cell? ⟨w1.heap.size, 0, none⟩ = some (.slice none 0 0)) ?_ (fun u1 => ?_); (focus (refine below_cell ba ?_ ?_ <;> (simp [go_sem] <;> fail))))); (try (refine have_intro (P := wa.frozen? ⟨w1.heap.size, 0, none⟩ = false) ?_ (fun u2 => ?_); (focus (refine below_frozen ba ?_ ?_ <;> (simp [go_sem] <;> fail)))))) | (go_at_call 11; refine (to_act k t a b _).mono ?_; rintro e wb ⟨rfl, bb⟩; have zb := bb.size; (try simp at zb); have gb : Below wa.heap.size wa wb := (by first | exact bb | exact ((Below.refl _ _).alloc (Nat.le_refl _) _).trans (bb.mono (by simp))); (try (refine have_intro (P := wb.cell? ⟨w1.heap.size, 0, none⟩ = some (.slice none 0 0)) ?_ (fun v1 => ?_); (focus (refine below_cell gb ?_ u1; omega)))); (try (refine have_intro (P := wb.frozen? ⟨w1.heap.size, 0, none⟩ = false) ?_ (fun v2 => ?_); (focus (refine below_frozen gb ?_ u2; omega)))); (try (refine have_intro (P := wb.cell? ⟨wa.heap.size, 0, none⟩ = some (.slice none 0 0)) ?_ (fun v3 => ?_); (focus (refine below_cell bb ?_ ?_ <;> (simp [go_sem] <;> fail))))); (try (refine have_intro (P := wb.frozen? ⟨wa.heap.size, 0, none⟩ = false) ?_ (fun v4 => ?_); (focus (refine below_frozen bb ?_ ?_ <;> (simp [go_sem] <;> fail)))))) | (go_at_call 14; refine (HS.out _ _ _ _ (by first | exact gb.size | (have := gb.size; simp; omega)) (ra.below (by first | exact gb | exact gb.alloc gb.size _))).mono ?_; rintro e w2 ⟨v2, rfl, r2, b2⟩; obtain ⟨a2, k2, rfl⟩ := r2.form; have g2 := below_step (W := w1) (And.left (by assumption)) b2; have zc := b2.size; (try simp at zc); (try (refine have_intro (P := w2.cell? ⟨w1.heap.size, 0, none⟩ = some (.slice none 0 0)) ?_ (fun x1 => ?_); (focus (refine below_cell b2 ?_ v1; omega)))); (try (refine have_intro (P := w2.frozen? ⟨w1.heap.size, 0, none⟩ = false) ?_ (fun x2 => ?_); (focus (refine below_frozen b2 ?_ v2; omega)))); (try (refine have_intro (P := w2.cell? ⟨wa.heap.size, 0, none⟩ = some (.slice none 0 0)) ?_ (fun x3 => ?_); (focus (refine below_cell b2 ?_ v3; omega)))); (try (refine have_intro (P := w2.frozen? ⟨wa.heap.size, 0, none⟩ = false) ?_ (fun x4 => ?_); (focus (refine below_frozen b2 ?_ v4; omega)))); (try (refine have_intro (P := w2.cell? ⟨wb.heap.size, 0, none⟩ = some (.slice none 0 0)) ?_ (fun x5 => ?_); (focus (refine below_cell b2 ?_ ?_ <;> (simp [go_sem] <;> fail))))); (try (refine have_intro (P := w2.frozen? ⟨wb.heap.size, 0, none⟩ = false) ?_ (fun x6 => ?_); (focus (refine below_frozen b2 ?_ ?_ <;> (simp [go_sem] <;> fail)))))))
      all_goals
        go_wp2_with fail
        go_meet
        first
          | exact ⟨rfl, rfl, got_last _ S1.out g2 (by omega) (by omega) r2⟩
          | exact ⟨rfl, rfl, got_put S1.out g2 (by first | omega | (simp <;> omega)) (by first | omega | (simp <;> omega)) (by omega) x5 r2⟩
          | exact ⟨rfl, rfl, got_put S1.out g2 (by first | omega | (simp <;> omega)) (by first | omega | (simp <;> omega)) (by omega) x3 r2⟩
          | exact ⟨rfl, rfl, got_put S1.out g2 (by first | omega | (simp <;> omega)) (by first | omega | (simp <;> omega)) (by omega) x1 r2⟩
    case rest =>
    rename World => w3
    obtain ⟨rfl, rfl, n3, a3, k3, l3, e3, rfl, p1, p2, p3, p4, p5, p6, s3⟩ := hcut
    have S3 := hidIt s3
    have y3 := (s3.at (.head _)).1
    have c3 := s3.get (b := w.heap.size) (o := 0) (v := .slice md xs.length mc) (by simp)
    clear s3 PC h1 S1 p3
    go_wp2_with fail
    refine (to_mem _ _ xs (by omega) (RI.out.below S3.out.below)).mono ?_
    rintro e w4 ⟨v4, rfl, r4, b4⟩
    have s4 := (S3.out.grow b4).row (Nat.le_refl _) r4
    obtain ⟨a4, k4, rfl⟩ := r4.form
    have z4 := b4.size
    have s5 := s4.box (.slice a4 xs.length k4) 29
    clear r4 b4 c3 s4 S3
    go_wp2_with fail
    generalize hw5 : w4.alloc (.cells #[.slice a4 xs.length k4] 29) = w5 at s5 ⊢
    have z5 : w4.heap.size + 1 ≤ w5.heap.size := by rw [← hw5]; simp
    have S5 := hidIt s5
    clear hw5 s5
    have PC := hidIt (fun W (h : Below w5.heap.size w5 W) => (⟨(S5.out.grow h).get (by simp), (S5.out.grow h).get (by simp), (S5.out.grow h).get (by simp), (S5.out.grow h).get (by simp), (S5.out.grow h).get (by simp)⟩ : W.cell? ⟨w4.heap.size, 0, none⟩ = some (.slice a4 xs.length k4) ∧ W.cell? ⟨w.heap.size + 1, 0, none⟩ = some (.int .i64 k) ∧ W.cell? ⟨w.heap.size + 1, 1, none⟩ = some (.int .i64 t) ∧ W.cell? ⟨w.heap.size + 1, 2, none⟩ = some (.int .i64 a) ∧ W.cell? ⟨w.heap.size + 1, 3, none⟩ = some (.int .i64 b)))
    have h5 := and_mk PC.out (Below.refl _ w5)
    go_cut [10, 11, 12] from 35 to 42 (fun x10 x11 x12 wc => x11 = .int .i64 D ∧ x12 = .bool B ∧ Got w w5 L [(w4.heap.size, 0, .slice a4 xs.length k4), (n3, 0, .slice a3 L.length k3), (w.heap.size + 1, 0, .int .i64 k), (w.heap.size + 1, 1, .int .i64 t), (w.heap.size + 1, 2, .int .i64 a), (w.heap.size + 1, 3, .int .i64 b), (w.heap.size, 0, .slice md xs.length mc)] [(w3.heap.size, w4.heap.size, .slice a4 xs.length k4, ints xs), (l3, e3, .slice a3 L.length k3, ints L)] x10 wc)
    case first =>
      go_region_held3 (fun W => Below w5.heap.size w5 W ∧ W.cell? ⟨w4.heap.size, 0, none⟩ = some (.slice a4 xs.length k4) ∧ W.cell? ⟨w.heap.size + 1, 0, none⟩ = some (.int .i64 k) ∧ W.cell? ⟨w.heap.size + 1, 1, none⟩ = some (.int .i64 t) ∧ W.cell? ⟨w.heap.size + 1, 2, none⟩ = some (.int .i64 a) ∧ W.cell? ⟨w.heap.size + 1, 3, none⟩ = some (.int .i64 b))
        (first | exact and_mk PC.out (Below.drew (And.left (by assumption))) | exact and_mk PC.out (below_step (And.left (by assumption)) (by assumption)) | exact and_mk PC.out (below_al (And.left (by assumption)) _) | exact and_mk PC.out (below_al g2 _) | exact and_mk PC.out (below_st (And.left (by assumption)) (by omega)))
        (first | (go_at_call 11; refine (to_act k t a b _).mono ?_; rintro e wb ⟨rfl, bb⟩; have zb := bb.size; (try simp at zb); (try (refine have_intro (P := wb.cell? ⟨w5.heap.size, 0, none⟩ = some (.slice none 0 0)) ?_ (fun v1 => ?_); (focus (refine below_cell bb ?_ ?_ <;> (simp [go_sem] <;> fail))))); (try (refine have_intro (P := wb.frozen? ⟨w5.heap.size, 0, none⟩ = false) ?_ (fun v2 => ?_); (focus (refine below_frozen bb ?_ ?_ <;> (simp [go_sem] <;> fail)))))) | (go_at_call 15; refine (HI.out _ _ _ _ ((S5.out.grow (And.left (by assumption))).at (.head _)).1 ((S5.out.grow (And.left (by assumption))).at (.head _)).2).mono ?_; rintro e w2 ⟨v2, rfl, r2, b2⟩; obtain ⟨a2, k2, rfl⟩ := r2.form; have g2 := below_step (W := w5) (And.left (by assumption)) b2; have zc := b2.size; (try simp at zc); (try (refine have_intro (P := w2.cell? ⟨w5.heap.size, 0, none⟩ = some (.slice none 0 0)) ?_ (fun x1 => ?_); (focus (refine below_cell b2 ?_ v1; omega)))); (try (refine have_intro (P := w2.frozen? ⟨w5.heap.size, 0, none⟩ = false) ?_ (fun x2 => ?_); (focus (refine below_frozen b2 ?_ v2; omega)))); (try (refine have_intro (P := w2.cell? ⟨wb.heap.size, 0, none⟩ = some (.slice none 0 0)) ?_ (fun x5 => ?_); (focus (refine below_cell b2 ?_ ?_ <;> (simp [go_sem] <;> fail))))); (try (refine have_intro (P := w2.frozen? ⟨wb.heap.size, 0, none⟩ = false) ?_ (fun x6 => ?_); (focus (refine below_frozen b2 ?_ ?_ <;> (simp [go_sem] <;> fail)))))))
      all_goals
        go_wp2_with fail
        go_meet
        first
          | exact ⟨rfl, rfl, got_last _ S5.out g2 (by omega) (by omega) r2⟩
          | exact ⟨rfl, rfl, got_put S5.out g2 (by first | omega | (simp <;> omega)) (by first | omega | (simp <;> omega)) (by omega) x5 r2⟩
          | exact ⟨rfl, rfl, got_put S5.out g2 (by first | omega | (simp <;> omega)) (by first | omega | (simp <;> omega)) (by omega) x1 r2⟩
    case rest =>
    rename World => w6
    obtain ⟨rfl, rfl, n6, a6, k6, l6, e6, rfl, p1', p2', p3', p4', p5', p6', s6⟩ := hcut
    have S6 := hidIt s6
    have y6 := (s6.at (.head _)).1
    have c6 := s6.get (b := n6) (o := 0) (v := .slice a6 L.length k6) (by simp)
    have d6 := s6.get (b := n3) (o := 0) (v := .slice a3 L.length k3) (by simp)
    clear s6 PC h5 S5
    go_wp2_with fail
    refine (eq_mem _ _ _ _ _ _ _ L (by omega) (S6.out.at (.head _)).1 (S6.out.at (.tail _ (.tail _ (.head _)))).1 (S6.out.at (.head _)).2 (S6.out.at (.tail _ (.tail _ (.head _)))).2).mono ?_
    rintro e w7 ⟨rfl, b7⟩
    have S7 := hidIt (S6.out.grow b7)
    have z7 := b7.size
    clear b7 c6 d6 S6
    have PC := hidIt (fun W (h : Below w7.heap.size w7 W) => (⟨(S7.out.grow h).get (by simp), (S7.out.grow h).get (by simp)⟩ : W.cell? ⟨w.heap.size, 0, none⟩ = some (.slice md xs.length mc) ∧ W.cell? ⟨w4.heap.size, 0, none⟩ = some (.slice a4 xs.length k4)))
    have h7 := and_mk PC.out (Below.refl _ w7)
    go_wp2_with fail
    go_region_held3 (fun W => Below w7.heap.size w7 W ∧ W.cell? ⟨w.heap.size, 0, none⟩ = some (.slice md xs.length mc) ∧ W.cell? ⟨w4.heap.size, 0, none⟩ = some (.slice a4 xs.length k4))
      (first | exact and_mk PC.out (Below.drew (And.left (by assumption))) | exact and_mk PC.out (below_step (And.left (by assumption)) (by assumption)) | exact and_mk PC.out (below_al (And.left (by assumption)) _) | exact and_mk PC.out (below_al g2 _) | exact and_mk PC.out (below_st (And.left (by assumption)) (by omega)))
      (first | (go_at_call 10; refine (to_mem _ _ xs (by omega) (RI.out.below (S7.out.grow (And.left (by assumption))).below)).mono ?_; rintro e wa ⟨va, rfl, ra, ba⟩; obtain ⟨aa, ca, rfl⟩ := ra.form) | (go_at_call 13; refine (eq_mem _ _ _ _ _ _ _ xs (by omega) ((S7.out.grow (And.left (by assumption))).at (.tail _ (.head _))).1 (Nat.le_refl _) ((S7.out.grow (And.left (by assumption))).at (.tail _ (.head _))).2 ra).mono ?_; rintro e w8 ⟨rfl, b8⟩))
    rename_i h8
    have z8 := h8.1.size
    have S8 := hidIt (S7.out.grow h8.1).front1
    clear PC h7 h8 ra ba b8 S7
    have c8 := S8.out.get (b := w4.heap.size) (o := 0) (v := .slice a4 xs.length k4) (by simp)
    go_wp2_with fail
    refine (mark_mem _ _ _ _ xs 1 (by omega) (by omega) (S8.out.at (.head _)).1 (S8.out.at (.head _)).2).mono ?_
    rintro e w9 ⟨rfl, r9, o9⟩
    have S9 := hidIt (S8.out.mark1 o9 r9 (by omega) (by intro b o v h; simp at h; omega) (by intro l k v zs h; simp at h; omega))
    have z9 := o9.size
    clear r9 o9 S8 c8
    have c9 := S9.out.get (b := n6) (o := 0) (v := .slice a6 L.length k6) (by simp)
    have d9 := S9.out.get (b := n3) (o := 0) (v := .slice a3 L.length k3) (by simp)
    go_wp2_with fail
    refine (eq_mem _ _ _ _ _ _ _ L (by omega) (S9.out.at (.tail _ (.head _))).1 (S9.out.at (.tail _ (.tail _ (.head _)))).1 (S9.out.at (.tail _ (.head _))).2 (S9.out.at (.tail _ (.tail _ (.head _)))).2).mono ?_
    rintro e w10 ⟨rfl, b10⟩
    have S10 := hidIt (S9.out.grow b10).front1
    have z10 := b10.size
    clear b10 c9 d9 S9
    have c10 := S10.out.get (b := n6) (o := 0) (v := .slice a6 L.length k6) (by simp)
    go_wp2_with fail
    refine (mark_mem _ _ _ _ L 1 (by omega) (by omega) (S10.out.at (.head _)).1 (S10.out.at (.head _)).2).mono ?_
    rintro e w11 ⟨rfl, r11, o11⟩
    have S11 := hidIt (S10.out.mark1 o11 r11 (by omega) (by intro b o v h; simp at h; omega) (by intro l k v zs h; simp at h; omega))
    have z11 := o11.size
    clear r11 o11 S10 c10
    have c11 := S11.out.get (b := n6) (o := 0) (v := .slice a6 L.length k6) (by simp)
    go_wp2_with fail
    refine (held_mem _ _ _ _ L.length 1 (by omega) (by omega) (S11.out.at (.head _)).1 (S11.out.at (.head _)).2).mono ?_
    rintro e w12 ⟨rfl, b12⟩
    have S12 := hidIt (S11.out.grow b12)
    have z12 := b12.size
    clear b12 c11 S11
    have PC := hidIt (fun W (h : Below w12.heap.size w12 W) => (⟨(S12.out.grow h).get (by simp), (S12.out.grow h).get (by simp), (S12.out.grow h).get (by simp), (S12.out.grow h).get (by simp), (S12.out.grow h).get (by simp)⟩ : W.cell? ⟨w.heap.size, 0, none⟩ = some (.slice md xs.length mc) ∧ W.cell? ⟨w.heap.size + 1, 0, none⟩ = some (.int .i64 k) ∧ W.cell? ⟨w.heap.size + 1, 1, none⟩ = some (.int .i64 t) ∧ W.cell? ⟨w.heap.size + 1, 2, none⟩ = some (.int .i64 a) ∧ W.cell? ⟨w.heap.size + 1, 3, none⟩ = some (.int .i64 b)))
    have h12 := and_mk PC.out (Below.refl _ w12)
    go_wp2_with fail
    go_cut [16, 17, 18] from 94 to 102 (fun x16 x17 x18 wc => x17 = .int .i64 D ∧ x18 = .bool B ∧ Got w w12 L [(n6, 0, .slice a6 L.length k6), (w4.heap.size, 0, .slice a4 xs.length k4), (n3, 0, .slice a3 L.length k3), (w.heap.size + 1, 0, .int .i64 k), (w.heap.size + 1, 1, .int .i64 t), (w.heap.size + 1, 2, .int .i64 a), (w.heap.size + 1, 3, .int .i64 b), (w.heap.size, 0, .slice md xs.length mc)] [(l6, e6, .slice a6 L.length k6, imarks 1 L.length), (w3.heap.size, w4.heap.size, .slice a4 xs.length k4, imarks 1 xs.length), (l3, e3, .slice a3 L.length k3, ints L)] x16 wc)
    case first =>
      go_region_held3 (fun W => Below w12.heap.size w12 W ∧ W.cell? ⟨w.heap.size, 0, none⟩ = some (.slice md xs.length mc) ∧ W.cell? ⟨w.heap.size + 1, 0, none⟩ = some (.int .i64 k) ∧ W.cell? ⟨w.heap.size + 1, 1, none⟩ = some (.int .i64 t) ∧ W.cell? ⟨w.heap.size + 1, 2, none⟩ = some (.int .i64 a) ∧ W.cell? ⟨w.heap.size + 1, 3, none⟩ = some (.int .i64 b))
        (first | exact and_mk PC.out (Below.drew (And.left (by assumption))) | exact and_mk PC.out (below_step (And.left (by assumption)) (by assumption)) | exact and_mk PC.out (below_al (And.left (by assumption)) _) | exact and_mk PC.out (below_al g2 _) | exact and_mk PC.out (below_st (And.left (by assumption)) (by omega)))
        (first | (go_at_call 10; refine (to_mem _ _ xs (by omega) (RI.out.below (S12.out.grow (And.left (by assumption))).below)).mono ?_; rintro e wa ⟨va, rfl, ra, ba⟩; obtain ⟨aa, ca, rfl⟩ := ra.form; have za := ba.size; (try simp at za); (try (refine have_intro (P := wa.cell? ⟨w12.heap.size, 0, none⟩ = some (.slice none 0 0)) ?_ (fun u1 => ?_); (focus (refine below_cell ba ?_ ?_ <;> (simp [go_sem] <;> fail))))); (try (refine have_intro (P := wa.frozen? ⟨w12.heap.size, 0, none⟩ = false) ?_ (fun u2 => ?_); (focus (refine below_frozen ba ?_ ?_ <;> (simp [go_sem] <;> fail)))))) | (go_at_call 11; refine (to_act k t a b _).mono ?_; rintro e wb ⟨rfl, bb⟩; have zb := bb.size; (try simp at zb); have gb : Below wa.heap.size wa wb := (by first | exact bb | exact ((Below.refl _ _).alloc (Nat.le_refl _) _).trans (bb.mono (by simp))); (try (refine have_intro (P := wb.cell? ⟨w12.heap.size, 0, none⟩ = some (.slice none 0 0)) ?_ (fun v1 => ?_); (focus (refine below_cell gb ?_ u1; omega)))); (try (refine have_intro (P := wb.frozen? ⟨w12.heap.size, 0, none⟩ = false) ?_ (fun v2 => ?_); (focus (refine below_frozen gb ?_ u2; omega)))); (try (refine have_intro (P := wb.cell? ⟨wa.heap.size, 0, none⟩ = some (.slice none 0 0)) ?_ (fun v3 => ?_); (focus (refine below_cell bb ?_ ?_ <;> (simp [go_sem] <;> fail))))); (try (refine have_intro (P := wb.frozen? ⟨wa.heap.size, 0, none⟩ = false) ?_ (fun v4 => ?_); (focus (refine below_frozen bb ?_ ?_ <;> (simp [go_sem] <;> fail)))))) | (go_at_call 15; refine (HI.out _ _ _ _ (by first | exact gb.size | (have := gb.size; simp; omega)) (ra.below (by first | exact gb | exact gb.alloc gb.size _))).mono ?_; rintro e w2 ⟨v2, rfl, r2, b2⟩; obtain ⟨a2, k2, rfl⟩ := r2.form; have g2 := below_step (W := w12) (And.left (by assumption)) b2; have zc := b2.size; (try simp at zc); (try (refine have_intro (P := w2.cell? ⟨w12.heap.size, 0, none⟩ = some (.slice none 0 0)) ?_ (fun x1 => ?_); (focus (refine below_cell b2 ?_ v1; omega)))); (try (refine have_intro (P := w2.frozen? ⟨w12.heap.size, 0, none⟩ = false) ?_ (fun x2 => ?_); (focus (refine below_frozen b2 ?_ v2; omega)))); (try (refine have_intro (P := w2.cell? ⟨wa.heap.size, 0, none⟩ = some (.slice none 0 0)) ?_ (fun x3 => ?_); (focus (refine below_cell b2 ?_ v3; omega)))); (try (refine have_intro (P := w2.frozen? ⟨wa.heap.size, 0, none⟩ = false) ?_ (fun x4 => ?_); (focus (refine below_frozen b2 ?_ v4; omega)))); (try (refine have_intro (P := w2.cell? ⟨wb.heap.size, 0, none⟩ = some (.slice none 0 0)) ?_ (fun x5 => ?_); (focus (refine below_cell b2 ?_ ?_ <;> (simp [go_sem] <;> fail))))); (try (refine have_intro (P := w2.frozen? ⟨wb.heap.size, 0, none⟩ = false) ?_ (fun x6 => ?_); (focus (refine below_frozen b2 ?_ ?_ <;> (simp [go_sem] <;> fail)))))))
      all_goals
        go_wp2_with fail
        go_meet
        first
          | exact ⟨rfl, rfl, got_last _ S12.out g2 (by omega) (by omega) r2⟩
          | exact ⟨rfl, rfl, got_put S12.out g2 (by first | omega | (simp <;> omega)) (by first | omega | (simp <;> omega)) (by omega) x5 r2⟩
          | exact ⟨rfl, rfl, got_put S12.out g2 (by first | omega | (simp <;> omega)) (by first | omega | (simp <;> omega)) (by omega) x3 r2⟩
          | exact ⟨rfl, rfl, got_put S12.out g2 (by first | omega | (simp <;> omega)) (by first | omega | (simp <;> omega)) (by omega) x1 r2⟩
    case rest =>
    rename World => w13
    obtain ⟨rfl, rfl, n13, a13, k13, l13, e13, rfl, -, -, -, -, -, -, s13⟩ := hcut
    have S13 := hidIt s13
    have c13 := s13.get (b := n13) (o := 0) (v := .slice a13 L.length k13) (by simp)
    have d13 := s13.get (b := n3) (o := 0) (v := .slice a3 L.length k3) (by simp)
    clear s13 PC h12 S12
    go_wp2_with fail
    refine (eq_mem _ _ _ _ _ _ _ L (by omega) (S13.out.at (.head _)).1 (S13.out.at (.tail _ (.tail _ (.tail _ (.head _))))).1 (S13.out.at (.head _)).2 (S13.out.at (.tail _ (.tail _ (.tail _ (.head _))))).2).mono ?_
    rintro e w14 ⟨rfl, b14⟩
    have S14 := hidIt (S13.out.grow b14)
    clear b14 c13 d13 S13
    have c14 := S14.out.get (b := n6) (o := 0) (v := .slice a6 L.length k6) (by simp)
    go_wp2_with fail
    refine (held_mem _ _ _ _ L.length 1 (by omega) (by omega) (S14.out.at (.tail _ (.head _))).1 (S14.out.at (.tail _ (.head _))).2).mono ?_
    rintro e w15 ⟨rfl, b15⟩
    go_wp2
    go_ret
    exact ⟨rfl, (S14.out.grow b15).below⟩
  · go_enter Try.func4, Try.ntmps4
    go_wp2_with fail
    refine (sz_mem md xs.length mc 1048576 _ (by omega) (by omega) (by omega)).mono ?_
    rintro e w1 ⟨rfl, b1⟩
    rw [if_pos (by omega)]
    go_wp2
    go_ret
    exact ⟨rfl, (((Below.refl _ _).alloc (Nat.le_refl _) _).alloc (by simp) _).trans (b1.mono (by simp <;> omega))⟩

end Go.Proofs.Ytpokelkaonbefaa
