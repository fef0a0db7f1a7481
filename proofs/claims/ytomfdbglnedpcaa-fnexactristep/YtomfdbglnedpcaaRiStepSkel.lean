/- The walk of the law of RiStep, over the contracts of the two functions. -/
import Derived.Test.YtomfdbglnedpcaaRows
import Derived.WalkKit
import Derived.ProofKit
import Derived.OpenShut
import Derived.ShutString
import Derived.Test.YtomfdbglnedpcaaSbPlain
import Derived.Test.YtomfdbglnedpcaaRiPlain
import Derived.Test.YtomfdbglnedpcaaMemFns
import Derived.Deep.RegionHeld3
import Derived.Deep.DeepCutAuto
import Derived.Deep.DrawnRows
namespace Go.Proofs.Ytomfdbglnedpcaa
open Go.ChangeShapes Go.WideShapes Go.ChangeAt Go.RowKit
attribute [local go_sem ↓] Go.wp_at_zero Go.wp_at_succ
set_option linter.unusedVariables false

structure Shut (p : Prop) : Prop where
  out : p
set_option maxHeartbeats 64000000 in
set_option maxRecDepth 100000 in
def riSkel : (P1 : Prop) ×' (P2 : Prop) ×' (P3 : Prop) ×' (Shut P1 → Shut P2 → Shut P3 → ∀ (n : Int) (c : Cl) (m0 : Value) (xs L : List Int) (co : Cl) (B : Bool) (w : World) (r0 : InRow w m0 xs) (n0 : xs.length ≤ maxLen) (hl : L.length ≤ 4194304)
    (hS : xs.length ≤ 1048576 → ∀ lo hi v W, hi ≤ W.heap.size → Row W lo hi v (ints xs) → Calls Try.prog 10 #[.int .i64 n, .agg #[v], .agg #[.int .i64 c.k, .int .i64 c.a, .int .i64 c.x, .int .i64 c.pc, .int .i64 c.p, .int .i64 c.c, .int .i64 c.w, .int .i64 c.r, .int .i64 c.v, .bool c.d]] W fun e w' => ∃ v', e = .returned (.tuple #[.agg #[v'], .agg #[.int .i64 co.k, .int .i64 co.a, .int .i64 co.x, .int .i64 co.pc, .int .i64 co.p, .int .i64 co.c, .int .i64 co.w, .int .i64 co.r, .int .i64 co.v, .bool co.d], .bool B]) ∧ Row w' W.heap.size w'.heap.size v' (ints L) ∧ Below W.heap.size W w')
    (hI : xs.length ≤ 1048576 → ∀ lo hi v W, hi ≤ W.heap.size → Row W lo hi v (ints xs) → Calls Try.prog 13 #[.int .i64 n, .agg #[v], .agg #[.int .i64 c.k, .int .i64 c.a, .int .i64 c.x, .int .i64 c.pc, .int .i64 c.p, .int .i64 c.c, .int .i64 c.w, .int .i64 c.r, .int .i64 c.v, .bool c.d]] W fun e w' => ∃ v', e = .returned (.tuple #[.agg #[v'], .agg #[.int .i64 co.k, .int .i64 co.a, .int .i64 co.x, .int .i64 co.pc, .int .i64 co.p, .int .i64 co.c, .int .i64 co.w, .int .i64 co.r, .int .i64 co.v, .bool co.d], .bool B]) ∧ Row w' W.heap.size w'.heap.size v' (ints L) ∧ Below W.heap.size W w'),
    Calls Try.prog 3 #[.int .i64 n, .agg #[m0], .agg #[.int .i64 c.k, .int .i64 c.a, .int .i64 c.x, .int .i64 c.pc, .int .i64 c.p, .int .i64 c.c, .int .i64 c.w, .int .i64 c.r, .int .i64 c.v, .bool c.d]] w fun e w' => e = .returned (.bool true) ∧ Below w.heap.size w w') := by
  refine' ⟨_, _, _, ?_⟩
  rotate_left 3
  intro H1 H2 H3 n c m0 xs L co B w r0 n0 hl hS hI
  have RI := hidIt r0
  obtain ⟨md, mc, rfl, -⟩ := r0
  unfold maxLen at n0
  by_cases hs : xs.length ≤ 1048576
  · have HS := hidIt (hS hs)
    have HI := hidIt (hI hs)
    clear hS hI
    have s0 := hidIt (((Sb.start w).box #[.slice md xs.length mc] 24).box #[Value.int .i64 c.k, .int .i64 c.a, .int .i64 c.x, .int .i64 c.pc, .int .i64 c.p, .int .i64 c.c, .int .i64 c.w, .int .i64 c.r, .int .i64 c.v, .bool c.d] 26)
    go_enter Try.func3, Try.ntmps3
    go_wp2_with fail
    refine (sz_mem md xs.length mc 1048576 _ (by omega) (by omega) (by omega)).mono ?_
    rintro e w1 ⟨rfl, b1⟩
    rw [if_neg (by omega)]
    have z1 := b1.size
    simp at z1
    have s1 := s0.out.grow b1
    rw [show (w.alloc (.cells #[.slice md xs.length mc] 24)).heap.size = w.heap.size + 1 from by simp] at s1
    have S0 := hidIt s1
    clear s1 b1 s0
    go_wp2_with fail
    have PC := hidIt (fun W (h : Below w1.heap.size w1 W) => (⟨(S0.out.grow h).get (by simp), (S0.out.grow h).get (by simp)⟩ : (∀ o, W.cell? ⟨w.heap.size, o, none⟩ = #[Value.slice md xs.length mc][o]?) ∧ (∀ o, W.cell? ⟨w.heap.size + 1, o, none⟩ = #[Value.int .i64 c.k, .int .i64 c.a, .int .i64 c.x, .int .i64 c.pc, .int .i64 c.p, .int .i64 c.c, .int .i64 c.w, .int .i64 c.r, .int .i64 c.v, .bool c.d][o]?)))
    have h1 := and_mk PC.out (Below.refl _ w1)
    go_cut [8, 9, 10] (fun x8 x9 x10 wc => x10 = .bool B ∧ Got2 w w1 L #[Value.int .i64 co.k, .int .i64 co.a, .int .i64 co.x, .int .i64 co.pc, .int .i64 co.p, .int .i64 co.c, .int .i64 co.w, .int .i64 co.r, .int .i64 co.v, .bool co.d] [(w.heap.size + 1, #[Value.int .i64 c.k, .int .i64 c.a, .int .i64 c.x, .int .i64 c.pc, .int .i64 c.p, .int .i64 c.c, .int .i64 c.w, .int .i64 c.r, .int .i64 c.v, .bool c.d]), (w.heap.size, #[Value.slice md xs.length mc])] [] x8 x9 wc)
    case first =>
      rename (Exit → Act → World → Prop) => Q1
      rename_i K1 a1 J K2 aJ aK
      clear a1
      clear K1
      clear_value Q1
      revert n c xs L co B w md mc w1 J K2 Q1
      exact H1.out
    case rest =>
    rename World => w3
    obtain ⟨rfl, n3, m3, a3, k3, l3, e3, rfl, rfl, p1, p2, p3, p4, p5, p6, p7, s3⟩ := hcut
    have S3 := hidIt s3
    have i3 := (s3.blocks n3 _ (.head _)).1
    have j3 := (s3.blocks m3 _ (.tail _ (.head _))).1
    have y3 := (s3.at (.head _)).1
    have c3 := s3.get (b := w.heap.size) (cs := #[Value.slice md xs.length mc]) (by simp)
    clear s3 PC h1 S0
    go_wp2_with fail
    refine (to_mem _ _ xs (by omega) (RI.out.below S3.out.below)).mono ?_
    rintro e w4 ⟨v4, rfl, r4, b4⟩
    have s4 := (S3.out.grow b4).row (Nat.le_refl _) r4
    obtain ⟨a4, k4, rfl⟩ := r4.form
    have z4 := b4.size
    have s5 := s4.box #[.slice a4 xs.length k4] 28
    clear r4 b4 c3 s4 S3
    go_wp2_with fail
    generalize hw5 : w4.alloc (.cells #[.slice a4 xs.length k4] 28) = w5 at s5 ⊢
    have z5 : w4.heap.size + 1 ≤ w5.heap.size := by rw [← hw5]; simp
    have S0 := hidIt s5
    clear hw5 s5
    have PC := hidIt (fun W (h : Below w5.heap.size w5 W) => (⟨(S0.out.grow h).get (by simp), (S0.out.grow h).get (by simp)⟩ : (∀ o, W.cell? ⟨w4.heap.size, o, none⟩ = #[Value.slice a4 xs.length k4][o]?) ∧ (∀ o, W.cell? ⟨w.heap.size + 1, o, none⟩ = #[Value.int .i64 c.k, .int .i64 c.a, .int .i64 c.x, .int .i64 c.pc, .int .i64 c.p, .int .i64 c.c, .int .i64 c.w, .int .i64 c.r, .int .i64 c.v, .bool c.d][o]?)))
    have h1 := and_mk PC.out (Below.refl _ w5)
    go_cut [12, 13, 14] (fun x8 x9 x10 wc => x10 = .bool B ∧ Got2 w w5 L #[Value.int .i64 co.k, .int .i64 co.a, .int .i64 co.x, .int .i64 co.pc, .int .i64 co.p, .int .i64 co.c, .int .i64 co.w, .int .i64 co.r, .int .i64 co.v, .bool co.d] [(w4.heap.size, #[Value.slice a4 xs.length k4]), (n3, #[Value.slice a3 L.length k3]), (m3, #[Value.int .i64 co.k, .int .i64 co.a, .int .i64 co.x, .int .i64 co.pc, .int .i64 co.p, .int .i64 co.c, .int .i64 co.w, .int .i64 co.r, .int .i64 co.v, .bool co.d]), (w.heap.size + 1, #[Value.int .i64 c.k, .int .i64 c.a, .int .i64 c.x, .int .i64 c.pc, .int .i64 c.p, .int .i64 c.c, .int .i64 c.w, .int .i64 c.r, .int .i64 c.v, .bool c.d]), (w.heap.size, #[Value.slice md xs.length mc])] [(w3.heap.size, w4.heap.size, Value.slice a4 xs.length k4, ints xs), (l3, e3, Value.slice a3 L.length k3, ints L)] x8 x9 wc)
    case first =>
      rename (Exit → Act → World → Prop) => Q1
      rename_i K1 a1 J K2 aJ aK
      clear a1
      clear K1
      clear_value Q1
      revert n c xs L co B w md mc w1 J K2 Q1 w3 u21 u22 u23 u24 u25 u26 u27 u28 u29 u30 u31 u32 u33 u34 u35 u36 u37 u38 u39 u40 u41 u42 u43 u44 u45 u46 u47 u48 u49 u50 u51 u52 u53 u54 u55 u56 u57 u58 u59 u60 u61 u62 u63 u64 u65 u66 u67 u68 u69 u70 u71 u72 u73 u74 u75 u76 u77 u78 u79 u80 u81 u82 u83 u84 u85 u86 u87 u88 u89 u90 u91 u92 u93 u94 u95 u96 u97 u98 u99 u100 u101 u102 u103 u104 u105 u106 u107 u108 u109 u110 u111 u112 u113 u114 u115 u116 u117 u118 u119 u120 u121 u122 u123 u124 u125 u126 u127 u128 u129 u130 u131 u132 n3 m3 a3 k3 l3 e3 w4 a4 k4 w5
      exact H2.out
    case rest =>
    rename World => w6
    obtain ⟨rfl, n6, m6, a6, k6, l6, e6, rfl, rfl, p1', p2', p3', p4', p5', p6', p7', s6⟩ := hcut
    have S6 := hidIt s6
    have i6 := (s6.blocks n6 _ (.head _)).1
    have j6 := (s6.blocks m6 _ (.tail _ (.head _))).1
    have y6 := (s6.at (.head _)).1
    have c6 := s6.get (b := n6) (cs := #[.slice a6 L.length k6]) (by simp)
    have d6 := s6.get (b := n3) (cs := #[.slice a3 L.length k3]) (by simp)
    clear s6 PC h1 S0
    go_wp2_with fail
    refine (eq_mem _ _ _ _ _ _ _ L (by omega) (S6.out.at (.head _)).1 (S6.out.at (.tail _ (.tail _ (.head _)))).1 (S6.out.at (.head _)).2 (S6.out.at (.tail _ (.tail _ (.head _)))).2).mono ?_
    rintro e w7 ⟨rfl, b7⟩
    have S7 := hidIt (S6.out.grow b7)
    have c7 := S7.out.get (b := m6) (cs := #[Value.int .i64 co.k, .int .i64 co.a, .int .i64 co.x, .int .i64 co.pc, .int .i64 co.p, .int .i64 co.c, .int .i64 co.w, .int .i64 co.r, .int .i64 co.v, .bool co.d]) (by simp)
    have d7 := S7.out.get (b := m3) (cs := #[Value.int .i64 co.k, .int .i64 co.a, .int .i64 co.x, .int .i64 co.pc, .int .i64 co.p, .int .i64 co.c, .int .i64 co.w, .int .i64 co.r, .int .i64 co.v, .bool co.d]) (by simp)
    clear b7 c6 d6 S6
    go_wp2_with fail
    refine (eq_call co _).mono ?_
    rintro e w8 ⟨rfl, b8⟩
    have S8 := hidIt (S7.out.grow b8)
    clear b8 c7 d7 S7
    have PC := hidIt (fun W (h : Below w8.heap.size w8 W) => (⟨(S8.out.grow h).get (by simp), (S8.out.grow h).get (by simp)⟩ : (∀ o, W.cell? ⟨w.heap.size, o, none⟩ = #[Value.slice md xs.length mc][o]?) ∧ (∀ o, W.cell? ⟨w4.heap.size, o, none⟩ = #[Value.slice a4 xs.length k4][o]?)))
    have h8 := and_mk PC.out (Below.refl _ w8)
    go_wp2_with fail
    go_region_held3 (fun W => Below w8.heap.size w8 W ∧ (∀ o, W.cell? ⟨w.heap.size, o, none⟩ = #[Value.slice md xs.length mc][o]?) ∧ (∀ o, W.cell? ⟨w4.heap.size, o, none⟩ = #[Value.slice a4 xs.length k4][o]?))
      (first | exact and_mk PC.out (Below.drew (And.left (by assumption))) | exact and_mk PC.out (below_step (And.left (by assumption)) (by assumption)) | exact and_mk PC.out (below_al (And.left (by assumption)) _))
      (first | (go_at_call 11; refine (to_mem _ _ xs (by omega) (RI.out.below (S8.out.grow (And.left (by assumption))).below)).mono ?_; rintro e wa ⟨va, rfl, ra, ba⟩; obtain ⟨aa, ca, rfl⟩ := ra.form) | (go_at_call 14; refine (eq_mem _ _ _ _ _ _ _ xs (by omega) ((S8.out.grow (And.left (by assumption))).at (.tail _ (.head _))).1 (Nat.le_refl _) ((S8.out.grow (And.left (by assumption))).at (.tail _ (.head _))).2 ra).mono ?_; rintro e w9 ⟨rfl, b9⟩))
    rename_i h9
    rename World => w9
    have z9 := h9.1.size
    have S9 := hidIt (S8.out.grow h9.1).front1
    clear PC h8 h9 ra ba b9 S8
    have c9 := S9.out.get (b := w4.heap.size) (cs := #[.slice a4 xs.length k4]) (by simp)
    go_wp2_with fail
    refine (mark_mem _ _ _ _ xs 1 (by omega) (by omega) (S9.out.at (.head _)).1 (S9.out.at (.head _)).2).mono ?_
    rintro e w10 ⟨rfl, r10, o10⟩
    have S10 := hidIt (S9.out.mark1 o10 r10 (by omega) (by intro b cs h; simp at h; omega) (by intro l k v zs h; simp at h; omega))
    clear r10 o10 S9 c9
    have c10 := S10.out.get (b := n6) (cs := #[.slice a6 L.length k6]) (by simp)
    have d10 := S10.out.get (b := n3) (cs := #[.slice a3 L.length k3]) (by simp)
    go_wp2_with fail
    refine (eq_mem _ _ _ _ _ _ _ L (by omega) (S10.out.at (.tail _ (.head _))).1 (S10.out.at (.tail _ (.tail _ (.head _)))).1 (S10.out.at (.tail _ (.head _))).2 (S10.out.at (.tail _ (.tail _ (.head _)))).2).mono ?_
    rintro e w11 ⟨rfl, b11⟩
    have S11 := hidIt (S10.out.grow b11)
    have c11 := S11.out.get (b := m6) (cs := #[Value.int .i64 co.k, .int .i64 co.a, .int .i64 co.x, .int .i64 co.pc, .int .i64 co.p, .int .i64 co.c, .int .i64 co.w, .int .i64 co.r, .int .i64 co.v, .bool co.d]) (by simp)
    have d11 := S11.out.get (b := m3) (cs := #[Value.int .i64 co.k, .int .i64 co.a, .int .i64 co.x, .int .i64 co.pc, .int .i64 co.p, .int .i64 co.c, .int .i64 co.w, .int .i64 co.r, .int .i64 co.v, .bool co.d]) (by simp)
    clear b11 c10 d10 S10
    go_wp2_with fail
    refine (eq_call co _).mono ?_
    rintro e w12 ⟨rfl, b12⟩
    have S12 := hidIt (S11.out.grow b12).front1
    clear b12 c11 d11 S11
    have c12 := S12.out.get (b := n6) (cs := #[.slice a6 L.length k6]) (by simp)
    go_wp2_with fail
    refine (mark_mem _ _ _ _ L 1 (by omega) (by omega) (S12.out.at (.head _)).1 (S12.out.at (.head _)).2).mono ?_
    rintro e w13 ⟨rfl, r13, o13⟩
    have S13 := hidIt (S12.out.mark1 o13 r13 (by omega) (by intro b cs h; simp at h; omega) (by intro l k v zs h; simp at h; omega))
    clear r13 o13 S12 c12
    have c13 := S13.out.get (b := n6) (cs := #[.slice a6 L.length k6]) (by simp)
    go_wp2_with fail
    refine (held_mem _ _ _ _ L.length 1 (by omega) (by omega) (S13.out.at (.head _)).1 (S13.out.at (.head _)).2).mono ?_
    rintro e w14 ⟨rfl, b14⟩
    have S0 := hidIt (S13.out.grow b14)
    have z14 := S0.out.below.size
    clear b14 c13 S13
    go_wp2_with fail
    have PC := hidIt (fun W (h : Below w14.heap.size w14 W) => (⟨(S0.out.grow h).get (by simp), (S0.out.grow h).get (by simp)⟩ : (∀ o, W.cell? ⟨w.heap.size, o, none⟩ = #[Value.slice md xs.length mc][o]?) ∧ (∀ o, W.cell? ⟨w.heap.size + 1, o, none⟩ = #[Value.int .i64 c.k, .int .i64 c.a, .int .i64 c.x, .int .i64 c.pc, .int .i64 c.p, .int .i64 c.c, .int .i64 c.w, .int .i64 c.r, .int .i64 c.v, .bool c.d][o]?)))
    have h1 := and_mk PC.out (Below.refl _ w14)
    go_cut [18, 19, 20] (fun x8 x9 x10 wc => x10 = .bool B ∧ Got2 w w14 L #[Value.int .i64 co.k, .int .i64 co.a, .int .i64 co.x, .int .i64 co.pc, .int .i64 co.p, .int .i64 co.c, .int .i64 co.w, .int .i64 co.r, .int .i64 co.v, .bool co.d] [(n6, #[Value.slice a6 L.length k6]), (m6, #[Value.int .i64 co.k, .int .i64 co.a, .int .i64 co.x, .int .i64 co.pc, .int .i64 co.p, .int .i64 co.c, .int .i64 co.w, .int .i64 co.r, .int .i64 co.v, .bool co.d]), (w4.heap.size, #[Value.slice a4 xs.length k4]), (n3, #[Value.slice a3 L.length k3]), (m3, #[Value.int .i64 co.k, .int .i64 co.a, .int .i64 co.x, .int .i64 co.pc, .int .i64 co.p, .int .i64 co.c, .int .i64 co.w, .int .i64 co.r, .int .i64 co.v, .bool co.d]), (w.heap.size + 1, #[Value.int .i64 c.k, .int .i64 c.a, .int .i64 c.x, .int .i64 c.pc, .int .i64 c.p, .int .i64 c.c, .int .i64 c.w, .int .i64 c.r, .int .i64 c.v, .bool c.d]), (w.heap.size, #[Value.slice md xs.length mc])] [(l6, e6, Value.slice a6 L.length k6, imarks 1 L.length), (w3.heap.size, w4.heap.size, Value.slice a4 xs.length k4, imarks 1 xs.length), (l3, e3, Value.slice a3 L.length k3, ints L)] x8 x9 wc)
    case first =>
      rename (Exit → Act → World → Prop) => Q1
      rename_i K1 a1 J K2 aJ aK
      clear a1
      clear K1
      clear_value Q1
      revert n c xs L co B w md mc w1 J K2 Q1 w3 n3 m3 a3 k3 l3 e3 w4 a4 k4 w5 w6 u21 u22 u23 u24 u25 u26 u27 u28 u29 u30 u31 u32 u33 u34 u35 u36 u37 u38 u39 u40 u41 u42 u43 u44 u45 u46 u47 u48 u49 u50 u51 u52 u53 u54 u55 u56 u57 u58 u59 u60 u61 u62 u63 u64 u65 u66 u67 u68 u69 u70 u71 u72 u73 u74 u75 u76 u77 u78 u79 u80 u81 u82 u83 u84 u85 u86 u87 u88 u89 u90 u91 u92 u93 u94 u95 u96 u97 u98 u99 u100 u101 u102 u103 u104 u105 u106 u107 u108 u109 u110 u111 u112 u113 u114 u115 u116 u117 u118 u119 u120 u121 u122 u123 u124 u125 u126 u127 u128 u129 u130 u131 u132 n6 m6 a6 k6 l6 e6 aa ca w14
      exact H3.out
    case rest =>
    rename World => w15
    obtain ⟨rfl, n15, m15, a15, k15, l15, e15, rfl, rfl, -, -, -, -, -, -, -, s15⟩ := hcut
    have S15 := hidIt s15
    have c15 := s15.get (b := n15) (cs := #[.slice a15 L.length k15]) (by simp)
    have d15 := s15.get (b := n3) (cs := #[.slice a3 L.length k3]) (by simp)
    clear s15 PC h1 S0
    go_wp2_with fail
    refine (eq_mem _ _ _ _ _ _ _ L (by omega) (S15.out.at (.head _)).1 (S15.out.at (.tail _ (.tail _ (.tail _ (.head _))))).1 (S15.out.at (.head _)).2 (S15.out.at (.tail _ (.tail _ (.tail _ (.head _))))).2).mono ?_
    rintro e w16 ⟨rfl, b16⟩
    have S16 := hidIt (S15.out.grow b16)
    have c16 := S16.out.get (b := m15) (cs := #[Value.int .i64 co.k, .int .i64 co.a, .int .i64 co.x, .int .i64 co.pc, .int .i64 co.p, .int .i64 co.c, .int .i64 co.w, .int .i64 co.r, .int .i64 co.v, .bool co.d]) (by simp)
    have d16 := S16.out.get (b := m3) (cs := #[Value.int .i64 co.k, .int .i64 co.a, .int .i64 co.x, .int .i64 co.pc, .int .i64 co.p, .int .i64 co.c, .int .i64 co.w, .int .i64 co.r, .int .i64 co.v, .bool co.d]) (by simp)
    clear b16 c15 d15 S15
    go_wp2_with fail
    refine (eq_call co _).mono ?_
    rintro e w17 ⟨rfl, b17⟩
    have S17 := hidIt (S16.out.grow b17)
    clear b17 c16 d16 S16
    have c17 := S17.out.get (b := n6) (cs := #[.slice a6 L.length k6]) (by simp)
    go_wp2_with fail
    refine (held_mem _ _ _ _ L.length 1 (by omega) (by omega) (S17.out.at (.tail _ (.head _))).1 (S17.out.at (.tail _ (.head _))).2).mono ?_
    rintro e w18 ⟨rfl, b18⟩
    go_wp2
    go_ret
    exact ⟨rfl, (S17.out.grow b18).below⟩
  · go_enter Try.func3, Try.ntmps3
    go_wp2_with fail
    refine (sz_mem md xs.length mc 1048576 _ (by omega) (by omega) (by omega)).mono ?_
    rintro e w1 ⟨rfl, b1⟩
    rw [if_pos (by omega)]
    go_wp2
    go_ret
    exact ⟨rfl, (((Below.refl _ _).alloc (Nat.le_refl _) _).alloc (by simp) _).trans (b1.mono (by simp <;> omega))⟩

end Go.Proofs.Ytomfdbglnedpcaa
