/- Contracts of functions of the program and of its model, and plain lemmas: several texts in one. -/
import Derived.Test.YtdcnakpkmgepgabRows
import Derived.WalkKit
import Derived.ProofKit
import Derived.OpenShut
import Derived.ShutString
import Derived.Test.YtdcnakpkmgepgabPoolBaseC
import Derived.Test.YtdcnakpkmgepgabPoolBaseA
import Derived.Test.YtdcnakpkmgepgabPoolBaseB
import Derived.Deep.RegionHeld3

namespace Go.Proofs.Ytdcnakpkmgepgab
open Go.ChangeShapes Go.WideShapes Go.ChangeAt Go.RowKit
set_option linter.unusedVariables false

def plPin (P : Pl) (h : Int) (q : Bool) (y : Int) : Pl := wP P (setA (setOk P.a P.ps P.L h q) P.a) (setP (setOk P.a P.ps P.L h q) P.ps h y) (setLm (setOk P.a P.ps P.L h q) P.L) (setOk P.a P.ps P.L h q)
def plPinB (P : Pl) (h : Int) (q : Bool) : Bool := plOkB P && setOk P.a P.ps P.L h q
theorem fit_leave (P : Pl) (h : Int) (hf : PlFit P) : PlFit (plPin P h true (-1)) := by
  unfold plPin
  have h1 : (setP (setOk P.a P.ps P.L h true) P.ps h (-1)).length ≤ P.ps.length := by unfold setP; split <;> simp
  have h2 : (setLm (setOk P.a P.ps P.L h true) P.L).length ≤ P.L.length := by unfold setLm; split <;> simp
  unfold PlFit at hf ⊢
  unfold wP
  split
  · simp only
    omega
  · simp [plZero]
set_option maxHeartbeats 1600000 in
set_option maxRecDepth 100000 in
theorem spec_leave (w : World) (f p l v : Value) (P : Pl) (h : Int) (hf : PlFit P) (hA : PlIn w f p l v P) :
    Calls Try.prog 7 #[.agg #[f, .int .i64 P.a, p, l, v], .int .i64 h] w (PlS1 (plPin P h true (-1)) (plPinB P h true) w) := by
  unfold plPin plPinB
  have H := hidIt hA
  have HF := hidIt hf
  obtain ⟨fa, fc, pa, pc, la, lc, va, vc, rfl, rfl, rfl, rfl⟩ := hA.form
  clear hA
  have HPIN := hidIt (fun (p l : Value) W (hA : AIn W p l P.ps P.L) => spec_unpin W P.a p l P.ps P.L h hA)
  generalize setA (setOk P.a P.ps P.L h true) P.a = A at HPIN ⊢
  generalize setP (setOk P.a P.ps P.L h true) P.ps h (-1) = PS at HPIN ⊢
  generalize setLm (setOk P.a P.ps P.L h true) P.L = LS at HPIN ⊢
  generalize setOk P.a P.ps P.L h true = B at HPIN ⊢
  go_enter Try.func7, Try.ntmps7
  go_wp2_with fail
  generalize hW : World.alloc (World.alloc w _) _ = W0
  have X := bx2 w #[.slice fa P.fr.length fc, .int .i64 P.a, .slice pa P.ps.length pc, .slice la P.L.length lc, .slice va P.lv.length vc] #[.slice none 0 0, .int .i64 0, .slice none 0 0, .slice none 0 0, .slice none 0 0] 33 33
  rw [hW] at X
  clear hW
  obtain ⟨X0, X1, bW, zW⟩ := X
  refine (HPIN.out _ _ W0 (H.out.below bW).ag).mono ?_
  rintro e w1 ⟨p1, l1, rfl, ar, b1⟩
  obtain ⟨xa, xb, xc, xd, rfl, rfl, -⟩ := ar.form
  have z1 := b1.size
  have H0 := hidIt (X0.below b1)
  have H1 := hidIt (X1.below b1)
  have B1 := hidIt (bel_two bW b1)
  have A1 := hidIt ar
  clear X0 X1 bW b1 ar
  have k0 := H0.out.2.1 0
  have k1 := H0.out.2.1 1
  have k2 := H0.out.2.1 2
  have k3 := H0.out.2.1 3
  have k4 := H0.out.2.1 4
  simp at k0 k1 k2 k3 k4
  have hl0 := H0.out.1
  go_wp2_with fail
  generalize hW : World.alloc w1 _ = W2
  have zW2 : W2.heap.size = w1.heap.size + 1 := by rw [← hW]; simp
  have Y := hidIt (show Bx W2 w1.heap.size #[.int .i64 A, .slice xa PS.length xb, .slice xc LS.length xd] from by rw [← hW]; exact Bx.new w1 _ _)
  have b2 := hidIt (show Below w1.heap.size w1 W2 from by rw [← hW]; exact (Below.refl _ _).alloc (Nat.le_refl _) _)
  clear hW k0 k1 k2 k3 k4
  have G0 := hidIt (H0.out.below b2.out)
  have G1 := hidIt (H1.out.below b2.out)
  have B2 := hidIt (bel_two B1.out b2.out)
  have A2 := hidIt (A1.out.below b2.out)
  clear H0 H1 B1 A1 b2
  have hle : W0.heap.size ≤ W2.heap.size := by omega
  refine (spec_with W2 W0.heap.size _ _ _ _ P A _ _ PS LS B HF.out (H.out.below B2.out) (A2.out.wide (Nat.le_refl _) (by omega)) hle).mono ?_
  rintro e w3 ⟨f3, p3, l3, v3, rfl, rq, b3⟩
  obtain ⟨ya, yb, yc, yd, ye, yf, yg, yh, rfl, rfl, rfl, rfl⟩ := rq.form
  have z3 := b3.size
  have HQ := hidIt rq
  have HB := hidIt (bel_two B2.out b3)
  have R1 := hidIt (G1.out.below b3)
  clear rq b3 G0 G1 Y A2
  have q0 := R1.out.2.1 0
  have q1 := R1.out.2.1 1
  have q2 := R1.out.2.1 2
  have q3 := R1.out.2.1 3
  have q4 := R1.out.2.1 4
  have qf := R1.out.2.2
  simp at q0 q1 q2 q3 q4
  have hl1 := R1.out.1
  go_wp2
  refine bodyPost_ret (v := .tuple #[.agg #[.slice ya (wP P A PS LS B).fr.length yb, .int .i64 (wP P A PS LS B).a, .slice yc (wP P A PS LS B).ps.length yd, .slice ye (wP P A PS LS B).L.length yf, .slice yg (wP P A PS LS B).lv.length yh], .bool (plOkB P && B)]) (by simp [results, Try.results7, go_sem, q0, q1, q2, q3, q4]) rfl ⟨_, _, _, _, rfl, ?_, ?_⟩
  · exact (((((HQ.out.set (by omega)).set (by omega)).set (by omega)).set (by omega)).set (by omega)).wide (by omega) (by simp)
  · exact bel_set5 HB.out (by omega)
set_option maxHeartbeats 1600000 in
set_option maxRecDepth 100000 in
theorem impl_leave (w : World) (f p l v : Value) (P : Pl) (h : Int) (hf : PlFit P) (hwf : PlWf P) (hA : PlIn w f p l v P) :
    Calls Try.prog 9 #[.agg #[f, .int .i64 P.a, p, l, v], .int .i64 h] w (PlI1 (plPin P h true (-1)) (plPinB P h true) w) := by
  unfold plPin plPinB
  have HWF := hidIt hwf
  have H := hidIt hA
  have HF := hidIt hf
  obtain ⟨fa, fc, pa, pc, la, lc, va, vc, rfl, rfl, rfl, rfl⟩ := hA.form
  clear hA
  have HPIN := hidIt (fun (p l : Value) W (hA : AIn W p l P.ps P.L) => impl_unpin W P.a p l P.ps P.L h hA)
  generalize setA (setOk P.a P.ps P.L h true) P.a = A at HPIN ⊢
  generalize setP (setOk P.a P.ps P.L h true) P.ps h (-1) = PS at HPIN ⊢
  generalize setLm (setOk P.a P.ps P.L h true) P.L = LS at HPIN ⊢
  generalize setOk P.a P.ps P.L h true = B at HPIN ⊢
  go_enter Try.func9, Try.ntmps9
  go_wp2_with fail
  generalize hW : World.alloc (World.alloc w _) _ = W0
  have X := bx2 w #[.slice fa P.fr.length fc, .int .i64 P.a, .slice pa P.ps.length pc, .slice la P.L.length lc, .slice va P.lv.length vc] #[.slice none 0 0, .int .i64 0, .slice none 0 0, .slice none 0 0, .slice none 0 0] 33 33
  rw [hW] at X
  clear hW
  obtain ⟨X0, X1, bW, zW⟩ := X
  refine (HPIN.out _ _ W0 (H.out.below bW).ag).mono ?_
  rintro e w1 ⟨p1, l1, rfl, ar, b1⟩
  obtain ⟨xa, xb, xc, xd, rfl, rfl, -⟩ := ar.form
  have z1 := b1.size
  have H0 := hidIt (X0.below b1)
  have H1 := hidIt (X1.below b1)
  have B1 := hidIt (bel_two bW b1)
  have A1 := hidIt ar
  clear X0 X1 bW b1 ar
  have k0 := H0.out.2.1 0
  have k1 := H0.out.2.1 1
  have k2 := H0.out.2.1 2
  have k3 := H0.out.2.1 3
  have k4 := H0.out.2.1 4
  simp at k0 k1 k2 k3 k4
  have hl0 := H0.out.1
  go_wp2_with fail
  generalize hW : World.alloc w1 _ = W2
  have zW2 : W2.heap.size = w1.heap.size + 1 := by rw [← hW]; simp
  have Y := hidIt (show Bx W2 w1.heap.size #[.int .i64 A, .slice xa PS.length xb, .slice xc LS.length xd] from by rw [← hW]; exact Bx.new w1 _ _)
  have b2 := hidIt (show Below w1.heap.size w1 W2 from by rw [← hW]; exact (Below.refl _ _).alloc (Nat.le_refl _) _)
  clear hW k0 k1 k2 k3 k4
  have G0 := hidIt (H0.out.below b2.out)
  have G1 := hidIt (H1.out.below b2.out)
  have B2 := hidIt (bel_two B1.out b2.out)
  have A2 := hidIt (A1.out.below b2.out)
  clear H0 H1 B1 A1 b2
  refine (impl_poolok W2 _ _ _ _ P HF.out HWF.out (H.out.below B2.out)).mono ?_
  rintro e w3 ⟨rfl, b3⟩
  have z3 := b3.size
  have H0 := hidIt (G0.out.below b3)
  have H1 := hidIt (G1.out.below b3)
  have Y3 := hidIt (Y.out.below b3)
  have B3 := hidIt (bel_two B2.out b3)
  have A3 := hidIt (A2.out.below (b3.mono (by omega)))
  clear b3 G0 G1 Y A2
  have q0 := H1.out.2.1 0
  have q1 := H1.out.2.1 1
  have q2 := H1.out.2.1 2
  have q3 := H1.out.2.1 3
  have q4 := H1.out.2.1 4
  have qf := H1.out.2.2
  simp at q0 q1 q2 q3 q4
  have hl1 := H1.out.1
  cases hk : (plOkB P && B) with
  | false =>
    have HN := hidIt hk
    cases hp : plOkB P with
    | false =>
      go_wp2
      exact bodyPost_ret (v := .tuple #[.agg #[.slice none 0 0, .int .i64 0, .slice none 0 0, .slice none 0 0, .slice none 0 0], .bool false]) (by simp [results, Try.results9, go_sem, q0, q1, q2, q3, q4]) rfl (by rw [wP_no HN.out, HN.out]; exact PlI1.none ⟨rfl, bel_set5 B3.out (by omega)⟩)
    | true =>
      obtain rfl : B = false := by simpa [hp] using hk
      go_wp2
      exact bodyPost_ret (v := .tuple #[.agg #[.slice none 0 0, .int .i64 0, .slice none 0 0, .slice none 0 0, .slice none 0 0], .bool false]) (by simp [results, Try.results9, go_sem, q0, q1, q2, q3, q4]) rfl (by rw [wP_no HN.out, HN.out]; exact PlI1.none ⟨rfl, bel_set5 B3.out (by omega)⟩)
  | true =>
    have HN := hidIt hk
    obtain ⟨hp, rfl⟩ : plOkB P = true ∧ B = true := by simpa using hk
    rw [hp]
    clear hk q0 q1 q2 q3 q4 qf
    have k0 := H0.out.2.1 0
    have k1 := H0.out.2.1 1
    have k2 := H0.out.2.1 2
    have k3 := H0.out.2.1 3
    have k4 := H0.out.2.1 4
    have y0 := Y3.out.2.1 0
    have y1 := Y3.out.2.1 1
    have y2 := Y3.out.2.1 2
    simp at k0 k1 k2 k3 k4 y0 y1 y2
    have hly := Y3.out.1
    go_wp2_with fail
    clear k0 k1 k2 k3 k4 y0 y1 y2
    refine (impl_withages w3 _ _ _ _ P A xa xc PS.length xb LS.length xd HF.out (H.out.below B3.out)).mono ?_
    rintro e w4 ⟨f4, v4, rfl, wa, b4⟩
    have z4 := b4.size
    have HR := hidIt (wa.pl (a := A) (lo := W0.heap.size) ((A3.out.below (b4.mono (by omega))).wide (Nat.le_refl _) (by omega)) (by omega) (by omega))
    obtain ⟨ya, yb, yc, yd, ye, yf, yg, yh, rfl, hx1, hx2, rfl⟩ := HR.out.form
    clear hx1 hx2
    have HB := hidIt (bel_two B3.out b4)
    have R1 := hidIt (H1.out.below b4)
    clear wa b4 H0 H1 Y3 A3
    have q0 := R1.out.2.1 0
    have q1 := R1.out.2.1 1
    have q2 := R1.out.2.1 2
    have q3 := R1.out.2.1 3
    have q4 := R1.out.2.1 4
    have qf := R1.out.2.2
    simp at q0 q1 q2 q3 q4
    have hl2 := R1.out.1
    go_wp2
    refine bodyPost_ret (v := .tuple #[.agg #[.slice ya P.fr.length yb, .int .i64 A, .slice xa PS.length xb, .slice xc LS.length xd, .slice yg P.lv.length yh], .bool true]) (by simp [results, Try.results9, go_sem, q0, q1, q2, q3, q4]) rfl (by rw [wP_yes HN.out, HN.out]; exact ⟨_, _, _, _, rfl, (((((HR.out.set_low (by omega)).set_low (by omega)).set_low (by omega)).set_low (by omega)).set_low (by omega)).wide (by omega) (by simp), bel_set5 HB.out (by omega)⟩)

end Go.Proofs.Ytdcnakpkmgepgab

namespace Go.Proofs.Ytdcnakpkmgepgab
open Go.ChangeShapes Go.WideShapes Go.ChangeAt Go.RowKit
set_option linter.unusedVariables false

set_option maxHeartbeats 3200000 in
set_option maxRecDepth 100000 in
theorem walk_Leave (P : Pl) (f p l v : Value) (h : Int) (w : World) (r0 : PlIn w f p l v P) (n0 : P.fr.length ≤ maxLen) (n1 : P.ps.length ≤ maxLen) (n2 : P.L.length ≤ maxLen) (n3 : P.lv.length ≤ maxLen) (hwf : PlWf P) :
    Calls Try.prog 3 #[.agg #[f, .int .i64 P.a, p, l, v], .int .i64 h] w fun e w' => e = .returned (.bool true) ∧ Below w.heap.size w w' := by
  have RI := hidIt r0
  obtain ⟨xaa, xka, xba, xla, xca, xma, xda, xna, rfl, rfl, rfl, rfl⟩ := r0.form
  clear r0
  unfold maxLen at n0 n1 n2 n3
  by_cases hs : P.fr.length + P.ps.length + P.L.length + P.lv.length ≤ 1048576
  · have HF : Hid (PlFit P) := hidIt (show PlFit P from hs)
    have HS := hidIt (fun f p l v W (hA : PlIn W f p l v P) => spec_leave W f p l v P h hs hA)
    have HI := hidIt (fun f p l v W (hA : PlIn W f p l v P) => impl_leave W f p l v P h hs hwf hA)
    have HG : Hid (PlFit (plPin P h true (-1))) := hidIt (fit_leave P h hs)
    generalize plPin P h true (-1) = P' at HS HI HG
    generalize plPinB P h true = S1 at HS HI
    have s0 := hidIt ((Sv.start w).box5 (.slice xaa P.fr.length xka) (.int .i64 P.a) (.slice xba P.ps.length xla) (.slice xca P.L.length xma) (.slice xda P.lv.length xna) 27)
    go_enter Try.func3, Try.ntmps3
    go_wp2_with fail
    refine (sz_pool P.a _ _ _ _ P.fr.length _ P.ps.length _ P.L.length _ P.lv.length _ _ (by omega) (by omega) (by omega) (by omega)).mono ?_
    rintro e w1 ⟨⟨z, rfl, hz, -⟩, b1⟩
    have hz0 := hz hs
    clear hz
    have s1 := hidIt (s0.out.grow b1)
    have z1 := b1.size
    (try simp at z1)
    obtain ⟨c10, c11, c12, c13, c14⟩ := s1.out.get5 (b := w.heap.size) (x0 := (.slice xaa P.fr.length xka)) (x1 := (.int .i64 P.a)) (x2 := (.slice xba P.ps.length xla)) (x3 := (.slice xca P.L.length xma)) (x4 := (.slice xda P.lv.length xna)) (by simp) (by simp) (by simp) (by simp) (by simp)
    clear b1 s0
    go_wp2_with fail
    clear hz0 c10 c11 c12 c13 c14
    refine (to_pool _ _ _ _ _ P HF.out (RI.out.below s1.out.below)).mono ?_
    rintro e w2 ⟨f2, p2, l2, v2, rfl, r2, b2⟩
    have s2 := hidIt (s1.out.grow b2)
    have z2 := b2.size
    have R2 := hidIt (r2.toQ.pin (Nat.le_refl _))
    obtain ⟨xa2, xk2, xb2, xl2, xc2, xm2, xd2, xn2, rfl, rfl, rfl, rfl⟩ := r2.form
    clear r2 b2 s1
    go_wp2_with fail
    refine (HS.out _ _ _ _ _ R2.out).mono ?_
    rintro e w3 ⟨f3, p3, l3, v3, rfl, r3, b3⟩
    have s3 := hidIt ((s2.out.grow b3).row (Nat.le_refl _) (PlQ.loc _ _ _ _ _ _ _) r3)
    obtain ⟨xa3, xk3, xb3, xl3, xc3, xm3, xd3, xn3, rfl, rfl, rfl, rfl⟩ := r3.form
    have z3 := b3.size
    clear r3 b3 s2 R2
    have t3 := hidIt (s3.out.box5 (.slice xa3 P'.fr.length xk3) (.int .i64 P'.a) (.slice xb3 P'.ps.length xl3) (.slice xc3 P'.L.length xm3) (.slice xd3 P'.lv.length xn3) 33)
    obtain ⟨c30, c31, c32, c33, c34⟩ := t3.out.get5 (b := w.heap.size) (x0 := (.slice xaa P.fr.length xka)) (x1 := (.int .i64 P.a)) (x2 := (.slice xba P.ps.length xla)) (x3 := (.slice xca P.L.length xma)) (x4 := (.slice xda P.lv.length xna)) (by simp) (by simp) (by simp) (by simp) (by simp)
    go_wp2_with fail
    clear c30 c31 c32 c33 c34
    refine (to_pool _ _ _ _ _ P HF.out (RI.out.below t3.out.below)).mono ?_
    rintro e w4 ⟨f4, p4, l4, v4, rfl, r4, b4⟩
    have s4 := hidIt ((t3.out.grow b4).row (Nat.le_refl _) (PlR.loc _ _ _ _ _ _ _) r4)
    obtain ⟨xa4, xk4, xb4, xl4, xc4, xm4, xd4, xn4, rfl, rfl, rfl, rfl⟩ := r4.form
    have z4 := b4.size
    (try simp at z4)
    clear r4 b4 t3 s3
    have t4 := hidIt (s4.out.box5 (.slice xa4 P.fr.length xk4) (.int .i64 P.a) (.slice xb4 P.ps.length xl4) (.slice xc4 P.L.length xm4) (.slice xd4 P.lv.length xn4) 33)
    go_wp2_with fail
    refine (HI.out _ _ _ _ _ ((t4.out.at (.head _)).2.toQ.pin (t4.out.at (.head _)).1)).mono ?_
    rintro e w5 ⟨f5, p5, l5, v5, rfl, r5, b5⟩
    have s5 := hidIt ((t4.out.grow b5).row (Nat.le_refl _) (PlR.loc _ _ _ _ _ _ _) r5)
    obtain ⟨xa5, xk5, xb5, xl5, xc5, xm5, xd5, xn5, rfl, rfl, rfl, rfl⟩ := r5.form
    have z5 := b5.size
    (try simp at z5)
    clear r5 b5 t4 s4
    have t5 := hidIt (s5.out.box5 (.slice xa5 P'.fr.length xk5) (.int .i64 P'.a) (.slice xb5 P'.ps.length xl5) (.slice xc5 P'.L.length xm5) (.slice xd5 P'.lv.length xn5) 33)
    obtain ⟨c50, c51, c52, c53, c54⟩ := t5.out.get5 (b := w3.heap.size) (x0 := (.slice xa3 P'.fr.length xk3)) (x1 := (.int .i64 P'.a)) (x2 := (.slice xb3 P'.ps.length xl3)) (x3 := (.slice xc3 P'.L.length xm3)) (x4 := (.slice xd3 P'.lv.length xn3)) (by simp) (by simp) (by simp) (by simp) (by simp)
    go_wp2_with fail
    clear c50 c51 c52 c53 c54 s5
    refine (eq_pool _ _ _ _ _ _ _ _ _ _ _ _ _ P' HG.out (t5.out.at (.head _)).1 (t5.out.at (.tail _ (.tail _ (.head _)))).1 (t5.out.at (.head _)).2.toQ (t5.out.at (.tail _ (.tail _ (.head _)))).2).mono ?_
    rintro e w6 ⟨rfl, b6⟩
    have s6 := hidIt (t5.out.grow b6)
    have z6 := b6.size
    (try simp at z6)
    clear b6 t5
    go_wp2_with fail
    obtain ⟨PP, p0, pd, pg, ps'⟩ := s6.out.pack
    have PD := hidIt pd
    have PG := hidIt pg
    have PS := hidIt ps'
    have PC := hidIt (fun W (h : PP W) => (⟨(ps' W h).get (by simp), (ps' W h).get (by simp), (ps' W h).get (by simp), (ps' W h).get (by simp), (ps' W h).get (by simp), (ps' W h).get (by simp), (ps' W h).get (by simp), (ps' W h).get (by simp), (ps' W h).get (by simp), (ps' W h).get (by simp)⟩ : W.cell? ⟨w.heap.size, 0, none⟩ = some (.slice xaa P.fr.length xka) ∧ W.cell? ⟨w.heap.size, 1, none⟩ = some (.int .i64 P.a) ∧ W.cell? ⟨w.heap.size, 2, none⟩ = some (.slice xba P.ps.length xla) ∧ W.cell? ⟨w.heap.size, 3, none⟩ = some (.slice xca P.L.length xma) ∧ W.cell? ⟨w.heap.size, 4, none⟩ = some (.slice xda P.lv.length xna) ∧ W.cell? ⟨w4.heap.size, 0, none⟩ = some (.slice xa4 P.fr.length xk4) ∧ W.cell? ⟨w4.heap.size, 1, none⟩ = some (.int .i64 P.a) ∧ W.cell? ⟨w4.heap.size, 2, none⟩ = some (.slice xb4 P.ps.length xl4) ∧ W.cell? ⟨w4.heap.size, 3, none⟩ = some (.slice xc4 P.L.length xm4) ∧ W.cell? ⟨w4.heap.size, 4, none⟩ = some (.slice xd4 P.lv.length xn4)))
    have h6 := and_mk PC.out p0
    clear pd pg ps' p0 s6
    go_region_held3 (fun W => PP W ∧ W.cell? ⟨w.heap.size, 0, none⟩ = some (.slice xaa P.fr.length xka) ∧ W.cell? ⟨w.heap.size, 1, none⟩ = some (.int .i64 P.a) ∧ W.cell? ⟨w.heap.size, 2, none⟩ = some (.slice xba P.ps.length xla) ∧ W.cell? ⟨w.heap.size, 3, none⟩ = some (.slice xca P.L.length xma) ∧ W.cell? ⟨w.heap.size, 4, none⟩ = some (.slice xda P.lv.length xna) ∧ W.cell? ⟨w4.heap.size, 0, none⟩ = some (.slice xa4 P.fr.length xk4) ∧ W.cell? ⟨w4.heap.size, 1, none⟩ = some (.int .i64 P.a) ∧ W.cell? ⟨w4.heap.size, 2, none⟩ = some (.slice xb4 P.ps.length xl4) ∧ W.cell? ⟨w4.heap.size, 3, none⟩ = some (.slice xc4 P.L.length xm4) ∧ W.cell? ⟨w4.heap.size, 4, none⟩ = some (.slice xd4 P.lv.length xn4))
      (first | exact and_mk PC.out (PD.out _ (And.left (by assumption))) | exact and_mk PC.out (PG.out _ _ (And.left (by assumption)) (by assumption)))
      (first | (go_at_call 8; refine (to_pool _ _ _ _ _ P HF.out (RI.out.below (PS.out _ (And.left (by assumption))).below)).mono ?_; rintro e wa ⟨fa', pa', la', va', rfl, ra, ba⟩; obtain ⟨xa7, xk7, xb7, xl7, xc7, xm7, xd7, xn7, rfl, rfl, rfl, rfl⟩ := ra.form) | (go_at_call 10; refine (eq_pool _ _ _ _ _ _ _ _ _ _ _ _ _ P HF.out ((PS.out _ (And.left (by assumption))).at (.tail _ (.head _))).1 (Nat.le_refl _) ((PS.out _ (And.left (by assumption))).at (.tail _ (.head _))).2.toQ ra.toQ).mono ?_; rintro e w7 ⟨rfl, b7⟩))
    rename_i h7
    have s7 := hidIt ((PS.out _ h7.1).front1)
    have z7 : w6.heap.size ≤ w7.heap.size := by have := b7.size; have := ba.size; simp at *; omega
    clear PD PG PC PS h6 h7 ra ba b7
    obtain ⟨c70, c71, c72, c73, c74⟩ := s7.out.get5 (b := w4.heap.size) (x0 := (.slice xa4 P.fr.length xk4)) (x1 := (.int .i64 P.a)) (x2 := (.slice xb4 P.ps.length xl4)) (x3 := (.slice xc4 P.L.length xm4)) (x4 := (.slice xd4 P.lv.length xn4)) (by simp) (by simp) (by simp) (by simp) (by simp)
    go_wp2_with fail
    clear c70 c71 c72 c73 c74
    refine (mark_pool _ _ _ _ _ _ _ P 1 HF.out (by omega) (s7.out.at (.head _)).1 (s7.out.at (.head _)).2).mono ?_
    rintro e w8 ⟨rfl, r8, o8⟩
    have s8 := hidIt (s7.out.mark1 o8 (PlM.loc _ _ _ _ _ _ _ _ _ _ _) r8 (by first | omega | (simp; done) | (simp; omega)) (by first | omega | (simp; done) | (simp; omega)) (by first | omega | (simp; done) | (simp; omega)))
    have z8 := o8.size
    clear r8 o8 s7
    obtain ⟨c80, c81, c82, c83, c84⟩ := s8.out.get5 (b := w5.heap.size) (x0 := (.slice xa5 P'.fr.length xk5)) (x1 := (.int .i64 P'.a)) (x2 := (.slice xb5 P'.ps.length xl5)) (x3 := (.slice xc5 P'.L.length xm5)) (x4 := (.slice xd5 P'.lv.length xn5)) (by simp) (by simp) (by simp) (by simp) (by simp)
    obtain ⟨d80, d81, d82, d83, d84⟩ := s8.out.get5 (b := w3.heap.size) (x0 := (.slice xa3 P'.fr.length xk3)) (x1 := (.int .i64 P'.a)) (x2 := (.slice xb3 P'.ps.length xl3)) (x3 := (.slice xc3 P'.L.length xm3)) (x4 := (.slice xd3 P'.lv.length xn3)) (by simp) (by simp) (by simp) (by simp) (by simp)
    go_wp2_with fail
    clear c80 c81 c82 c83 c84 d80 d81 d82 d83 d84
    refine (eq_pool _ _ _ _ _ _ _ _ _ _ _ _ _ P' HG.out (s8.out.at (.tail _ (.head _))).1 (s8.out.at (.tail _ (.tail _ (.head _)))).1 (s8.out.at (.tail _ (.head _))).2.toQ (s8.out.at (.tail _ (.tail _ (.head _)))).2).mono ?_
    rintro e w9x ⟨rfl, b9x⟩
    have s9x := hidIt (s8.out.grow b9x)
    have z9x := b9x.size
    (try simp at z9x)
    clear b9x s8
    have s9 := hidIt s9x.out.front1
    have z9 := z9x
    clear s9x
    obtain ⟨c90, c91, c92, c93, c94⟩ := s9.out.get5 (b := w5.heap.size) (x0 := (.slice xa5 P'.fr.length xk5)) (x1 := (.int .i64 P'.a)) (x2 := (.slice xb5 P'.ps.length xl5)) (x3 := (.slice xc5 P'.L.length xm5)) (x4 := (.slice xd5 P'.lv.length xn5)) (by simp) (by simp) (by simp) (by simp) (by simp)
    go_wp2_with fail
    clear c90 c91 c92 c93 c94
    refine (mark_pool _ _ _ _ _ _ _ P' 1 HG.out (by omega) (s9.out.at (.head _)).1 (s9.out.at (.head _)).2).mono ?_
    rintro e w10 ⟨rfl, r10, o10⟩
    have s10 := hidIt (s9.out.mark1 o10 (PlM.loc _ _ _ _ _ _ _ _ _ _ _) r10 (by first | omega | (simp; done) | (simp; omega)) (by first | omega | (simp; done) | (simp; omega)) (by first | omega | (simp; done) | (simp; omega)))
    have z10 := o10.size
    clear r10 o10 s9
    obtain ⟨e10, e11, e12, e13, e14⟩ := s10.out.get5 (b := w5.heap.size) (x0 := (.slice xa5 P'.fr.length xk5)) (x1 := (.int .i64 P'.a)) (x2 := (.slice xb5 P'.ps.length xl5)) (x3 := (.slice xc5 P'.L.length xm5)) (x4 := (.slice xd5 P'.lv.length xn5)) (by simp) (by simp) (by simp) (by simp) (by simp)
    go_wp2_with fail
    clear e10 e11 e12 e13 e14
    refine (held_pool _ _ _ P'.a _ _ _ _ P'.fr.length P'.ps.length P'.L.length P'.lv.length 1 HG.out (by omega) (s10.out.at (.head _)).1 (s10.out.at (.head _)).2).mono ?_
    rintro e w11 ⟨rfl, b11⟩
    have s11 := hidIt (s10.out.grow b11)
    have z11 := b11.size
    clear b11 s10
    obtain ⟨e20, e21, e22, e23, e24⟩ := s11.out.get5 (b := w.heap.size) (x0 := (.slice xaa P.fr.length xka)) (x1 := (.int .i64 P.a)) (x2 := (.slice xba P.ps.length xla)) (x3 := (.slice xca P.L.length xma)) (x4 := (.slice xda P.lv.length xna)) (by simp) (by simp) (by simp) (by simp) (by simp)
    go_wp2_with fail
    clear e20 e21 e22 e23 e24
    refine (to_pool _ _ _ _ _ P HF.out (RI.out.below s11.out.below)).mono ?_
    rintro e w12 ⟨f12, p12, l12, v12, rfl, r12, b12⟩
    have s12 := hidIt (s11.out.grow b12)
    have R12 := hidIt (r12.toQ.pin (Nat.le_refl _))
    obtain ⟨xa12, xk12, xb12, xl12, xc12, xm12, xd12, xn12, rfl, rfl, rfl, rfl⟩ := r12.form
    have z12 := b12.size
    clear r12 b12 s11
    go_wp2_with fail
    refine (HI.out _ _ _ _ _ R12.out).mono ?_
    rintro e w13 ⟨f13, p13, l13, v13, rfl, r13, b13⟩
    have s13 := hidIt ((s12.out.grow b13).row (Nat.le_refl _) (PlR.loc _ _ _ _ _ _ _) r13)
    obtain ⟨xa13, xk13, xb13, xl13, xc13, xm13, xd13, xn13, rfl, rfl, rfl, rfl⟩ := r13.form
    have z13 := b13.size
    clear r13 b13 s12 R12
    have t13 := hidIt (s13.out.box5 (.slice xa13 P'.fr.length xk13) (.int .i64 P'.a) (.slice xb13 P'.ps.length xl13) (.slice xc13 P'.L.length xm13) (.slice xd13 P'.lv.length xn13) 33)
    obtain ⟨e30, e31, e32, e33, e34⟩ := t13.out.get5 (b := w3.heap.size) (x0 := (.slice xa3 P'.fr.length xk3)) (x1 := (.int .i64 P'.a)) (x2 := (.slice xb3 P'.ps.length xl3)) (x3 := (.slice xc3 P'.L.length xm3)) (x4 := (.slice xd3 P'.lv.length xn3)) (by simp) (by simp) (by simp) (by simp) (by simp)
    go_wp2_with fail
    clear e30 e31 e32 e33 e34 s13
    refine (eq_pool _ _ _ _ _ _ _ _ _ _ _ _ _ P' HG.out (t13.out.at (.head _)).1 (t13.out.at (.tail _ (.tail _ (.tail _ (.head _))))).1 (t13.out.at (.head _)).2.toQ (t13.out.at (.tail _ (.tail _ (.tail _ (.head _))))).2).mono ?_
    rintro e w14 ⟨rfl, b14⟩
    have s14 := hidIt (t13.out.grow b14)
    have z14 := b14.size
    (try simp at z14)
    clear b14 t13
    obtain ⟨e40, e41, e42, e43, e44⟩ := s14.out.get5 (b := w5.heap.size) (x0 := (.slice xa5 P'.fr.length xk5)) (x1 := (.int .i64 P'.a)) (x2 := (.slice xb5 P'.ps.length xl5)) (x3 := (.slice xc5 P'.L.length xm5)) (x4 := (.slice xd5 P'.lv.length xn5)) (by simp) (by simp) (by simp) (by simp) (by simp)
    go_wp2_with fail
    clear e40 e41 e42 e43 e44
    refine (held_pool _ _ _ P'.a _ _ _ _ P'.fr.length P'.ps.length P'.L.length P'.lv.length 1 HG.out (by omega) (s14.out.at (.tail _ (.head _))).1 (s14.out.at (.tail _ (.head _))).2).mono ?_
    rintro e w15 ⟨rfl, b15⟩
    go_wp2
    go_ret
    exact ⟨rfl, (s14.out.grow b15).below⟩
  · go_enter Try.func3, Try.ntmps3
    go_wp2_with fail
    refine (sz_pool P.a _ _ _ _ P.fr.length _ P.ps.length _ P.L.length _ P.lv.length _ _ (by omega) (by omega) (by omega) (by omega)).mono ?_
    rintro e w1 ⟨⟨z, rfl, -, hz⟩, b1⟩
    obtain rfl := hz hs
    go_wp2
    go_ret
    exact ⟨rfl, ((Below.refl _ _).alloc (Nat.le_refl _) _).trans (b1.mono (by simp <;> omega))⟩

end Go.Proofs.Ytdcnakpkmgepgab
