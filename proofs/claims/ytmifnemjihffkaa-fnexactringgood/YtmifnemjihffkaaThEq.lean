/- Threads, rows of threads and crews held against one another; crews copied. -/
import Derived.Test.YtmifnemjihffkaaRows
import Derived.WalkKit
import Derived.ProofKit
import Derived.OpenShut
import Derived.ShutString
import Derived.Test.YtmifnemjihffkaaThCopy
import Derived.Deep.RegionHeld3
namespace Go.Proofs.Ytmifnemjihffkaa
open Go.ChangeShapes Go.WideShapes Go.ChangeAt Go.RowKit
set_option linter.unusedVariables false

set_option maxHeartbeats 800000 in
set_option maxRecDepth 100000 in
theorem eq_ints_some (g og h oh c d : Nat) (ps : List Int) (w : World) (hn : ps.length ≤ 4194304) (h0 : 0 < ps.length)
    (hA : ∀ j (hj : j < ps.length), w.cell? ⟨g, og + j, none⟩ = some (.int .i64 ps[j])) (hB : ∀ j (hj : j < ps.length), w.cell? ⟨h, oh + j, none⟩ = some (.int .i64 ps[j])) :
    Calls Try.prog 21 #[.slice (some ⟨g, og, none⟩) ps.length c, .slice (some ⟨h, oh, none⟩) ps.length d] w fun e w' => e = .returned (.bool true) ∧ ∃ n, w' = w.drewN n := by
  have HA : Hid _ := hA
  have HB : Hid _ := hB
  clear hA hB
  go_enter Try.func21, Try.ntmps21
  go_wp2
  go_loopw [5] (fun i wr => ∃ k n : Nat, k ≤ ps.length ∧ i = .int .i64 k ∧ wr = w.drewN n) (fun i _ => ps.length - (intOf i).toNat)
  case atStart => exact ⟨0, 0, Nat.zero_le _, rfl, rfl⟩
  case round =>
    obtain ⟨k, n, hk, rfl, rfl⟩ := hrel
    by_cases hlt : k < ps.length
    · have cA := HA.out k hlt
      have cB := HB.out k hlt
      have hlt' : (k : Int) < (ps.length : Int) := by omega
      generalize ps[k] = x at cA cB
      go_wp2
      go_quiet (fail)
      go_wp2
      go_roundw
      case rel => exact ⟨k + 1, _, by omega, by go_num, rfl⟩
      case measure => simp [intOf]; omega
    · go_wp2
      go_ret
      exact ⟨rfl, n, rfl⟩
theorem eq_ints (w : World) (v1 v2 : Value) (ps : List Int) (hn : ps.length ≤ 4194304) (r1 : IntsIn w v1 ps) (r2 : IntsIn w v2 ps) :
    Calls Try.prog 21 #[v1, v2] w fun e w' => e = .returned (.bool true) ∧ Below w.heap.size w w' := by
  obtain ⟨⟨a, c, rfl, q1⟩, -⟩ := r1
  obtain ⟨⟨b, d, rfl, q2⟩, -⟩ := r2
  have fin : ∀ e (w' : World), (e = Ending.returned (.bool true) ∧ ∃ n, w' = w.drewN n) → e = .returned (.bool true) ∧ Below w.heap.size w w' := by
    rintro e w' ⟨rfl, n, rfl⟩
    exact ⟨rfl, below_drewN (Below.refl _ _) n⟩
  by_cases h0 : 0 < ps.length
  · rcases q1 with rfl | ⟨g, og, rfl, g1, q1⟩
    · exact absurd h0 (by simp)
    · rcases q2 with rfl | ⟨h, oh, rfl, h1, q2⟩
      · exact absurd h0 (by simp)
      · exact (eq_ints_some g og h oh c d ps w hn h0 q1 q2).mono fin
  · obtain rfl := len_zero h0
    exact (eq_int_zero _ _ c d w).mono fin
def ThFit (t : Th) : Prop := t.cs.length ≤ 4194304 ∧ t.bs.length ≤ 4194304 ∧ t.es.length ≤ 4194304
set_option maxHeartbeats 800000 in
set_option maxRecDepth 100000 in
theorem eq_th (w : World) (v0 v2 v3 u0 u2 u3 : Value) (t : Th) (hf : ThFit t) (h : ThIn w v0 v2 v3 t) (k : ThIn w u0 u2 u3 t) :
    Calls Try.prog 57 #[.agg #[v0, .int .i64 t.at_, v2, v3], .agg #[u0, .int .i64 t.at_, u2, u3]] w fun e w' => e = .returned (.bool true) ∧ Below w.heap.size w w' := by
  have H := hidIt h
  have K0 := hidIt k
  obtain ⟨a0, d0, rfl, -⟩ := h.cs.form
  obtain ⟨a2, d2, rfl, -⟩ := h.bs.form
  obtain ⟨a3, d3, rfl, -⟩ := h.es.form
  obtain ⟨b0, e0, rfl, -⟩ := k.cs.form
  obtain ⟨b2, e2, rfl, -⟩ := k.bs.form
  obtain ⟨b3, e3, rfl, -⟩ := k.es.form
  clear h k
  go_enter Try.func57, Try.ntmps57
  go_wp2_with fail
  generalize hW : World.alloc (World.alloc w _) _ = W0
  have X := bx2 w #[.slice a0 t.cs.length d0, .int .i64 t.at_, .slice a2 t.bs.length d2, .slice a3 t.es.length d3] #[.slice b0 t.cs.length e0, .int .i64 t.at_, .slice b2 t.bs.length e2, .slice b3 t.es.length e3] 64 64
  rw [hW] at X
  clear hW
  obtain ⟨X0, X1, bW, zW⟩ := X
  refine (eq_calls W0 _ _ t.cs hf.1 (H.out.below bW).cs (K0.out.below bW).cs).mono ?_
  rintro e w1 ⟨rfl, b1⟩
  have z1 := b1.size
  have Y := hidIt (And.intro (X0.below b1) (And.intro (X1.below b1) (below_step bW (b1.mono (by omega)))))
  clear X0 X1 b1 bW
  have c1 := Y.out.1.2.1 1
  have c2 := Y.out.1.2.1 2
  have k1 := Y.out.2.1.2.1 1
  have k2 := Y.out.2.1.2.1 2
  simp at c1 c2 k1 k2
  go_wp2_with fail
  refine (eq_ints w1 _ _ t.bs hf.2.1 (H.out.below Y.out.2.2).bs (K0.out.below Y.out.2.2).bs).mono ?_
  rintro e w2 ⟨rfl, b2⟩
  have z2 := b2.size
  have Y2 := hidIt (And.intro (Y.out.1.below b2) (And.intro (Y.out.2.1.below b2) (below_step Y.out.2.2 (b2.mono (by omega)))))
  clear b2 Y c1 c2 k1 k2
  have c3 := Y2.out.1.2.1 3
  have k3 := Y2.out.2.1.2.1 3
  simp at c3 k3
  go_wp2_with fail
  refine (eq_ints w2 _ _ t.es hf.2.2 (H.out.below Y2.out.2.2).es (K0.out.below Y2.out.2.2).es).mono ?_
  rintro e w3 ⟨rfl, b3⟩
  have B3 := hidIt (below_step Y2.out.2.2 (b3.mono (by omega)))
  clear b3 Y2 c3 k3
  go_wp2
  go_ret
  exact ⟨rfl, B3.out⟩
theorem eq_ths_zero (a b : Option Addr) (c d : Nat) (w : World) :
    Calls Try.prog 38 #[.slice a 0 c, .slice b 0 d] w fun e w' => e = .returned (.bool true) ∧ Below w.heap.size w w' := by
  go_enter Try.func38, Try.ntmps38
  go_wp2
  go_loop [5] (fun i => i = .int .i64 0) (fun _ => 0)
  case atStart => rfl
  case round =>
    subst hrel
    go_wp2
    go_ret
    exact ⟨rfl, Below.refl _ _⟩
def Two4 (W0 W : World) (a p b q : Nat) (v0 v1 v2 v3 u0 u1 u2 u3 : Value) : Prop := Below W0.heap.size W0 W ∧ At4 W a p v0 v1 v2 v3 ∧ At4 W b q u0 u1 u2 u3 ∧ a < W.heap.size ∧ b < W.heap.size
theorem Two4.keep {W0 W W' : World} {a p b q : Nat} {v0 v1 v2 v3 u0 u1 u2 u3 : Value} (h : Two4 W0 W a p b q v0 v1 v2 v3 u0 u1 u2 u3) (hb : Below W.heap.size W W') : Two4 W0 W' a p b q v0 v1 v2 v3 u0 u1 u2 u3 := by
  obtain ⟨h0, h1, h2, h3, h4⟩ := h
  have := hb.size
  exact ⟨below_step h0 hb, h1.keep h3 hb, h2.keep h4 hb, by omega, by omega⟩
def lim4 (W0 W : World) (a p b q : Nat) (v0 v1 v2 v3 u0 u1 u2 u3 : Value) : Prop := Two4 W0 W a p b q v0 v1 v2 v3 u0 u1 u2 u3 ∧ W.cell? ⟨a, p, none⟩ = some v0 ∧ W.cell? ⟨a, p + 1, none⟩ = some v1 ∧ W.cell? ⟨a, p + 2, none⟩ = some v2 ∧ W.cell? ⟨a, p + 3, none⟩ = some v3 ∧ W.cell? ⟨b, q, none⟩ = some u0 ∧ W.cell? ⟨b, q + 1, none⟩ = some u1 ∧ W.cell? ⟨b, q + 2, none⟩ = some u2 ∧ W.cell? ⟨b, q + 3, none⟩ = some u3
theorem lim4_of {W0 W : World} {a p b q : Nat} {v0 v1 v2 v3 u0 u1 u2 u3 : Value} (h : Two4 W0 W a p b q v0 v1 v2 v3 u0 u1 u2 u3) : lim4 W0 W a p b q v0 v1 v2 v3 u0 u1 u2 u3 := by
  have h' := h
  obtain ⟨-, ⟨h0, h1, h2, h3⟩, ⟨g0, g1, g2, g3⟩, -⟩ := h
  exact ⟨h', h0, h1, h2, h3, g0, g1, g2, g3⟩
set_option maxHeartbeats 1600000 in
set_option maxRecDepth 100000 in
theorem eq_ths_some (g og h oh c d : Nat) (ts : List Th) (w : World) (hn : ts.length ≤ 4194304) (hf : TsFit ts) (hg : g < w.heap.size) (hh : h < w.heap.size)
    (hA : ∀ j (hj : j < ts.length), ∃ v0 v2 v3, At4 w g (og + j * 4) v0 (.int .i64 ts[j].at_) v2 v3 ∧ ThIn w v0 v2 v3 ts[j]) (hB : ∀ j (hj : j < ts.length), ∃ v0 v2 v3, At4 w h (oh + j * 4) v0 (.int .i64 ts[j].at_) v2 v3 ∧ ThIn w v0 v2 v3 ts[j]) :
    Calls Try.prog 38 #[.slice (some ⟨g, og, none⟩) ts.length c, .slice (some ⟨h, oh, none⟩) ts.length d] w fun e w' => e = .returned (.bool true) ∧ Below w.heap.size w w' := by
  have HA := hidIt hA
  have HB := hidIt hB
  have HF := hidIt hf
  clear hA hB hf
  go_enter Try.func38, Try.ntmps38
  go_wp2
  go_loopw [5] (fun i wr => ∃ k : Nat, k ≤ ts.length ∧ i = .int .i64 k ∧ Below w.heap.size w wr) (fun i _ => ts.length - (intOf i).toNat)
  case atStart => exact ⟨0, Nat.zero_le _, rfl, Below.refl _ _⟩
  case round =>
    rename World => wr
    obtain ⟨k, hk, rfl, hb⟩ := hrel
    by_cases hlt : k < ts.length
    · obtain ⟨v0, v2, v3, hA4, hAT⟩ := HA.out k hlt
      obtain ⟨u0, u2, u3, hB4, hBT⟩ := HB.out k hlt
      have HT : Hid (ThFit ts[k]) := hidIt (HF.out k hlt)
      have hlt' : (k : Int) < (ts.length : Int) := by omega
      generalize ts[k] = x at hA4 hB4 hAT hBT HT
      have HAT := hidIt hAT
      have HBT := hidIt hBT
      obtain ⟨a0, d0, rfl, -⟩ := hAT.cs.form
      obtain ⟨a2, d2, rfl, -⟩ := hAT.bs.form
      obtain ⟨a3, d3, rfl, -⟩ := hAT.es.form
      obtain ⟨b0, e0, rfl, -⟩ := hBT.cs.form
      obtain ⟨b2, e2, rfl, -⟩ := hBT.bs.form
      obtain ⟨b3, e3, rfl, -⟩ := hBT.es.form
      have hS : lim4 w wr g (og + k * 4) h (oh + k * 4) (.slice a0 x.cs.length d0) (.int .i64 x.at_) (.slice a2 x.bs.length d2) (.slice a3 x.es.length d3) (.slice b0 x.cs.length e0) (.int .i64 x.at_) (.slice b2 x.bs.length e2) (.slice b3 x.es.length e3) := lim4_of ⟨hb, hA4.keep hg hb, hB4.keep hh hb, Nat.lt_of_lt_of_le hg hb.size, Nat.lt_of_lt_of_le hh hb.size⟩
      clear hA4 hB4 hAT hBT hb
      unfold lim4 at hS
      go_wp2_with fail
      go_region_held3 (fun W => Two4 w W g (og + k * 4) h (oh + k * 4) (.slice a0 x.cs.length d0) (.int .i64 x.at_) (.slice a2 x.bs.length d2) (.slice a3 x.es.length d3) (.slice b0 x.cs.length e0) (.int .i64 x.at_) (.slice b2 x.bs.length e2) (.slice b3 x.es.length e3) ∧ W.cell? ⟨g, og + k * 4, none⟩ = some (.slice a0 x.cs.length d0) ∧ W.cell? ⟨g, og + k * 4 + 1, none⟩ = some (.int .i64 x.at_) ∧ W.cell? ⟨g, og + k * 4 + 2, none⟩ = some (.slice a2 x.bs.length d2) ∧ W.cell? ⟨g, og + k * 4 + 3, none⟩ = some (.slice a3 x.es.length d3) ∧ W.cell? ⟨h, oh + k * 4, none⟩ = some (.slice b0 x.cs.length e0) ∧ W.cell? ⟨h, oh + k * 4 + 1, none⟩ = some (.int .i64 x.at_) ∧ W.cell? ⟨h, oh + k * 4 + 2, none⟩ = some (.slice b2 x.bs.length e2) ∧ W.cell? ⟨h, oh + k * 4 + 3, none⟩ = some (.slice b3 x.es.length e3))
        (first | exact lim4_of (Two4.keep (And.left (by assumption)) (Below.refl _ _).drew) | exact lim4_of (Two4.keep (And.left (by assumption)) (by assumption)))
        (first | (go_at_call 57; refine (eq_th _ _ _ _ _ _ _ x HT.out (HAT.out.below (And.left (And.left (by assumption)))) (HBT.out.below (And.left (And.left (by assumption))))).mono ?_; rintro e wa ⟨rfl, ba⟩))
      rename_i hH
      have hb := hH.1.1
      clear hH hS
      go_wp2
      go_roundw
      case rel => exact ⟨k + 1, by omega, by go_num, hb⟩
      case measure => simp [intOf]; omega
    · go_wp2
      go_ret
      exact ⟨rfl, hb⟩
theorem eq_ths (w : World) (v1 v2 : Value) (ts : List Th) (hn : ts.length ≤ 4194304) (hf : TsFit ts) (r1 : ThsIn w v1 ts) (r2 : ThsIn w v2 ts) :
    Calls Try.prog 38 #[v1, v2] w fun e w' => e = .returned (.bool true) ∧ Below w.heap.size w w' := by
  obtain ⟨a, c, rfl, -, q1⟩ := r1
  obtain ⟨b, d, rfl, -, q2⟩ := r2
  by_cases h0 : 0 < ts.length
  · rcases q1 with rfl | ⟨g, og, rfl, g1, q1⟩
    · exact absurd h0 (by simp)
    · rcases q2 with rfl | ⟨h, oh, rfl, h1, q2⟩
      · exact absurd h0 (by simp)
      · exact eq_ths_some g og h oh c d ts w hn hf g1 h1 q1 q2
  · obtain rfl := len_zero h0
    exact eq_ths_zero _ _ c d w
theorem eq_memN (w : World) (v1 v2 : Value) (ps : List Int) (hn : ps.length ≤ 4194304) (r1 : IntsIn w v1 ps) (r2 : IntsIn w v2 ps) :
    Calls Try.prog 37 #[.agg #[v1], .agg #[v2]] w fun e w' => e = .returned (.bool true) ∧ Below w.heap.size w w' := by
  have R1 := hidIt r1
  have R2 := hidIt r2
  obtain ⟨a, c, rfl, -⟩ := r1.form
  obtain ⟨b, d, rfl, -⟩ := r2.form
  clear r1 r2
  go_enter Try.func37, Try.ntmps37
  go_wp2_with fail
  have b0 : Below w.heap.size w ((w.alloc (.cells #[.slice a ps.length c] 31)).alloc (.cells #[.slice b ps.length d] 31)) := ((Below.refl _ _).alloc (Nat.le_refl _) _).alloc (by simp) _
  refine (eq_ints _ _ _ ps hn (R1.out.below b0) (R2.out.below b0)).mono ?_
  rintro e w1 ⟨rfl, b1⟩
  have B1 := hidIt (below_step b0 (b1.mono (by simp <;> omega)))
  clear b0 b1
  go_wp2
  go_ret
  exact ⟨rfl, B1.out⟩
def CwFit (C : Cw) : Prop := C.m.length ≤ 4194304 ∧ C.ts.length ≤ 4194304 ∧ TsFit C.ts
set_option maxHeartbeats 800000 in
set_option maxRecDepth 100000 in
theorem eq_crew (w : World) (vm vt um ut : Value) (C : Cw) (hf : CwFit C) (h : CwIn w vm vt C) (k : CwIn w um ut C) :
    Calls Try.prog 13 #[.agg #[.int .i64 C.what, .int .i64 C.size, vm, vt, .int .i64 C.clock], .agg #[.int .i64 C.what, .int .i64 C.size, um, ut, .int .i64 C.clock]] w fun e w' => e = .returned (.bool true) ∧ Below w.heap.size w w' := by
  have H := hidIt h
  have K0 := hidIt k
  obtain ⟨a0, d0, rfl, -⟩ := h.m.form
  obtain ⟨a2, d2, rfl, -⟩ := h.ts.form
  obtain ⟨b0, e0, rfl, -⟩ := k.m.form
  obtain ⟨b2, e2, rfl, -⟩ := k.ts.form
  clear h k
  go_enter Try.func13, Try.ntmps13
  go_wp2_with fail
  generalize hW : World.alloc (World.alloc w _) _ = W0
  have X := bx2 w #[.int .i64 C.what, .int .i64 C.size, .slice a0 C.m.length d0, .slice a2 C.ts.length d2, .int .i64 C.clock] #[.int .i64 C.what, .int .i64 C.size, .slice b0 C.m.length e0, .slice b2 C.ts.length e2, .int .i64 C.clock] 34 34
  rw [hW] at X
  clear hW
  obtain ⟨X0, X1, bW, zW⟩ := X
  refine (eq_memN W0 _ _ C.m hf.1 (H.out.below bW).m (K0.out.below bW).m).mono ?_
  rintro e w1 ⟨rfl, b1⟩
  have z1 := b1.size
  have Y := hidIt (And.intro (X0.below b1) (And.intro (X1.below b1) (below_step bW (b1.mono (by omega)))))
  clear X0 X1 b1 bW
  have c3 := Y.out.1.2.1 3
  have k3 := Y.out.2.1.2.1 3
  simp at c3 k3
  go_wp2_with fail
  refine (eq_ths w1 _ _ C.ts hf.2.1 hf.2.2 (H.out.below Y.out.2.2).ts (K0.out.below Y.out.2.2).ts).mono ?_
  rintro e w2 ⟨rfl, b2⟩
  have z2 := b2.size
  have Y2 := hidIt (And.intro (Y.out.1.below b2) (And.intro (Y.out.2.1.below b2) (below_step Y.out.2.2 (b2.mono (by omega)))))
  clear b2 Y c3 k3
  have c4 := Y2.out.1.2.1 4
  have k4 := Y2.out.2.1.2.1 4
  simp at c4 k4
  go_wp2
  go_ret
  exact ⟨rfl, Y2.out.2.2⟩
set_option maxHeartbeats 800000 in
set_option maxRecDepth 100000 in
theorem to_crew (w : World) (vm vt : Value) (C : Cw) (hf : CwFit C) (h : CwIn w vm vt C) :
    Calls Try.prog 10 #[.agg #[.int .i64 C.what, .int .i64 C.size, vm, vt, .int .i64 C.clock]] w fun e w' => ∃ vm' vt', e = .returned (.agg #[.int .i64 C.what, .int .i64 C.size, vm', vt', .int .i64 C.clock]) ∧ CwNew w w' vm' vt' C := by
  have H := hidIt h
  obtain ⟨a0, d0, rfl, -⟩ := h.m.form
  obtain ⟨a2, d2, rfl, -⟩ := h.ts.form
  clear h
  go_enter Try.func10, Try.ntmps10
  go_wp2_with fail
  generalize hW : World.alloc (World.alloc (World.alloc w _) _) _ = W0
  have X := bx3 w #[.int .i64 C.what, .int .i64 C.size, .slice a0 C.m.length d0, .slice a2 C.ts.length d2, .int .i64 C.clock] #[.int .i64 0, .int .i64 0, .slice none 0 0, .slice none 0 0, .int .i64 0] #[.int .i64 C.what, .int .i64 C.size, .slice none 0 0, .slice none 0 0, .int .i64 0] 27 34 34
  rw [hW] at X
  clear hW
  obtain ⟨X0, X1, X2, bW, zW⟩ := X
  refine (to_memN W0 _ C.m hf.1 (H.out.below bW).m).mono ?_
  rintro e w1 ⟨v0', rfl, f0, o0, nd0, g0, b1⟩
  have z1 := b1.size
  have O0 := hidIt o0
  have l0 := o0.lt
  obtain ⟨a0', d0', rfl, -⟩ := o0.rd.form
  clear o0
  have Y := hidIt (And.intro (X0.below b1) (And.intro (X1.below b1) (And.intro (X2.below b1) (below_step bW (b1.mono (by omega))))))
  clear X0 X1 X2 b1 bW
  have c3 := Y.out.1.2.1 3
  have k2 := Y.out.2.2.1.2.1 2
  have q2 := Y.out.2.2.1.2.2
  simp at c3 k2
  go_wp2_with fail
  clear c3 k2 q2
  generalize hW : World.setCell w1 _ _ = W1
  have Z : Bx W1 w.heap.size #[.int .i64 C.what, .int .i64 C.size, .slice a0 C.m.length d0, .slice a2 C.ts.length d2, .int .i64 C.clock] ∧ Bx W1 (w.heap.size + 1) #[.int .i64 0, .int .i64 0, .slice none 0 0, .slice none 0 0, .int .i64 0] ∧ Bx W1 (w.heap.size + 1 + 1) #[.int .i64 C.what, .int .i64 C.size, .slice a0' C.m.length d0', .slice none 0 0, .int .i64 0] ∧ Below w.heap.size w W1 ∧ W1.heap.size = w1.heap.size ∧ IntsO W1 (.slice a0' C.m.length d0') C.m f0 := by
    rw [← hW]
    obtain ⟨y0, y1, y2, y3⟩ := Y.out
    exact ⟨y0.other _ (by omega), y1.other _ (by omega), y2.set _ (by simp), y3.setCell (by simp <;> omega) _, by simp, O0.out.set (not_mem_lt g0 (by omega))⟩
  clear hW Y O0
  obtain ⟨X0, X1, X2, bW, zW1, O0⟩ := Z
  refine (to_ths W1 _ C.ts hf.2.1 hf.2.2 (H.out.below bW).ts).mono ?_
  rintro e w2 ⟨v2', rfl, f2, o2, nd2, g2, b2⟩
  have z2 := b2.size
  have O2 := hidIt o2
  have l2 := o2.lt
  have O0' := hidIt (O0.below b2)
  obtain ⟨a2', d2', rfl, -⟩ := o2.rd.form
  clear o2 O0
  have Y := hidIt (And.intro (X0.below b2) (And.intro (X1.below b2) (And.intro (X2.below b2) (below_step bW (b2.mono (by omega))))))
  clear X0 X1 X2 b2 bW
  have c4 := Y.out.1.2.1 4
  have m0 := Y.out.2.1.2.1 0
  have m1 := Y.out.2.1.2.1 1
  have m2 := Y.out.2.1.2.1 2
  have m3 := Y.out.2.1.2.1 3
  have m4 := Y.out.2.1.2.1 4
  have q1 := Y.out.2.1.2.2
  have k0 := Y.out.2.2.1.2.1 0
  have k1 := Y.out.2.2.1.2.1 1
  have k2 := Y.out.2.2.1.2.1 2
  have k3 := Y.out.2.2.1.2.1 3
  have k4 := Y.out.2.2.1.2.1 4
  have q2 := Y.out.2.2.1.2.2
  simp at c4 m0 m1 m2 m3 m4 k0 k1 k2 k3 k4
  go_wp2
  refine bodyPost_ret (v := .agg #[.int .i64 C.what, .int .i64 C.size, .slice a0' C.m.length d0', .slice a2' C.ts.length d2', .int .i64 C.clock]) (by simp [results, Try.results10, go_sem, m0, m1, m2, m3, m4]) rfl ⟨_, _, rfl, f0 ++ f2, ?_, ?_, ?_, ?_⟩
  · have hh : ∀ {p : Nat}, p < w.heap.size + 3 → ¬ p ∈ f0 ∧ ¬ p ∈ f2 := fun hp => ⟨not_mem_lt g0 (by omega), not_mem_lt g2 (by omega)⟩
    have h1 := hh (p := w.heap.size + 1) (by omega)
    have h2 := hh (p := w.heap.size + 1 + 1) (by omega)
    exact ⟨f0, f2, rfl, ((((((O0'.out.set h2.1).set h2.1).set h1.1).set h1.1).set h1.1).set h1.1).set h1.1, ((((((O2.out.set h2.2).set h2.2).set h1.2).set h1.2).set h1.2).set h1.2).set h1.2⟩
  · exact nodup_app (s := W1.heap.size) nd0 nd2 (fun g hg => by have := l0 g hg; omega) g2
  · intro g hg
    rcases List.mem_append.1 hg with hg | hg
    · have := g0 g hg; omega
    · have := g2 g hg; omega
  · exact ((((((Y.out.2.2.2.setCell (by simp <;> omega) _).setCell (by simp <;> omega) _).setCell (by simp <;> omega) _).setCell (by simp <;> omega) _).setCell (by simp <;> omega) _).setCell (by simp <;> omega) _).setCell (by simp <;> omega) _

end Go.Proofs.Ytmifnemjihffkaa
