/- Threads and crews marked, and looked at again: whole. -/
import Derived.Test.YtpfofjcfaelocaaRows
import Derived.WalkKit
import Derived.ProofKit
import Derived.OpenShut
import Derived.ShutString
import Derived.Test.YtpfofjcfaelocaaCrewMark
namespace Go.Proofs.Ytpfofjcfaelocaa
open Go.ChangeShapes Go.WideShapes Go.ChangeAt Go.RowKit
set_option linter.unusedVariables false

theorem mark_ths_zero (a : Option Addr) (c k0 : Nat) (w : World) :
    Calls Try.prog 10 #[.slice a 0 c, .int .i64 k0] w fun e w' => e = .returned (.int .i64 k0) ∧ w' = w := by
  go_enter Try.func10, Try.ntmps10
  go_wp2
  go_loop [5, 1] (fun i k => i = .int .i64 0 ∧ k = .int .i64 k0) (fun _ _ => 0)
  case atStart => exact ⟨rfl, rfl⟩
  case round =>
    obtain ⟨rfl, rfl⟩ := hrel
    go_wp2
    go_ret
    exact ⟨rfl, rfl⟩
theorem held_ths_zero (a : Option Addr) (c k0 : Nat) (w : World) :
    Calls Try.prog 25 #[.slice a 0 c, .int .i64 k0] w fun e w' => e = .returned (.int .i64 k0) ∧ w' = w := by
  go_enter Try.func25, Try.ntmps25
  go_wp2
  go_loop [5, 1] (fun i k => i = .int .i64 0 ∧ k = .int .i64 k0) (fun _ _ => 0)
  case atStart => exact ⟨rfl, rfl⟩
  case round =>
    obtain ⟨rfl, rfl⟩ := hrel
    go_wp2
    go_ret
    exact ⟨rfl, rfl⟩
theorem mark_ths (w : World) (v : Value) (ts : List Th) (fp : List Nat) (k0 : Nat) (hn : ts.length ≤ 4194304) (hf : TsFit ts) (h2 : oT ts k0 ts.length ≤ 1073741824) (h : ThsO w v ts fp) (hN : fp.Nodup) :
    Calls Try.prog 10 #[v, .int .i64 k0] w fun e w' => e = .returned (.int .i64 ((oT ts k0 ts.length : Nat) : Int)) ∧ ThsO w' v (mkThs k0 ts) fp ∧ Kp fp w w' := by
  obtain ⟨a, cap, rfl, hc, h⟩ := h
  by_cases h0 : 0 < ts.length
  · rcases h with ⟨rfl, -⟩ | ⟨g, fps, rfl, rfl, g1, g2, g3⟩
    · exact absurd h0 (by simp)
    · refine (mark_ths_some g cap k0 ts fps w hn hf h2 g1 (fun j hj => by simp only [getD_at ts j hj]; exact g2 j hj) g3 hN).mono ?_
      rintro e w' ⟨rfl, m1, m2, m3⟩
      refine ⟨rfl, ⟨_, cap, by rw [mkThs_len], by rw [mkThs_len]; exact hc, .inr ⟨g, fps, rfl, by rw [mkThs_len], Nat.lt_of_lt_of_le g1 m3.size, fun j hj => ?_, m2⟩⟩, m3⟩
      have hj' : j < ts.length := by rw [mkThs_len] at hj; exact hj
      rw [mkThs_at _ _ _ _ hj']
      have := m1 j hj'
      rwa [show mkTo ts k0 ts.length j = mkTh (oT ts k0 j) ts[j] by unfold mkTo; rw [if_pos hj', getD_at ts j hj']] at this
  · obtain rfl := len_zero h0
    refine (mark_ths_zero a cap k0 w).mono ?_
    rintro e w' ⟨rfl, rfl⟩
    refine ⟨rfl, ⟨a, cap, rfl, hc, ?_⟩, Kp.refl _ _⟩
    rcases h with ⟨-, rfl⟩ | ⟨g, fps, rfl, rfl, g1, g2, g3⟩
    · exact .inl ⟨rfl, rfl⟩
    · exact .inr ⟨g, fps, rfl, rfl, g1, fun j hj => by simp [mkThs] at hj, g3⟩
set_option maxHeartbeats 1600000 in
set_option maxRecDepth 100000 in
theorem held_ths_some (g c k0 : Nat) (ts : List Th) (fps : Nat → List Nat) (w : World) (hn : ts.length ≤ 4194304) (hf : TsFit ts) (h2 : oT ts k0 ts.length ≤ 1073741824)
    (hA : TsAt w g ts.length fps (fun j => mkTh (oT ts k0 j) (ts.getD j default))) :
    Calls Try.prog 25 #[.slice (some ⟨g, 0, none⟩) ts.length c, .int .i64 k0] w fun e w' => e = .returned (.int .i64 ((oT ts k0 ts.length : Nat) : Int)) ∧ w' = w := by
  have HA := hidIt hA
  have HFT := hidIt hf
  clear hA hf
  go_enter Try.func25, Try.ntmps25
  go_wp2
  go_loop [5, 1] (fun i kk => ∃ k : Nat, k ≤ ts.length ∧ i = .int .i64 k ∧ kk = .int .i64 ((oT ts k0 k : Nat) : Int)) (fun i _ => ts.length - (intOf i).toNat)
  case atStart => exact ⟨0, Nat.zero_le _, rfl, rfl⟩
  case round =>
    obtain ⟨k, hk, rfl, rfl⟩ := hrel
    by_cases hlt : k < ts.length
    · have hlt' : (k : Int) < (ts.length : Int) := by omega
      obtain ⟨v0, v2, v3, h4, h5⟩ := HA.out k hlt
      simp only [getD_at ts k hlt] at h4 h5
      obtain ⟨q1, q2, q3⟩ := HFT.out k hlt
      have HST := hidIt (oT_step ts k0 k hlt)
      have hK1 : oT ts k0 (k + 1) ≤ 1073741824 := Nat.le_trans (oT_mono ts k0 (show k + 1 ≤ ts.length by omega)) h2
      rw [oT_step ts k0 k hlt] at hK1
      obtain ⟨f0, f2, f3, -, o0, o2, o3⟩ := h5
      generalize ts[k] = y at *
      generalize oT ts k0 k = K0 at *
      have hy : szM y = 10 * y.cs.length + 1 + y.bs.length + y.es.length := rfl
      rw [hy] at hK1
      have HY := hidIt hy
      clear hy
      simp only [mkTh] at h4 o0 o2 o3
      obtain ⟨r0, r1, r2, r3⟩ := h4
      have O0 := hidIt o0
      have O2 := hidIt o2
      have O3 := hidIt o3
      obtain ⟨a0, m0, rfl, -⟩ := o0.rd.form
      obtain ⟨a2, m2, rfl, -⟩ := o2.rd.form
      obtain ⟨a3, m3, rfl, -⟩ := o3.rd.form
      clear o0 o2 o3
      go_wp2_with fail
      refine (held_calls w _ y.cs.length K0 f0 q1 (by omega) O0.out).mono ?_
      rintro e w1 ⟨rfl, rfl⟩
      go_wp2_with fail
      rw [show ((K0 : Int) + 10 * (y.cs.length : Int) + 1) = ((K0 + 10 * y.cs.length + 1 : Nat) : Int) by push_cast; rfl]
      refine (held_ints _ _ y.bs.length (K0 + 10 * y.cs.length + 1) f2 q2 (by omega) O2.out).mono ?_
      rintro e w1 ⟨rfl, rfl⟩
      go_wp2_with fail
      refine (held_ints _ _ y.es.length (K0 + 10 * y.cs.length + 1 + y.bs.length) f3 q3 (by omega) O3.out).mono ?_
      rintro e w1 ⟨rfl, rfl⟩
      go_wp2
      go_round
      case rel => exact ⟨k + 1, by omega, by go_num, by rw [HST.out, HY.out]; go_num⟩
      case measure => simp [intOf]; omega
    · have HK : Hid (k = ts.length) := (by omega : k = ts.length)
      go_wp2
      go_ret
      exact ⟨ret_ints (by rw [HK.out]), rfl⟩
theorem held_ths (w : World) (v : Value) (ts : List Th) (fp : List Nat) (k0 : Nat) (hn : ts.length ≤ 4194304) (hf : TsFit ts) (h2 : oT ts k0 ts.length ≤ 1073741824) (h : ThsO w v (mkThs k0 ts) fp) :
    Calls Try.prog 25 #[v, .int .i64 k0] w fun e w' => e = .returned (.int .i64 ((oT ts k0 ts.length : Nat) : Int)) ∧ w' = w := by
  obtain ⟨a, cap, rfl, hc, h⟩ := h
  rw [mkThs_len]
  by_cases h0 : 0 < ts.length
  · rcases h with ⟨h, -⟩ | ⟨g, fps, rfl, rfl, g1, g2, g3⟩
    · exact absurd (congrArg List.length h) (fun e => by rw [mkThs_len] at e; simp only [List.length_nil] at e; omega)
    · refine held_ths_some g cap k0 ts fps w hn hf h2 (fun j hj => ?_)
      have := g2 j (by rw [mkThs_len]; exact hj)
      rw [mkThs_at _ _ _ _ hj] at this
      simp only [getD_at ts j hj]
      exact this
  · obtain rfl := len_zero h0
    exact held_ths_zero a cap k0 w
theorem mark_memN (w : World) (v : Value) (xs : List Int) (fp : List Nat) (k0 : Nat) (hn : xs.length ≤ 4194304) (h2 : k0 ≤ 1073741824) (h : IntsO w v xs fp) :
    Calls Try.prog 23 #[.agg #[v], .int .i64 k0] w fun e w' => e = .returned (.int .i64 ((k0 + xs.length : Nat) : Int)) ∧ IntsO w' v (mkInts k0 xs.length) fp ∧ Kp fp w w' := by
  have H := hidIt h
  obtain ⟨a, c, rfl, -⟩ := h.rd.form
  clear h
  go_enter Try.func23, Try.ntmps23
  go_wp2_with fail
  have b0 : Below w.heap.size w (w.alloc (.cells #[.slice a xs.length c] 26)) := (Below.refl _ _).alloc (Nat.le_refl _) _
  refine (mark_ints _ _ xs fp k0 hn h2 (H.out.below b0)).mono ?_
  rintro e w1 ⟨rfl, r1, kp⟩
  have KP := hidIt ((Kp.of_below (bs := fp) b0).trans kp)
  have R1 := hidIt r1
  clear b0 kp r1
  go_wp2
  go_ret
  exact ⟨rfl, R1.out, KP.out⟩
theorem held_memN (w : World) (v : Value) (n k0 : Nat) (fp : List Nat) (hn : n ≤ 4194304) (h2 : k0 ≤ 1073741824) (h : IntsO w v (mkInts k0 n) fp) :
    Calls Try.prog 24 #[.agg #[v], .int .i64 k0] w fun e w' => e = .returned (.int .i64 ((k0 + n : Nat) : Int)) ∧ Below w.heap.size w w' := by
  have H := hidIt h
  obtain ⟨a, c, rfl, -⟩ := h.rd.form
  rw [mkInts_len] at *
  clear h
  go_enter Try.func24, Try.ntmps24
  go_wp2_with fail
  have b0 : Below w.heap.size w (w.alloc (.cells #[.slice a n c] 26)) := (Below.refl _ _).alloc (Nat.le_refl _) _
  refine (held_ints _ _ n k0 fp hn h2 (H.out.below b0)).mono ?_
  rintro e w1 ⟨rfl, rfl⟩
  go_wp2
  go_ret
  exact ⟨rfl, (Below.refl _ _).alloc (Nat.le_refl _) _⟩
set_option maxHeartbeats 800000 in
set_option maxRecDepth 100000 in
theorem mark_crew (w : World) (vm vt : Value) (C : Cw) (fp : List Nat) (k0 : Nat) (hf : CwFit C) (h2 : k0 ≤ 1073741824) (h3 : endM k0 C ≤ 1073741824) (h : CwO w vm vt C fp) (hN : fp.Nodup) :
    Calls Try.prog 11 #[.agg #[.int .i64 C.what, .int .i64 C.size, vm, vt, .int .i64 C.clock], .int .i64 k0] w fun e w' => e = .returned (.int .i64 ((endM k0 C : Nat) : Int)) ∧ CwO w' vm vt (mkCw k0 C) fp ∧ Kp fp w w' := by
  obtain ⟨f0, f1, rfl, o0, o1⟩ := h
  have O0 := hidIt o0
  have O1 := hidIt o1
  obtain ⟨a0, d0, rfl, -⟩ := o0.rd.form
  obtain ⟨a2, d2, rfl, -⟩ := o1.rd.form
  rw [List.nodup_append] at hN
  obtain ⟨n0, n1, n2⟩ := hN
  have HD := hidIt (show ∀ x ∈ f1, ¬ x ∈ f0 from fun x hx hm => n2 x hm x hx rfl)
  have hk1 : k0 + C.m.length ≤ 1073741824 := Nat.le_trans (oT_mono C.ts (k0 + C.m.length) (Nat.zero_le C.ts.length)) h3
  have H3 := hidIt h3
  clear o0 o1 n2 h3
  go_enter Try.func11, Try.ntmps11
  go_wp2_with fail
  generalize hW : World.alloc w _ = W0
  have b0 : Below w.heap.size w W0 := by rw [← hW]; exact (Below.refl _ _).alloc (Nat.le_refl _) _
  have X0 : Bx W0 w.heap.size #[.int .i64 C.what, .int .i64 C.size, .slice a0 C.m.length d0, .slice a2 C.ts.length d2, .int .i64 C.clock] := by rw [← hW]; exact Bx.new w _ _
  clear hW
  refine (mark_memN W0 _ C.m f0 k0 hf.1 h2 (O0.out.below b0)).mono ?_
  rintro e w1 ⟨rfl, p0, kp0⟩
  have P0 := hidIt p0
  have KP0 := hidIt ((Kp.of_below (bs := f0) b0).trans kp0)
  have hwf : ¬ w.heap.size ∈ f0 := fun hm => by have := O0.out.lt _ hm; omega
  have X1 := hidIt (X0.block kp0.size (kp0.block _ X0.1 hwf))
  have c3 := X1.out.2.1 3
  simp at c3
  clear p0 kp0 X0 hwf
  go_wp2_with fail
  refine (mark_ths w1 _ C.ts f1 (k0 + C.m.length) hf.2.1 hf.2.2 H3.out (KP0.out.ths O1.out HD.out) n1).mono ?_
  rintro e w2 ⟨rfl, p1, kp1⟩
  have P1 := hidIt p1
  have KP1 := hidIt kp1
  clear p1 kp1
  go_wp2
  go_ret
  refine ⟨rfl, ⟨f0, f1, rfl, KP1.out.ints P0.out (fun x hx hm => HD.out x hm hx), P1.out⟩, (KP0.out.more (fun x hx => .inl (List.mem_append_left _ hx))).trans (KP1.out.more (fun x hx => .inl (List.mem_append_right _ hx)))⟩
set_option maxHeartbeats 800000 in
set_option maxRecDepth 100000 in
theorem held_crew (w : World) (vm vt : Value) (C : Cw) (fp : List Nat) (k0 : Nat) (hf : CwFit C) (h2 : k0 ≤ 1073741824) (h3 : endM k0 C ≤ 1073741824) (h : CwO w vm vt (mkCw k0 C) fp) :
    Calls Try.prog 12 #[.agg #[.int .i64 C.what, .int .i64 C.size, vm, vt, .int .i64 C.clock], .int .i64 k0] w fun e w' => e = .returned (.int .i64 ((endM k0 C : Nat) : Int)) ∧ Below w.heap.size w w' := by
  obtain ⟨f0, f1, rfl, o0, o1⟩ := h
  have O0 : Hid (IntsO w vm (mkInts k0 C.m.length) f0) := o0
  have O1 : Hid (ThsO w vt (mkThs (k0 + C.m.length) C.ts) f1) := o1
  clear o0 o1
  obtain ⟨a0, d0, e0, -⟩ := O0.out.rd.form
  rw [mkInts_len] at e0
  obtain ⟨a2, d2, e2, -⟩ := O1.out.rd.form
  rw [mkThs_len] at e2
  subst e0 e2
  have hk1 : k0 + C.m.length ≤ 1073741824 := Nat.le_trans (oT_mono C.ts (k0 + C.m.length) (Nat.zero_le C.ts.length)) h3
  have H3 := hidIt h3
  have HE := hidIt (show endM k0 C = oT C.ts (k0 + C.m.length) C.ts.length from rfl)
  rw [HE.out]
  clear h3
  go_enter Try.func12, Try.ntmps12
  go_wp2_with fail
  generalize hW : World.alloc w _ = W0
  have b0 : Below w.heap.size w W0 := by rw [← hW]; exact (Below.refl _ _).alloc (Nat.le_refl _) _
  have X0 : Bx W0 w.heap.size #[.int .i64 C.what, .int .i64 C.size, .slice a0 C.m.length d0, .slice a2 C.ts.length d2, .int .i64 C.clock] := by rw [← hW]; exact Bx.new w _ _
  clear hW
  refine (held_memN W0 _ C.m.length k0 f0 hf.1 h2 (O0.out.below b0)).mono ?_
  rintro e w1 ⟨rfl, b1⟩
  have B1 := hidIt (below_step b0 b1)
  have X1 := hidIt (X0.below b1)
  have c3 := X1.out.2.1 3
  simp at c3
  clear b1 X0 b0
  go_wp2_with fail
  refine (held_ths w1 _ C.ts f1 (k0 + C.m.length) hf.2.1 hf.2.2 H3.out (O1.out.below B1.out)).mono ?_
  rintro e w2 ⟨rfl, rfl⟩
  go_wp2
  go_ret
  exact ⟨rfl, B1.out⟩
theorem oT_le (ts : List Th) (k0 n : Nat) : oT ts k0 n ≤ k0 + 10 * pS ts n + n := by
  induction n with
  | zero => exact Nat.le_refl _
  | succ n ih =>
    show oT ts k0 n + szM (ts.getD n default) ≤ k0 + 10 * (pS ts n + szTh (ts.getD n default)) + (n + 1)
    unfold szM szTh
    omega
theorem cw_end (C : Cw) (h : C.m.length + szThs C.ts ≤ 1048576) : endM 1 C ≤ 1073741824 := by
  have := oT_le C.ts (1 + C.m.length) C.ts.length
  unfold szThs at h
  unfold endM
  omega

end Go.Proofs.Ytpfofjcfaelocaa
