/- Threads and crews marked, and looked at again: whole. -/
import Derived.Test.YtmifnemjihffkaaRows
import Derived.WalkKit
import Derived.ProofKit
import Derived.OpenShut
import Derived.ShutString
import Derived.Test.YtmifnemjihffkaaCrewMark
namespace Go.Proofs.Ytmifnemjihffkaa
open Go.ChangeShapes Go.WideShapes Go.ChangeAt Go.RowKit
set_option linter.unusedVariables false

theorem mark_ths_zero (a : Option Addr) (c k0 : Nat) (w : World) :
    Calls Try.prog 40 #[.slice a 0 c, .int .i64 k0] w fun e w' => e = .returned (.int .i64 k0) ∧ w' = w := by
  go_enter Try.func40, Try.ntmps40
  go_wp2
  go_loop [5, 1] (fun i k => i = .int .i64 0 ∧ k = .int .i64 k0) (fun _ _ => 0)
  case atStart => exact ⟨rfl, rfl⟩
  case round =>
    obtain ⟨rfl, rfl⟩ := hrel
    go_wp2
    go_ret
    exact ⟨rfl, rfl⟩
theorem mark_ths (w : World) (v : Value) (ts : List Th) (fp : List Nat) (k0 : Nat) (hn : ts.length ≤ 4194304) (hf : TsFit ts) (h2 : oT ts k0 ts.length ≤ 1073741824) (h : ThsO w v ts fp) (hN : fp.Nodup) :
    Calls Try.prog 40 #[v, .int .i64 k0] w fun e w' => e = .returned (.int .i64 ((oT ts k0 ts.length : Nat) : Int)) ∧ ThsO w' v (mkThs k0 ts) fp ∧ Kp fp w w' := by
  obtain ⟨a, cap, rfl, hc, h⟩ := h
  by_cases h0 : 0 < ts.length
  · rcases h with ⟨rfl, -⟩ | ⟨g, fps, rfl, rfl, g1, g2, g3⟩
    · exact absurd h0 (by simp)
    · refine (mark_ths_some g cap k0 ts fps w hn hf h2 g1 (fun j hj => by simp only [getD_at ts j hj]; exact g2 j hj) g3 hN).mono ?_
      rintro e w' ⟨rfl, m1, m2, m3⟩
      refine ⟨rfl, ⟨_, cap, by rw [mkThs_len], by rw [mkThs_len]; exact hc, .inr ⟨g, fps, rfl, by rw [mkThs_len], Nat.lt_of_lt_of_le g1 m3.size, fun j hj => ?_, m2⟩⟩, m3⟩
      have hj' : j < ts.length := by rw [mkThs_len] at hj; exact hj
      rw [mkThs_at _ _ _ _ hj']
      have := m1 j hj'
      rwa [show mkTo ts k0 ts.length j = mkTh (oT ts k0 j) ts[j] by unfold mkTo; rw [if_pos hj', getD_at ts j hj']] at this
  · obtain rfl := len_zero h0
    refine (mark_ths_zero a cap k0 w).mono ?_
    rintro e w' ⟨rfl, rfl⟩
    refine ⟨rfl, ⟨a, cap, rfl, hc, ?_⟩, Kp.refl _ _⟩
    rcases h with ⟨-, rfl⟩ | ⟨g, fps, rfl, rfl, g1, g2, g3⟩
    · exact .inl ⟨rfl, rfl⟩
    · exact .inr ⟨g, fps, rfl, rfl, g1, fun j hj => by simp [mkThs] at hj, g3⟩
theorem mark_memN (w : World) (v : Value) (xs : List Int) (fp : List Nat) (k0 : Nat) (hn : xs.length ≤ 4194304) (h2 : k0 ≤ 1073741824) (h : IntsO w v xs fp) :
    Calls Try.prog 39 #[.agg #[v], .int .i64 k0] w fun e w' => e = .returned (.int .i64 ((k0 + xs.length : Nat) : Int)) ∧ IntsO w' v (mkInts k0 xs.length) fp ∧ Kp fp w w' := by
  have H := hidIt h
  obtain ⟨a, c, rfl, -⟩ := h.rd.form
  clear h
  go_enter Try.func39, Try.ntmps39
  go_wp2_with fail
  have b0 : Below w.heap.size w (w.alloc (.cells #[.slice a xs.length c] 31)) := (Below.refl _ _).alloc (Nat.le_refl _) _
  refine (mark_ints _ _ xs fp k0 hn h2 (H.out.below b0)).mono ?_
  rintro e w1 ⟨rfl, r1, kp⟩
  have KP := hidIt ((Kp.of_below (bs := fp) b0).trans kp)
  have R1 := hidIt r1
  clear b0 kp r1
  go_wp2
  go_ret
  exact ⟨rfl, R1.out, KP.out⟩
set_option maxHeartbeats 800000 in
set_option maxRecDepth 100000 in
theorem mark_crew (w : World) (vm vt : Value) (C : Cw) (fp : List Nat) (k0 : Nat) (hf : CwFit C) (h2 : k0 ≤ 1073741824) (h3 : endM k0 C ≤ 1073741824) (h : CwO w vm vt C fp) (hN : fp.Nodup) :
    Calls Try.prog 14 #[.agg #[.int .i64 C.what, .int .i64 C.size, vm, vt, .int .i64 C.clock], .int .i64 k0] w fun e w' => e = .returned (.int .i64 ((endM k0 C : Nat) : Int)) ∧ CwO w' vm vt (mkCw k0 C) fp ∧ Kp fp w w' := by
  obtain ⟨f0, f1, rfl, o0, o1⟩ := h
  have O0 := hidIt o0
  have O1 := hidIt o1
  obtain ⟨a0, d0, rfl, -⟩ := o0.rd.form
  obtain ⟨a2, d2, rfl, -⟩ := o1.rd.form
  rw [List.nodup_append] at hN
  obtain ⟨n0, n1, n2⟩ := hN
  have HD := hidIt (show ∀ x ∈ f1, ¬ x ∈ f0 from fun x hx hm => n2 x hm x hx rfl)
  have hk1 : k0 + C.m.length ≤ 1073741824 := Nat.le_trans (oT_mono C.ts (k0 + C.m.length) (Nat.zero_le C.ts.length)) h3
  have H3 := hidIt h3
  clear o0 o1 n2 h3
  go_enter Try.func14, Try.ntmps14
  go_wp2_with fail
  generalize hW : World.alloc w _ = W0
  have b0 : Below w.heap.size w W0 := by rw [← hW]; exact (Below.refl _ _).alloc (Nat.le_refl _) _
  have X0 : Bx W0 w.heap.size #[.int .i64 C.what, .int .i64 C.size, .slice a0 C.m.length d0, .slice a2 C.ts.length d2, .int .i64 C.clock] := by rw [← hW]; exact Bx.new w _ _
  clear hW
  refine (mark_memN W0 _ C.m f0 k0 hf.1 h2 (O0.out.below b0)).mono ?_
  rintro e w1 ⟨rfl, p0, kp0⟩
  have P0 := hidIt p0
  have KP0 := hidIt ((Kp.of_below (bs := f0) b0).trans kp0)
  have hwf : ¬ w.heap.size ∈ f0 := fun hm => by have := O0.out.lt _ hm; omega
  have X1 := hidIt (X0.block kp0.size (kp0.block _ X0.1 hwf))
  have c3 := X1.out.2.1 3
  simp at c3
  clear p0 kp0 X0 hwf
  go_wp2_with fail
  refine (mark_ths w1 _ C.ts f1 (k0 + C.m.length) hf.2.1 hf.2.2 H3.out (KP0.out.ths O1.out HD.out) n1).mono ?_
  rintro e w2 ⟨rfl, p1, kp1⟩
  have P1 := hidIt p1
  have KP1 := hidIt kp1
  clear p1 kp1
  go_wp2
  go_ret
  refine ⟨rfl, ⟨f0, f1, rfl, KP1.out.ints P0.out (fun x hx hm => HD.out x hm hx), P1.out⟩, (KP0.out.more (fun x hx => .inl (List.mem_append_left _ hx))).trans (KP1.out.more (fun x hx => .inl (List.mem_append_right _ hx)))⟩
theorem oT_le (ts : List Th) (k0 n : Nat) : oT ts k0 n ≤ k0 + 10 * pS ts n + n := by
  induction n with
  | zero => exact Nat.le_refl _
  | succ n ih =>
    show oT ts k0 n + szM (ts.getD n default) ≤ k0 + 10 * (pS ts n + szTh (ts.getD n default)) + (n + 1)
    unfold szM szTh
    omega
theorem cw_end (C : Cw) (h : C.m.length + szThs C.ts ≤ 1048576) : endM 1 C ≤ 1073741824 := by
  have := oT_le C.ts (1 + C.m.length) C.ts.length
  unfold szThs at h
  unfold endM
  omega

end Go.Proofs.Ytmifnemjihffkaa
