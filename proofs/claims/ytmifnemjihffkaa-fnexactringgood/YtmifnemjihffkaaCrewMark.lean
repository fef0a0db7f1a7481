/- Threads and crews marked, and looked at again. -/
import Derived.Test.YtmifnemjihffkaaRows
import Derived.WalkKit
import Derived.ProofKit
import Derived.OpenShut
import Derived.ShutString
import Derived.Test.YtmifnemjihffkaaThEq
namespace Go.Proofs.Ytmifnemjihffkaa
open Go.ChangeShapes Go.WideShapes Go.ChangeAt Go.RowKit
set_option linter.unusedVariables false

def mkInts (k n : Nat) : List Int := (List.range n).map fun j => ((k + j : Nat) : Int)
theorem mkInts_len (k n : Nat) : (mkInts k n).length = n := by simp [mkInts]
theorem mkInts_at (k n j : Nat) (hj : j < (mkInts k n).length) : (mkInts k n)[j] = ((k + j : Nat) : Int) := by simp [mkInts]
def mkCallZ (K : Int) : Cl := ⟨K, K + 1, K + 1 + 1, K + 1 + 1 + 1, K + 1 + 1 + 1 + 1, K + 1 + 1 + 1 + 1 + 1, K + 1 + 1 + 1 + 1 + 1 + 1, K + 1 + 1 + 1 + 1 + 1 + 1 + 1, K + 1 + 1 + 1 + 1 + 1 + 1 + 1 + 1, ((K + 1 + 1 + 1 + 1 + 1 + 1 + 1 + 1 + 1) % 3 == 0)⟩
def mkCall (k : Nat) : Cl := mkCallZ (k : Int)
theorem mkCall_z (k0 j : Nat) : mkCall (k0 + 10 * j) = mkCallZ ((k0 : Int) + 10 * (j : Int)) := by
  unfold mkCall
  rw [show (((k0 + 10 * j : Nat)) : Int) = (k0 : Int) + 10 * (j : Int) by push_cast; rfl]
def mkCalls (k n : Nat) : List Cl := (List.range n).map fun j => mkCall (k + 10 * j)
theorem mkCalls_len (k n : Nat) : (mkCalls k n).length = n := by simp [mkCalls]
theorem mkCalls_at (k n j : Nat) (hj : j < (mkCalls k n).length) : (mkCalls k n)[j] = mkCall (k + 10 * j) := by simp [mkCalls]
def szM (t : Th) : Nat := 10 * t.cs.length + 1 + t.bs.length + t.es.length
def mkTh (k : Nat) (t : Th) : Th := ⟨mkCalls k t.cs.length, ((k + 10 * t.cs.length : Nat) : Int), mkInts (k + 10 * t.cs.length + 1) t.bs.length, mkInts (k + 10 * t.cs.length + 1 + t.bs.length) t.es.length⟩
def oT (ts : List Th) (k0 : Nat) : Nat → Nat
  | 0 => k0
  | j + 1 => oT ts k0 j + szM (ts.getD j default)
def mkThs (k0 : Nat) (ts : List Th) : List Th := (List.range ts.length).map fun j => mkTh (oT ts k0 j) (ts.getD j default)
theorem mkThs_len (k0 : Nat) (ts : List Th) : (mkThs k0 ts).length = ts.length := by simp [mkThs]
theorem mkThs_at (k0 : Nat) (ts : List Th) (j : Nat) (hj : j < (mkThs k0 ts).length) (h : j < ts.length) : (mkThs k0 ts)[j] = mkTh (oT ts k0 j) ts[j] := by
  simp [mkThs, h]
theorem oT_step (ts : List Th) (k0 k : Nat) (h : k < ts.length) : oT ts k0 (k + 1) = oT ts k0 k + szM ts[k] := by
  show oT ts k0 k + szM (ts.getD k default) = _
  rw [getD_at ts k h]
theorem oT_mono (ts : List Th) (k0 : Nat) {a b : Nat} (h : a ≤ b) : oT ts k0 a ≤ oT ts k0 b := by
  induction b with
  | zero => obtain rfl : a = 0 := by omega
            exact Nat.le_refl _
  | succ b ih =>
    by_cases e : a = b + 1
    · subst e; exact Nat.le_refl _
    · exact Nat.le_trans (ih (by omega)) (Nat.le_add_right _ _)
def mkCw (k : Nat) (C : Cw) : Cw := ⟨C.what, C.size, mkInts k C.m.length, mkThs (k + C.m.length) C.ts, C.clock⟩
def endM (k : Nat) (C : Cw) : Nat := oT C.ts (k + C.m.length) C.ts.length

set_option maxHeartbeats 800000 in
set_option maxRecDepth 100000 in
theorem mark_ints_some (g c n k0 : Nat) (w : World) (hn : n ≤ 4194304) (h2 : k0 ≤ 1073741824) (hg : g < w.heap.size)
    (hA : ∀ j, j < n → ∃ x, w.cell? ⟨g, j, none⟩ = some x) (hF : ∀ j, w.frozen? ⟨g, j, none⟩ = false) :
    Calls Try.prog 22 #[.slice (some ⟨g, 0, none⟩) n c, .int .i64 k0] w fun e w' => e = .returned (.int .i64 ((k0 + n : Nat) : Int)) ∧
      (∀ j, j < n → w'.cell? ⟨g, j, none⟩ = some (.int .i64 ((k0 + j : Nat) : Int))) ∧ (∀ j, w'.frozen? ⟨g, j, none⟩ = false) ∧ Kp [g] w w' := by
  have HA : Hid _ := hA
  have HF : Hid _ := hF
  clear hA hF
  go_enter Try.func22, Try.ntmps22
  go_wp2
  go_loopw [5, 1] (fun i kk wr => ∃ k : Nat, k ≤ n ∧ i = .int .i64 k ∧ kk = .int .i64 ((k0 + k : Nat) : Int) ∧ g < wr.heap.size ∧ Kp [g] w wr ∧ Hid ((∀ j, j < k → wr.cell? ⟨g, j, none⟩ = some (.int .i64 ((k0 + j : Nat) : Int))) ∧ (∀ j, k ≤ j → j < n → ∃ x, wr.cell? ⟨g, j, none⟩ = some x) ∧ ∀ j, wr.frozen? ⟨g, j, none⟩ = false)) (fun i _ _ => n - (intOf i).toNat)
  case atStart => exact ⟨0, Nat.zero_le _, rfl, rfl, hg, Kp.refl _ _, ⟨fun j hj => by omega, fun j _ hj => HA.out j hj, HF.out⟩⟩
  case round =>
    obtain ⟨k, hk, rfl, rfl, hgr, hb, HS⟩ := hrel
    by_cases hlt : k < n
    · obtain ⟨x, hx⟩ := HS.out.2.1 k (Nat.le_refl _) hlt
      have hz := HS.out.2.2 k
      have hlt' : (k : Int) < (n : Int) := by omega
      go_wp2
      go_roundw
      case rel =>
        refine ⟨k + 1, by omega, by go_num, by go_num, by simp; omega, hb.setCell (.inl (by simp)), ⟨fun j hj => ?_, fun j hj1 hj2 => ?_, fun j => ?_⟩⟩
        · by_cases ej : j = k
          · subst ej; refine (World.cell?_setCell_same _ _ _ hx).trans ?_; simp
          · rw [World.cell?_setCell_other _ _ _ _ (by simp <;> omega)]; exact HS.out.1 j (by omega)
        · rw [World.cell?_setCell_other _ _ _ _ (by simp <;> omega)]; exact HS.out.2.1 j (by omega) hj2
        · rw [World.frozen?_setCell]; exact HS.out.2.2 j
      case measure => simp [intOf]; omega
    · have HK : Hid (k = n) := (by omega : k = n)
      go_wp2
      go_ret
      exact ⟨ret_ints (by rw [HK.out]), by rw [← HK.out]; exact HS.out.1, HS.out.2.2, hb⟩
theorem mark_ints (w : World) (v : Value) (xs : List Int) (fp : List Nat) (k0 : Nat) (hn : xs.length ≤ 4194304) (h2 : k0 ≤ 1073741824) (h : IntsO w v xs fp) :
    Calls Try.prog 22 #[v, .int .i64 k0] w fun e w' => e = .returned (.int .i64 ((k0 + xs.length : Nat) : Int)) ∧ IntsO w' v (mkInts k0 xs.length) fp ∧ Kp fp w w' := by
  obtain ⟨a, cap, rfl, hc, h⟩ := h
  by_cases h0 : 0 < xs.length
  · rcases h with ⟨rfl, -⟩ | ⟨g, rfl, rfl, g1, g2, g3⟩
    · exact absurd h0 (by simp)
    · refine (mark_ints_some g cap xs.length k0 w hn h2 g1 (fun j hj => ⟨_, g2 j hj⟩) g3).mono ?_
      rintro e w' ⟨rfl, m1, m2, m3⟩
      exact ⟨rfl, ⟨_, cap, by rw [mkInts_len], trivial, .inr ⟨g, rfl, rfl, Nat.lt_of_lt_of_le g1 m3.size, fun j hj => by rw [m1 j (by rw [mkInts_len] at hj; exact hj), mkInts_at], m2⟩⟩, m3⟩
  · obtain rfl := len_zero h0
    rcases h with ⟨-, rfl⟩ | ⟨g, rfl, rfl, g1, g2, g3⟩
    · refine (mark_int_zero a cap k0 w).mono ?_
      rintro e w' ⟨rfl, rfl⟩
      exact ⟨rfl, ⟨a, cap, rfl, hc, .inl ⟨rfl, rfl⟩⟩, Kp.refl _ _⟩
    · refine (mark_int_zero _ cap k0 w).mono ?_
      rintro e w' ⟨rfl, rfl⟩
      exact ⟨rfl, ⟨_, cap, rfl, hc, .inr ⟨g, rfl, rfl, g1, fun j hj => by simp [mkInts] at hj, g3⟩⟩, Kp.refl _ _⟩
set_option maxHeartbeats 800000 in
set_option maxRecDepth 100000 in
theorem held_ints_some (g c n k0 : Nat) (w : World) (hn : n ≤ 4194304) (h2 : k0 ≤ 1073741824)
    (hA : ∀ j, j < n → w.cell? ⟨g, j, none⟩ = some (.int .i64 ((k0 + j : Nat) : Int))) :
    Calls Try.prog 23 #[.slice (some ⟨g, 0, none⟩) n c, .int .i64 k0] w fun e w' => e = .returned (.int .i64 ((k0 + n : Nat) : Int)) ∧ w' = w := by
  have HA : Hid _ := hA
  clear hA
  go_enter Try.func23, Try.ntmps23
  go_wp2
  go_loop [5, 1] (fun i kk => ∃ k : Nat, k ≤ n ∧ i = .int .i64 k ∧ kk = .int .i64 ((k0 + k : Nat) : Int)) (fun i _ => n - (intOf i).toNat)
  case atStart => exact ⟨0, Nat.zero_le _, rfl, rfl⟩
  case round =>
    obtain ⟨k, hk, rfl, rfl⟩ := hrel
    by_cases hlt : k < n
    · have hx := HA.out k hlt
      have hlt' : (k : Int) < (n : Int) := by omega
      go_wp2
      go_round
      case rel => exact ⟨k + 1, by omega, by go_num, by go_num⟩
      case measure => simp [intOf]; omega
    · have HK : Hid (k = n) := (by omega : k = n)
      go_wp2
      go_ret
      exact ⟨ret_ints (by rw [HK.out]), rfl⟩
theorem held_ints (w : World) (v : Value) (n k0 : Nat) (fp : List Nat) (hn : n ≤ 4194304) (h2 : k0 ≤ 1073741824) (h : IntsO w v (mkInts k0 n) fp) :
    Calls Try.prog 23 #[v, .int .i64 k0] w fun e w' => e = .returned (.int .i64 ((k0 + n : Nat) : Int)) ∧ w' = w := by
  obtain ⟨a, cap, rfl, hc, h⟩ := h
  rw [mkInts_len]
  by_cases h0 : 0 < n
  · rcases h with ⟨h, -⟩ | ⟨g, rfl, rfl, g1, g2, g3⟩
    · exact absurd (congrArg List.length h) (by rw [mkInts_len]; simp; omega)
    · exact held_ints_some g cap n k0 w hn h2 (fun j hj => by rw [g2 j (by rw [mkInts_len]; exact hj), mkInts_at])
  · obtain rfl : n = 0 := by omega
    exact held_int_zero a cap k0 w
theorem mark_calls_zero (a : Option Addr) (c k0 : Nat) (w : World) :
    Calls Try.prog 58 #[.slice a 0 c, .int .i64 k0] w fun e w' => e = .returned (.int .i64 k0) ∧ w' = w := by
  go_enter Try.func58, Try.ntmps58
  go_wp2
  go_loop [5, 1] (fun i k => i = .int .i64 0 ∧ k = .int .i64 k0) (fun _ _ => 0)
  case atStart => exact ⟨rfl, rfl⟩
  case round =>
    obtain ⟨rfl, rfl⟩ := hrel
    go_wp2
    go_ret
    exact ⟨rfl, rfl⟩
theorem At10.eqv {W : World} {b o : Nat} {c c' : Cl} (h : At10 W b o c) (e : c = c') : At10 W b o c' := e ▸ h
set_option maxHeartbeats 1600000 in
set_option maxRecDepth 100000 in
theorem mark_calls_some (g c n k0 : Nat) (w : World) (hn : n ≤ 4194304) (h2 : k0 ≤ 1073741824) (hg : g < w.heap.size)
    (hA : ∀ j, j < n * 10 → ∃ x, w.cell? ⟨g, j, none⟩ = some x) (hF : ∀ j, w.frozen? ⟨g, j, none⟩ = false) :
    Calls Try.prog 58 #[.slice (some ⟨g, 0, none⟩) n c, .int .i64 k0] w fun e w' => e = .returned (.int .i64 ((k0 + 10 * n : Nat) : Int)) ∧
      (∀ j, j < n → At10 w' g (j * 10) (mkCall (k0 + 10 * j))) ∧ (∀ j, w'.frozen? ⟨g, j, none⟩ = false) ∧ Kp [g] w w' := by
  have HA : Hid _ := hA
  have HF : Hid _ := hF
  clear hA hF
  go_enter Try.func58, Try.ntmps58
  go_wp2
  go_loopw [5, 1] (fun i kk wr => ∃ k : Nat, k ≤ n ∧ i = .int .i64 k ∧ kk = .int .i64 ((k0 + 10 * k : Nat) : Int) ∧ g < wr.heap.size ∧ Kp [g] w wr ∧ Hid ((∀ j, j < k → At10 wr g (j * 10) (mkCall (k0 + 10 * j))) ∧ (∀ j, k * 10 ≤ j → j < n * 10 → ∃ x, wr.cell? ⟨g, j, none⟩ = some x) ∧ ∀ j, wr.frozen? ⟨g, j, none⟩ = false)) (fun i _ _ => n - (intOf i).toNat)
  case atStart => exact ⟨0, Nat.zero_le _, rfl, rfl, hg, Kp.refl _ _, ⟨fun j hj => by omega, fun j _ hj => HA.out j hj, HF.out⟩⟩
  case round =>
    obtain ⟨k, hk, rfl, rfl, hgr, hb, HS⟩ := hrel
    by_cases hlt : k < n
    · have hx : ∀ i, i < 10 → ∃ z, wr.cell? ⟨g, k * 10 + i, none⟩ = some z := fun i hi => HS.out.2.1 (k * 10 + i) (by omega) (by omega)
      obtain ⟨x0, c0⟩ := hx 0 (by omega)
      obtain ⟨x1, c1⟩ := hx 1 (by omega)
      obtain ⟨x2, c2⟩ := hx 2 (by omega)
      obtain ⟨x3, c3⟩ := hx 3 (by omega)
      obtain ⟨x4, c4⟩ := hx 4 (by omega)
      obtain ⟨x5, c5⟩ := hx 5 (by omega)
      obtain ⟨x6, c6⟩ := hx 6 (by omega)
      obtain ⟨x7, c7⟩ := hx 7 (by omega)
      obtain ⟨x8, c8⟩ := hx 8 (by omega)
      obtain ⟨x9, c9⟩ := hx 9 (by omega)
      rw [Nat.add_zero] at c0
      have HX := hidIt hx
      have hz : ∀ j, wr.frozen? ⟨g, j, none⟩ = false := HS.out.2.2
      have hlt' : (k : Int) < (n : Int) := by omega
      clear hx
      go_wp2
      go_roundw
      case rel =>
        have hsz : g < (put10 wr g (k * 10) (mkCallZ ((k0 : Int) + 10 * (k : Int)))).heap.size := by rw [put10_size]; exact hgr
        have hkp := put10_kp [g] w wr g (k * 10) (mkCallZ ((k0 : Int) + 10 * (k : Int))) hb (.inl (by simp))
        have hat : ∀ j, j < k + 1 → At10 (put10 wr g (k * 10) (mkCallZ ((k0 : Int) + 10 * (k : Int)))) g (j * 10) (mkCall (k0 + 10 * j)) := fun j hj => by
          by_cases ej : j = k
          · subst ej
            rw [mkCall_z]
            exact put10_same wr g (j * 10) _ HX.out
          · exact put10_at wr g (k * 10) _ _ _ _ (HS.out.1 j (by omega)) (by omega)
        have hex : ∀ j, (k + 1) * 10 ≤ j → j < n * 10 → ∃ x, (put10 wr g (k * 10) (mkCallZ ((k0 : Int) + 10 * (k : Int)))).cell? ⟨g, j, none⟩ = some x := fun j hj1 hj2 => by
          obtain ⟨z, hz⟩ := HS.out.2.1 j (by omega) hj2
          exact ⟨z, (put10_other wr g (k * 10) _ g j (by omega)).trans hz⟩
        have hfz : ∀ j, (put10 wr g (k * 10) (mkCallZ ((k0 : Int) + 10 * (k : Int)))).frozen? ⟨g, j, none⟩ = false := fun j => (put10_frozen wr g (k * 10) _ g j).trans (HS.out.2.2 j)
        exact ⟨k + 1, by omega, by go_num, by go_num, hsz, hkp, hat, hex, hfz⟩
      case measure => simp [intOf]; omega
    · have HK : Hid (k = n) := (by omega : k = n)
      go_wp2
      go_ret
      exact ⟨ret_ints (by rw [HK.out]), by rw [← HK.out]; exact HS.out.1, HS.out.2.2, hb⟩

theorem mark_calls (w : World) (v : Value) (xs : List Cl) (fp : List Nat) (k0 : Nat) (hn : xs.length ≤ 4194304) (h2 : k0 ≤ 1073741824) (h : CallsO w v xs fp) :
    Calls Try.prog 58 #[v, .int .i64 k0] w fun e w' => e = .returned (.int .i64 ((k0 + 10 * xs.length : Nat) : Int)) ∧ CallsO w' v (mkCalls k0 xs.length) fp ∧ Kp fp w w' := by
  obtain ⟨a, cap, rfl, hc, h⟩ := h
  by_cases h0 : 0 < xs.length
  · rcases h with ⟨rfl, -⟩ | ⟨g, rfl, rfl, g1, g2, g3⟩
    · exact absurd h0 (by simp)
    · refine (mark_calls_some g cap xs.length k0 w hn h2 g1 (fun j hj => ?_) g3).mono ?_
      · obtain ⟨q, r, hr, rfl⟩ : ∃ q r, r < 10 ∧ j = q * 10 + r := ⟨j / 10, j % 10, by omega, by omega⟩
        obtain ⟨m0, m1, m2, m3, m4, m5, m6, m7, m8, m9⟩ := g2 q (by omega)
        match r, hr with
        | 0, _ => exact ⟨_, m0⟩
        | 1, _ => exact ⟨_, m1⟩
        | 2, _ => exact ⟨_, m2⟩
        | 3, _ => exact ⟨_, m3⟩
        | 4, _ => exact ⟨_, m4⟩
        | 5, _ => exact ⟨_, m5⟩
        | 6, _ => exact ⟨_, m6⟩
        | 7, _ => exact ⟨_, m7⟩
        | 8, _ => exact ⟨_, m8⟩
        | 9, _ => exact ⟨_, m9⟩
      · rintro e w' ⟨rfl, m1, m2, m3⟩
        exact ⟨rfl, ⟨_, cap, by rw [mkCalls_len], by rw [mkCalls_len]; exact hc, .inr ⟨g, rfl, rfl, Nat.lt_of_lt_of_le g1 m3.size, fun j hj => by rw [mkCalls_at]; exact m1 j (by rw [mkCalls_len] at hj; exact hj), m2⟩⟩, m3⟩
  · obtain rfl := len_zero h0
    rcases h with ⟨-, rfl⟩ | ⟨g, rfl, rfl, g1, g2, g3⟩
    · refine (mark_calls_zero a cap k0 w).mono ?_
      rintro e w' ⟨rfl, rfl⟩
      exact ⟨rfl, ⟨a, cap, rfl, hc, .inl ⟨rfl, rfl⟩⟩, Kp.refl _ _⟩
    · refine (mark_calls_zero _ cap k0 w).mono ?_
      rintro e w' ⟨rfl, rfl⟩
      exact ⟨rfl, ⟨_, cap, rfl, hc, .inr ⟨g, rfl, rfl, g1, fun j hj => by simp [mkCalls] at hj, g3⟩⟩, Kp.refl _ _⟩
theorem flat_last (n : Nat) (f : Nat → List Nat) : (List.range (n + 1)).flatMap f = (List.range n).flatMap f ++ f n := by
  rw [List.range_succ, List.flatMap_append]
  simp
theorem flat_mem {n : Nat} {f : Nat → List Nat} {j x : Nat} (hj : j < n) (hx : x ∈ f j) : x ∈ (List.range n).flatMap f := List.mem_flatMap.2 ⟨j, List.mem_range.2 hj, hx⟩
theorem flat_apart (n : Nat) (f : Nat → List Nat) (h : ((List.range n).flatMap f).Nodup) : (∀ j, j < n → (f j).Nodup) ∧ ∀ i j, i < n → j < n → i ≠ j → ∀ x ∈ f i, ¬ x ∈ f j := by
  induction n with
  | zero => exact ⟨fun j hj => by omega, fun i j hi => by omega⟩
  | succ n ih =>
    rw [flat_last, List.nodup_append] at h
    obtain ⟨h1, h2, h3⟩ := h
    obtain ⟨i1, i2⟩ := ih h1
    refine ⟨fun j hj => ?_, fun i j hi hj hn x hx hm => ?_⟩
    · by_cases e : j = n
      · subst e; exact h2
      · exact i1 j (by omega)
    · by_cases e : j = n
      · subst e; exact h3 x (flat_mem (by omega) hx) x hm rfl
      · by_cases e2 : i = n
        · subst e2; exact h3 x (flat_mem (by omega) hm) x hx rfl
        · exact i2 i j (by omega) (by omega) hn x hx hm
/- the threads in block g are f 0, f 1, .. -/
def TsAt (w : World) (g n : Nat) (fps : Nat → List Nat) (f : Nat → Th) : Prop := ∀ j, j < n → ∃ v0 v2 v3, At4 w g (j * 4) v0 (.int .i64 (f j).at_) v2 v3 ∧ ThO w v0 v2 v3 (f j) (fps j)
def mkTo (ts : List Th) (k0 k : Nat) (j : Nat) : Th := if j < k then mkTh (oT ts k0 j) (ts.getD j default) else ts.getD j default
theorem Kp.at4 {bs : List Nat} {w w' : World} {g o : Nat} {v0 v1 v2 v3 : Value} (h : Kp bs w w') (a : At4 w g o v0 v1 v2 v3) (hg : g < w.heap.size) (hn : ¬ g ∈ bs) : At4 w' g o v0 v1 v2 v3 := a.of (cells_of_block (h.block g hg hn))
theorem Kp.tho {bs : List Nat} {w w' : World} {v0 v2 v3 : Value} {t : Th} {fp : List Nat} (h : Kp bs w w') (a : ThO w v0 v2 v3 t fp) (hn : ∀ x ∈ fp, ¬ x ∈ bs) : ThO w' v0 v2 v3 t fp := a.loc' (fun x hx => h.block x (a.lt x hx) (hn x hx))
theorem Kp.calls {bs : List Nat} {w w' : World} {v : Value} {t : List Cl} {fp : List Nat} (h : Kp bs w w') (a : CallsO w v t fp) (hn : ∀ x ∈ fp, ¬ x ∈ bs) : CallsO w' v t fp := a.loc' (fun x hx => h.block x (a.lt x hx) (hn x hx))
theorem Kp.ints {bs : List Nat} {w w' : World} {v : Value} {t : List Int} {fp : List Nat} (h : Kp bs w w') (a : IntsO w v t fp) (hn : ∀ x ∈ fp, ¬ x ∈ bs) : IntsO w' v t fp := a.loc' (fun x hx => h.block x (a.lt x hx) (hn x hx))
theorem Kp.ths {bs : List Nat} {w w' : World} {v : Value} {t : List Th} {fp : List Nat} (h : Kp bs w w') (a : ThsO w v t fp) (hn : ∀ x ∈ fp, ¬ x ∈ bs) : ThsO w' v t fp := a.loc' (fun x hx => h.block x (a.lt x hx) (hn x hx))
theorem mkCalls_form (v : Value) (w : World) (k n : Nat) (fp : List Nat) (h : CallsO w v (mkCalls k n) fp) : ∃ a c, v = .slice a n c := by
  obtain ⟨a, c, e, -⟩ := h
  exact ⟨a, c, by rw [e, mkCalls_len]⟩
theorem oT_end_le (ts : List Th) (k0 : Nat) (hk : k0 ≤ 1073741824) (h : oT ts k0 ts.length ≤ 1073741824) (k : Nat) (hk : k ≤ ts.length) : oT ts k0 k ≤ 1073741824 := Nat.le_trans (oT_mono ts k0 hk) h
set_option maxHeartbeats 1600000 in
set_option maxRecDepth 100000 in
theorem mark_ths_some (g c k0 : Nat) (ts : List Th) (fps : Nat → List Nat) (w : World) (hn : ts.length ≤ 4194304) (hf : TsFit ts) (h2 : oT ts k0 ts.length ≤ 1073741824) (hg : g < w.heap.size)
    (hA : TsAt w g ts.length fps (fun j => ts.getD j default)) (hF : ∀ j, w.frozen? ⟨g, j, none⟩ = false) (hN : (g :: (List.range ts.length).flatMap fps).Nodup) :
    Calls Try.prog 40 #[.slice (some ⟨g, 0, none⟩) ts.length c, .int .i64 k0] w fun e w' => e = .returned (.int .i64 ((oT ts k0 ts.length : Nat) : Int)) ∧
      TsAt w' g ts.length fps (mkTo ts k0 ts.length) ∧ (∀ j, w'.frozen? ⟨g, j, none⟩ = false) ∧ Kp (g :: (List.range ts.length).flatMap fps) w w' := by
  have HA := hidIt hA
  have HF := hidIt hF
  have HFT := hidIt hf
  have hNg : ∀ j, j < ts.length → ¬ g ∈ fps j := fun j hj hm => (List.nodup_cons.1 hN).1 (flat_mem hj hm)
  have HNG := hidIt hNg
  have HAP := hidIt (flat_apart _ _ (List.nodup_cons.1 hN).2)
  clear hA hF hf hN hNg
  go_enter Try.func40, Try.ntmps40
  go_wp2
  go_loopw [5, 1] (fun i kk wr => ∃ k : Nat, k ≤ ts.length ∧ i = .int .i64 k ∧ kk = .int .i64 ((oT ts k0 k : Nat) : Int) ∧ g < wr.heap.size ∧ Kp (g :: (List.range ts.length).flatMap fps) w wr ∧ Hid (TsAt wr g ts.length fps (mkTo ts k0 k) ∧ ∀ j, wr.frozen? ⟨g, j, none⟩ = false)) (fun i _ _ => ts.length - (intOf i).toNat)
  case atStart => exact ⟨0, Nat.zero_le _, rfl, rfl, hg, Kp.refl _ _, ⟨fun j hj => by rw [show mkTo ts k0 0 j = ts.getD j default from if_neg (by omega)]; exact HA.out j hj, HF.out⟩⟩
  case round =>
    obtain ⟨k, hk, rfl, rfl, hgr, hb, HS⟩ := hrel
    by_cases hlt : k < ts.length
    · have hlt' : (k : Int) < (ts.length : Int) := by omega
      obtain ⟨v0, v2, v3, h4, h5⟩ := HS.out.1 k hlt
      rw [show mkTo ts k0 k k = ts.getD k default from if_neg (by omega), getD_at ts k hlt] at h4 h5
      obtain ⟨q1, q2, q3⟩ := HFT.out k hlt
      have HST := hidIt (oT_step ts k0 k hlt)
      have hK : oT ts k0 k ≤ 1073741824 := Nat.le_trans (oT_mono ts k0 (show k ≤ ts.length by omega)) h2
      have hK1 : oT ts k0 (k + 1) ≤ 1073741824 := Nat.le_trans (oT_mono ts k0 (show k + 1 ≤ ts.length by omega)) h2
      rw [oT_step ts k0 k hlt] at hK1
      have HMT := hidIt (show mkTo ts k0 (k + 1) k = mkTh (oT ts k0 k) ts[k] by unfold mkTo; rw [if_pos (by omega), getD_at ts k hlt])
      obtain ⟨f0, f2, f3, hfp, o0, o2, o3⟩ := h5
      have H4 := hidIt h4
      obtain ⟨r0, r1, r2, r3⟩ := h4
      have hgf : ¬ g ∈ f0 ∧ ¬ g ∈ f2 ∧ ¬ g ∈ f3 := by
        have := HNG.out k hlt
        rw [hfp] at this
        simp only [List.mem_append, not_or] at this
        exact this
      have hdis := HAP.out.1 k hlt
      rw [hfp, List.nodup_append] at hdis
      obtain ⟨nd0, nd23, d0⟩ := hdis
      rw [List.nodup_append] at nd23
      obtain ⟨nd2, nd3, d23⟩ := nd23
      have HD := hidIt (And.intro hgf (And.intro (show ∀ x ∈ f0, ¬ x ∈ f2 ∧ ¬ x ∈ f3 from fun x hx => ⟨fun hm => d0 x hx x (by simp [hm]) rfl, fun hm => d0 x hx x (by simp [hm]) rfl⟩) (show ∀ x ∈ f2, ¬ x ∈ f3 from fun x hx hm => d23 x hx x hm rfl)))
      have HFP := hidIt hfp
      clear hgf nd0 nd2 nd3 d0 d23 hfp
      generalize ts[k] = y at *
      generalize oT ts k0 k = K0 at *
      have hy : szM y = 10 * y.cs.length + 1 + y.bs.length + y.es.length := rfl
      rw [hy] at hK1
      have HY := hidIt hy
      clear hy
      have O2 := hidIt o2
      have O3 := hidIt o3
      obtain ⟨a0, m0, rfl, -⟩ := o0.rd.form
      obtain ⟨a2, m2, rfl, -⟩ := o2.rd.form
      obtain ⟨a3, m3, rfl, -⟩ := o3.rd.form
      clear o2 o3
      go_wp2_with fail
      refine (mark_calls wr _ y.cs f0 K0 q1 (by omega) o0).mono ?_
      rintro e w1 ⟨rfl, p0, kp1⟩
      have P0 := hidIt p0
      have KP1 := hidIt kp1
      have z1 := kp1.size
      have fr : ∀ j, w1.frozen? ⟨g, j, none⟩ = false := fun j => kp1.frozen hgr HD.out.1.1 (HS.out.2 j)
      have H41 := hidIt (kp1.at4 H4.out hgr HD.out.1.1)
      have e1 := H41.out.2.1
      have e2 := H41.out.2.2.1
      have e3 := H41.out.2.2.2
      clear p0 kp1 r0 r1 r2 r3 o0
      go_wp2_with fail
      clear e1 e2 e3
      rw [show ((K0 : Int) + 10 * (y.cs.length : Int) + 1) = ((K0 + 10 * y.cs.length + 1 : Nat) : Int) by push_cast; rfl]
      generalize hW : World.setCell w1 _ _ = W1
      have Z : At4 W1 g (k * 4) (.slice a0 y.cs.length m0) (.int .i64 ((K0 + 10 * y.cs.length : Nat) : Int)) (.slice a2 y.bs.length m2) (.slice a3 y.es.length m3) ∧ (∀ j, j ≠ k → ∀ x0 x1 x2 x3, At4 w1 g (j * 4) x0 x1 x2 x3 → At4 W1 g (j * 4) x0 x1 x2 x3) ∧ (∀ b, b ≠ g → W1.heap[b]? = w1.heap[b]?) ∧ W1.heap.size = w1.heap.size ∧ Kp [g] w1 W1 ∧ ∀ j, W1.frozen? ⟨g, j, none⟩ = false := by
        rw [← hW]
        obtain ⟨s0, s1, s2, s3⟩ := H41.out
        refine ⟨⟨?_, ?_, ?_, ?_⟩, fun j hj x0 x1 x2 x3 h => ?_, fun b hb => Below.heap_setCell _ _ _ _ hb, by simp, (Kp.refl _ _).setCell (.inl (by simp)), fun j => by rw [World.frozen?_setCell]; exact fr j⟩
        · rw [World.cell?_setCell_other _ _ _ _ (by simp)]; exact s0
        · refine (World.cell?_setCell_same _ _ _ s1).trans ?_; simp
        · rw [World.cell?_setCell_other _ _ _ _ (by simp)]; exact s2
        · rw [World.cell?_setCell_other _ _ _ _ (by simp)]; exact s3
        · obtain ⟨t0, t1, t2, t3⟩ := h
          refine ⟨?_, ?_, ?_, ?_⟩
          · rw [World.cell?_setCell_other _ _ _ _ (by simp <;> omega)]; exact t0
          · rw [World.cell?_setCell_other _ _ _ _ (by simp <;> omega)]; exact t1
          · rw [World.cell?_setCell_other _ _ _ _ (by simp <;> omega)]; exact t2
          · rw [World.cell?_setCell_other _ _ _ _ (by simp <;> omega)]; exact t3
      clear hW fr H41
      obtain ⟨H4W, HJ, HB, zW, kpW, fr⟩ := Z
      have HJ' := hidIt HJ
      have HB' := hidIt HB
      have KPW := hidIt kpW
      clear HJ HB kpW
      have hgne : ∀ x, x ∈ f0 ∨ x ∈ f2 ∨ x ∈ f3 → x ≠ g := fun x hx e => by
        subst e
        rcases hx with hx | hx | hx
        · exact HD.out.1.1 hx
        · exact HD.out.1.2.1 hx
        · exact HD.out.1.2.2 hx
      have HGN := hidIt hgne
      have o2W : IntsO W1 (.slice a2 y.bs.length m2) y.bs f2 := (KP1.out.ints O2.out (fun x hx hm => (HD.out.2.1 x hm).1 hx)).loc' (fun x hx => HB'.out x (HGN.out x (.inr (.inl hx))))
      have O3W := hidIt (show IntsO W1 (.slice a3 y.es.length m3) y.es f3 from (KP1.out.ints O3.out (fun x hx hm => (HD.out.2.1 x hm).2 hx)).loc' (fun x hx => HB'.out x (HGN.out x (.inr (.inr hx)))))
      have P0W := hidIt (show CallsO W1 (.slice a0 y.cs.length m0) (mkCalls K0 y.cs.length) f0 from P0.out.loc' (fun x hx => HB'.out x (HGN.out x (.inl hx))))
      clear hgne P0
      refine (mark_ints W1 _ y.bs f2 (K0 + 10 * y.cs.length + 1) q2 (by omega) o2W).mono ?_
      rintro e w2 ⟨rfl, p2, kp2⟩
      have P2 := hidIt p2
      have KP2 := hidIt kp2
      have z2 := kp2.size
      have hgW : g < W1.heap.size := by omega
      have fr2 : ∀ j, w2.frozen? ⟨g, j, none⟩ = false := fun j => kp2.frozen hgW HD.out.1.2.1 (fr j)
      have H42 := hidIt (kp2.at4 H4W hgW HD.out.1.2.1)
      have e3 := H42.out.2.2.2
      have O32 := hidIt (kp2.ints O3W.out (fun x hx hm => HD.out.2.2 x hm hx))
      have P02 := hidIt (kp2.calls P0W.out (fun x hx hm => (HD.out.2.1 x hx).1 hm))
      clear p2 kp2 fr H4W o2W
      go_wp2_with fail
      refine (mark_ints w2 _ y.es f3 (K0 + 10 * y.cs.length + 1 + y.bs.length) q3 (by omega) O32.out).mono ?_
      rintro e w3 ⟨rfl, p3, kp3⟩
      have P3 := hidIt p3
      have KP3 := hidIt kp3
      have z3 := kp3.size
      have hg2 : g < w2.heap.size := by omega
      have H43 := hidIt (kp3.at4 H42.out hg2 HD.out.1.2.2)
      have FR3 := hidIt (show ∀ j, w3.frozen? ⟨g, j, none⟩ = false from fun j => kp3.frozen hg2 HD.out.1.2.2 (fr2 j))
      have P03 := hidIt (kp3.calls P02.out (fun x hx hm => (HD.out.2.1 x hx).2 hm))
      have P23 := hidIt (kp3.ints P2.out (fun x hx hm => HD.out.2.2 x hx hm))
      clear p3 kp3 e3 fr2
      go_wp2
      go_roundw
      case rel =>
        have sub : ∀ x, x ∈ f0 ∨ x ∈ f2 ∨ x ∈ f3 → x ∈ g :: (List.range ts.length).flatMap fps := fun x hx => List.mem_cons_of_mem _ (flat_mem hlt (by rw [HFP.out]; simp; exact hx))
        have kpa : Kp (g :: (List.range ts.length).flatMap fps) w w3 := (((hb.trans (KP1.out.more (fun x hx => .inl (sub x (.inl hx))))).trans (KPW.out.more (fun x hx => .inl (by simp at hx; subst hx; exact List.mem_cons_self ..)))).trans (KP2.out.more (fun x hx => .inl (sub x (.inr (.inl hx)))))).trans (KP3.out.more (fun x hx => .inl (sub x (.inr (.inr hx)))))
        refine ⟨k + 1, by omega, by go_num, ?_, by omega, kpa, ⟨fun j hj => ?_, FR3.out⟩⟩
        · rw [HST.out, HY.out]; go_num
        · by_cases ej : j = k
          · subst ej
            rw [HMT.out]
            exact ⟨_, _, _, H43.out, f0, f2, f3, HFP.out, P03.out, P23.out, P3.out⟩
          · obtain ⟨u0, u2, u3, b4, b5⟩ := HS.out.1 j hj
            have hne : mkTo ts k0 (k + 1) j = mkTo ts k0 k j := by unfold mkTo; by_cases h : j < k; rw [if_pos h, if_pos (by omega)]; rw [if_neg h, if_neg (by omega)]
            rw [hne]
            have dj : ∀ x ∈ fps j, (¬ x ∈ f0) ∧ (¬ x ∈ f2) ∧ (¬ x ∈ f3) ∧ x ≠ g := fun x hx => by
              have h1 := HAP.out.2 j k hj hlt ej x hx
              rw [HFP.out] at h1
              simp only [List.mem_append, not_or] at h1
              exact ⟨h1.1, h1.2.1, h1.2.2, fun e => HNG.out j hj (e ▸ hx)⟩
            refine ⟨u0, u2, u3, ?_, ?_⟩
            · exact KP3.out.at4 (KP2.out.at4 (HJ'.out j ej _ _ _ _ (KP1.out.at4 b4 hgr HD.out.1.1)) hgW HD.out.1.2.1) hg2 HD.out.1.2.2
            · exact KP3.out.tho (KP2.out.tho ((KP1.out.tho b5 (fun x hx => (dj x hx).1)).loc' (fun x hx => HB'.out x (dj x hx).2.2.2)) (fun x hx => (dj x hx).2.1)) (fun x hx => (dj x hx).2.2.1)
      case measure => simp [intOf]; omega
    · have HK : Hid (k = ts.length) := (by omega : k = ts.length)
      go_wp2
      go_ret
      exact ⟨ret_ints (by rw [HK.out]), by have := HS.out.1; rw [HK.out] at this; exact this, HS.out.2, hb⟩

end Go.Proofs.Ytmifnemjihffkaa
