/- Threads and crews marked, and looked at again. -/
import Derived.Test.YtijmjpjclhgaoaaRows
import Derived.WalkKit
import Derived.ProofKit
import Derived.OpenShut
import Derived.ShutString
import Derived.Test.YtijmjpjclhgaoaaThEq
namespace Go.Proofs.Ytijmjpjclhgaoaa
open Go.ChangeShapes Go.WideShapes Go.ChangeAt Go.RowKit
set_option linter.unusedVariables false

def mkInts (k n : Nat) : List Int := (List.range n).map fun j => ((k + j : Nat) : Int)
theorem mkInts_len (k n : Nat) : (mkInts k n).length = n := by simp [mkInts]
theorem mkInts_at (k n j : Nat) (hj : j < (mkInts k n).length) : (mkInts k n)[j] = ((k + j : Nat) : Int) := by simp [mkInts]
def mkCallZ (K : Int) : Cl := ⟨K, K + 1, K + 1 + 1, K + 1 + 1 + 1, K + 1 + 1 + 1 + 1, K + 1 + 1 + 1 + 1 + 1, K + 1 + 1 + 1 + 1 + 1 + 1, K + 1 + 1 + 1 + 1 + 1 + 1 + 1, K + 1 + 1 + 1 + 1 + 1 + 1 + 1 + 1, ((K + 1 + 1 + 1 + 1 + 1 + 1 + 1 + 1 + 1) % 3 == 0)⟩
def mkCall (k : Nat) : Cl := mkCallZ (k : Int)
theorem mkCall_z (k0 j : Nat) : mkCall (k0 + 10 * j) = mkCallZ ((k0 : Int) + 10 * (j : Int)) := by
  unfold mkCall
  rw [show (((k0 + 10 * j : Nat)) : Int) = (k0 : Int) + 10 * (j : Int) by push_cast; rfl]
def mkCalls (k n : Nat) : List Cl := (List.range n).map fun j => mkCall (k + 10 * j)
theorem mkCalls_len (k n : Nat) : (mkCalls k n).length = n := by simp [mkCalls]
theorem mkCalls_at (k n j : Nat) (hj : j < (mkCalls k n).length) : (mkCalls k n)[j] = mkCall (k + 10 * j) := by simp [mkCalls]
def szM (t : Th) : Nat := 10 * t.cs.length + 1 + t.bs.length + t.es.length
def mkTh (k : Nat) (t : Th) : Th := ⟨mkCalls k t.cs.length, ((k + 10 * t.cs.length : Nat) : Int), mkInts (k + 10 * t.cs.length + 1) t.bs.length, mkInts (k + 10 * t.cs.length + 1 + t.bs.length) t.es.length⟩
def oT (ts : List Th) (k0 : Nat) : Nat → Nat
  | 0 => k0
  | j + 1 => oT ts k0 j + szM (ts.getD j default)
def mkThs (k0 : Nat) (ts : List Th) : List Th := (List.range ts.length).map fun j => mkTh (oT ts k0 j) (ts.getD j default)
theorem mkThs_len (k0 : Nat) (ts : List Th) : (mkThs k0 ts).length = ts.length := by simp [mkThs]
theorem mkThs_at (k0 : Nat) (ts : List Th) (j : Nat) (hj : j < (mkThs k0 ts).length) (h : j < ts.length) : (mkThs k0 ts)[j] = mkTh (oT ts k0 j) ts[j] := by
  simp [mkThs, h]
theorem oT_step (ts : List Th) (k0 k : Nat) (h : k < ts.length) : oT ts k0 (k + 1) = oT ts k0 k + szM ts[k] := by
  show oT ts k0 k + szM (ts.getD k default) = _
  rw [getD_at ts k h]
theorem oT_mono (ts : List Th) (k0 : Nat) {a b : Nat} (h : a ≤ b) : oT ts k0 a ≤ oT ts k0 b := by
  induction b with
  | zero => obtain rfl : a = 0 := by omega
            exact Nat.le_refl _
  | succ b ih =>
    by_cases e : a = b + 1
    · subst e; exact Nat.le_refl _
    · exact Nat.le_trans (ih (by omega)) (Nat.le_add_right _ _)
def mkCw (k : Nat) (C : Cw) : Cw := ⟨C.what, C.size, mkInts k C.m.length, mkThs (k + C.m.length) C.ts, C.clock⟩
def endM (k : Nat) (C : Cw) : Nat := oT C.ts (k + C.m.length) C.ts.length

set_option maxHeartbeats 800000 in
set_option maxRecDepth 100000 in
theorem mark_ints_some (g c n k0 : Nat) (w : World) (hn : n ≤ 4194304) (h2 : k0 ≤ 1073741824) (hg : g < w.heap.size)
    (hA : ∀ j, j < n → ∃ x, w.cell? ⟨g, j, none⟩ = some x) (hF : ∀ j, w.frozen? ⟨g, j, none⟩ = false) :
    Calls Try.prog 49 #[.slice (some ⟨g, 0, none⟩) n c, .int .i64 k0] w fun e w' => e = .returned (.int .i64 ((k0 + n : Nat) : Int)) ∧
      (∀ j, j < n → w'.cell? ⟨g, j, none⟩ = some (.int .i64 ((k0 + j : Nat) : Int))) ∧ (∀ j, w'.frozen? ⟨g, j, none⟩ = false) ∧ Kp [g] w w' := by
  have HA : Hid _ := hA
  have HF : Hid _ := hF
  clear hA hF
  go_enter Try.func49, Try.ntmps49
  go_wp2
  go_loopw [5, 1] (fun i kk wr => ∃ k : Nat, k ≤ n ∧ i = .int .i64 k ∧ kk = .int .i64 ((k0 + k : Nat) : Int) ∧ g < wr.heap.size ∧ Kp [g] w wr ∧ Hid ((∀ j, j < k → wr.cell? ⟨g, j, none⟩ = some (.int .i64 ((k0 + j : Nat) : Int))) ∧ (∀ j, k ≤ j → j < n → ∃ x, wr.cell? ⟨g, j, none⟩ = some x) ∧ ∀ j, wr.frozen? ⟨g, j, none⟩ = false)) (fun i _ _ => n - (intOf i).toNat)
  case atStart => exact ⟨0, Nat.zero_le _, rfl, rfl, hg, Kp.refl _ _, ⟨fun j hj => by omega, fun j _ hj => HA.out j hj, HF.out⟩⟩
  case round =>
    obtain ⟨k, hk, rfl, rfl, hgr, hb, HS⟩ := hrel
    by_cases hlt : k < n
    · obtain ⟨x, hx⟩ := HS.out.2.1 k (Nat.le_refl _) hlt
      have hz := HS.out.2.2 k
      have hlt' : (k : Int) < (n : Int) := by omega
      go_wp2
      go_roundw
      case rel =>
        refine ⟨k + 1, by omega, by go_num, by go_num, by simp; omega, hb.setCell (.inl (by simp)), ⟨fun j hj => ?_, fun j hj1 hj2 => ?_, fun j => ?_⟩⟩
        · by_cases ej : j = k
          · subst ej; refine (World.cell?_setCell_same _ _ _ hx).trans ?_; simp
          · rw [World.cell?_setCell_other _ _ _ _ (by simp <;> omega)]; exact HS.out.1 j (by omega)
        · rw [World.cell?_setCell_other _ _ _ _ (by simp <;> omega)]; exact HS.out.2.1 j (by omega) hj2
        · rw [World.frozen?_setCell]; exact HS.out.2.2 j
      case measure => simp [intOf]; omega
    · have HK : Hid (k = n) := (by omega : k = n)
      go_wp2
      go_ret
      exact ⟨ret_ints (by rw [HK.out]), by rw [← HK.out]; exact HS.out.1, HS.out.2.2, hb⟩
theorem mark_ints (w : World) (v : Value) (xs : List Int) (fp : List Nat) (k0 : Nat) (hn : xs.length ≤ 4194304) (h2 : k0 ≤ 1073741824) (h : IntsO w v xs fp) :
    Calls Try.prog 49 #[v, .int .i64 k0] w fun e w' => e = .returned (.int .i64 ((k0 + xs.length : Nat) : Int)) ∧ IntsO w' v (mkInts k0 xs.length) fp ∧ Kp fp w w' := by
  obtain ⟨a, cap, rfl, hc, h⟩ := h
  by_cases h0 : 0 < xs.length
  · rcases h with ⟨rfl, -⟩ | ⟨g, rfl, rfl, g1, g2, g3⟩
    · exact absurd h0 (by simp)
    · refine (mark_ints_some g cap xs.length k0 w hn h2 g1 (fun j hj => ⟨_, g2 j hj⟩) g3).mono ?_
      rintro e w' ⟨rfl, m1, m2, m3⟩
      exact ⟨rfl, ⟨_, cap, by rw [mkInts_len], trivial, .inr ⟨g, rfl, rfl, Nat.lt_of_lt_of_le g1 m3.size, fun j hj => by rw [m1 j (by rw [mkInts_len] at hj; exact hj), mkInts_at], m2⟩⟩, m3⟩
  · obtain rfl := len_zero h0
    rcases h with ⟨-, rfl⟩ | ⟨g, rfl, rfl, g1, g2, g3⟩
    · refine (mark_int_zero a cap k0 w).mono ?_
      rintro e w' ⟨rfl, rfl⟩
      exact ⟨rfl, ⟨a, cap, rfl, hc, .inl ⟨rfl, rfl⟩⟩, Kp.refl _ _⟩
    · refine (mark_int_zero _ cap k0 w).mono ?_
      rintro e w' ⟨rfl, rfl⟩
      exact ⟨rfl, ⟨_, cap, rfl, hc, .inr ⟨g, rfl, rfl, g1, fun j hj => by simp [mkInts] at hj, g3⟩⟩, Kp.refl _ _⟩
set_option maxHeartbeats 800000 in
set_option maxRecDepth 100000 in
theorem held_ints_some (g c n k0 : Nat) (w : World) (hn : n ≤ 4194304) (h2 : k0 ≤ 1073741824)
    (hA : ∀ j, j < n → w.cell? ⟨g, j, none⟩ = some (.int .i64 ((k0 + j : Nat) : Int))) :
    Calls Try.prog 51 #[.slice (some ⟨g, 0, none⟩) n c, .int .i64 k0] w fun e w' => e = .returned (.int .i64 ((k0 + n : Nat) : Int)) ∧ w' = w := by
  have HA : Hid _ := hA
  clear hA
  go_enter Try.func51, Try.ntmps51
  go_wp2
  go_loop [5, 1] (fun i kk => ∃ k : Nat, k ≤ n ∧ i = .int .i64 k ∧ kk = .int .i64 ((k0 + k : Nat) : Int)) (fun i _ => n - (intOf i).toNat)
  case atStart => exact ⟨0, Nat.zero_le _, rfl, rfl⟩
  case round =>
    obtain ⟨k, hk, rfl, rfl⟩ := hrel
    by_cases hlt : k < n
    · have hx := HA.out k hlt
      have hlt' : (k : Int) < (n : Int) := by omega
      go_wp2
      go_round
      case rel => exact ⟨k + 1, by omega, by go_num, by go_num⟩
      case measure => simp [intOf]; omega
    · have HK : Hid (k = n) := (by omega : k = n)
      go_wp2
      go_ret
      exact ⟨ret_ints (by rw [HK.out]), rfl⟩
theorem held_ints (w : World) (v : Value) (n k0 : Nat) (fp : List Nat) (hn : n ≤ 4194304) (h2 : k0 ≤ 1073741824) (h : IntsO w v (mkInts k0 n) fp) :
    Calls Try.prog 51 #[v, .int .i64 k0] w fun e w' => e = .returned (.int .i64 ((k0 + n : Nat) : Int)) ∧ w' = w := by
  obtain ⟨a, cap, rfl, hc, h⟩ := h
  rw [mkInts_len]
  by_cases h0 : 0 < n
  · rcases h with ⟨h, -⟩ | ⟨g, rfl, rfl, g1, g2, g3⟩
    · exact absurd (congrArg List.length h) (by rw [mkInts_len]; simp; omega)
    · exact held_ints_some g cap n k0 w hn h2 (fun j hj => by rw [g2 j (by rw [mkInts_len]; exact hj), mkInts_at])
  · obtain rfl : n = 0 := by omega
    exact held_int_zero a cap k0 w
theorem At10.eqv {W : World} {b o : Nat} {c c' : Cl} (h : At10 W b o c) (e : c = c') : At10 W b o c' := e ▸ h
theorem flat_last (n : Nat) (f : Nat → List Nat) : (List.range (n + 1)).flatMap f = (List.range n).flatMap f ++ f n := by
  rw [List.range_succ, List.flatMap_append]
  simp
theorem flat_mem {n : Nat} {f : Nat → List Nat} {j x : Nat} (hj : j < n) (hx : x ∈ f j) : x ∈ (List.range n).flatMap f := List.mem_flatMap.2 ⟨j, List.mem_range.2 hj, hx⟩
theorem flat_apart (n : Nat) (f : Nat → List Nat) (h : ((List.range n).flatMap f).Nodup) : (∀ j, j < n → (f j).Nodup) ∧ ∀ i j, i < n → j < n → i ≠ j → ∀ x ∈ f i, ¬ x ∈ f j := by
  induction n with
  | zero => exact ⟨fun j hj => by omega, fun i j hi => by omega⟩
  | succ n ih =>
    rw [flat_last, List.nodup_append] at h
    obtain ⟨h1, h2, h3⟩ := h
    obtain ⟨i1, i2⟩ := ih h1
    refine ⟨fun j hj => ?_, fun i j hi hj hn x hx hm => ?_⟩
    · by_cases e : j = n
      · subst e; exact h2
      · exact i1 j (by omega)
    · by_cases e : j = n
      · subst e; exact h3 x (flat_mem (by omega) hx) x hm rfl
      · by_cases e2 : i = n
        · subst e2; exact h3 x (flat_mem (by omega) hm) x hx rfl
        · exact i2 i j (by omega) (by omega) hn x hx hm
/- the threads in block g are f 0, f 1, .. -/
def TsAt (w : World) (g n : Nat) (fps : Nat → List Nat) (f : Nat → Th) : Prop := ∀ j, j < n → ∃ v0 v2 v3, At4 w g (j * 4) v0 (.int .i64 (f j).at_) v2 v3 ∧ ThO w v0 v2 v3 (f j) (fps j)
def mkTo (ts : List Th) (k0 k : Nat) (j : Nat) : Th := if j < k then mkTh (oT ts k0 j) (ts.getD j default) else ts.getD j default
theorem Kp.at4 {bs : List Nat} {w w' : World} {g o : Nat} {v0 v1 v2 v3 : Value} (h : Kp bs w w') (a : At4 w g o v0 v1 v2 v3) (hg : g < w.heap.size) (hn : ¬ g ∈ bs) : At4 w' g o v0 v1 v2 v3 := a.of (cells_of_block (h.block g hg hn))
theorem Kp.tho {bs : List Nat} {w w' : World} {v0 v2 v3 : Value} {t : Th} {fp : List Nat} (h : Kp bs w w') (a : ThO w v0 v2 v3 t fp) (hn : ∀ x ∈ fp, ¬ x ∈ bs) : ThO w' v0 v2 v3 t fp := a.loc' (fun x hx => h.block x (a.lt x hx) (hn x hx))
theorem Kp.calls {bs : List Nat} {w w' : World} {v : Value} {t : List Cl} {fp : List Nat} (h : Kp bs w w') (a : CallsO w v t fp) (hn : ∀ x ∈ fp, ¬ x ∈ bs) : CallsO w' v t fp := a.loc' (fun x hx => h.block x (a.lt x hx) (hn x hx))
theorem Kp.ints {bs : List Nat} {w w' : World} {v : Value} {t : List Int} {fp : List Nat} (h : Kp bs w w') (a : IntsO w v t fp) (hn : ∀ x ∈ fp, ¬ x ∈ bs) : IntsO w' v t fp := a.loc' (fun x hx => h.block x (a.lt x hx) (hn x hx))
theorem Kp.ths {bs : List Nat} {w w' : World} {v : Value} {t : List Th} {fp : List Nat} (h : Kp bs w w') (a : ThsO w v t fp) (hn : ∀ x ∈ fp, ¬ x ∈ bs) : ThsO w' v t fp := a.loc' (fun x hx => h.block x (a.lt x hx) (hn x hx))
theorem mkCalls_form (v : Value) (w : World) (k n : Nat) (fp : List Nat) (h : CallsO w v (mkCalls k n) fp) : ∃ a c, v = .slice a n c := by
  obtain ⟨a, c, e, -⟩ := h
  exact ⟨a, c, by rw [e, mkCalls_len]⟩
theorem oT_end_le (ts : List Th) (k0 : Nat) (hk : k0 ≤ 1073741824) (h : oT ts k0 ts.length ≤ 1073741824) (k : Nat) (hk : k ≤ ts.length) : oT ts k0 k ≤ 1073741824 := Nat.le_trans (oT_mono ts k0 hk) h

end Go.Proofs.Ytijmjpjclhgaoaa
