/- Rows of threads: measured, copied, held against one another. -/
import Derived.Test.YtmifnemjihffkaaRows
import Derived.WalkKit
import Derived.ProofKit
import Derived.OpenShut
import Derived.ShutString
import Derived.Test.YtmifnemjihffkaaCallRows
import Derived.Test.YtmifnemjihffkaaIntCopy
import Derived.Test.YtmifnemjihffkaaMemFns
namespace Go.Proofs.Ytmifnemjihffkaa
open Go.ChangeShapes Go.WideShapes Go.ChangeAt Go.RowKit
set_option linter.unusedVariables false

theorem infoTh : (Try.prog.info? 64).map (fun i => (i.zero, i.size, i.bytes)) = some (some (.agg #[.slice none 0 0, .int .i64 0, .slice none 0 0, .slice none 0 0]), 4, 80) := by kernel_rfl
def szR (l : Int) (n : Nat) : Int := if l < n then -1 else l - n
def szTh (t : Th) : Nat := t.cs.length + t.bs.length + t.es.length
def pS (ts : List Th) : Nat → Nat
  | 0 => 0
  | k + 1 => pS ts k + szTh (ts.getD k default)
def szThs (ts : List Th) : Nat := ts.length + pS ts ts.length
theorem pS_mono (ts : List Th) {a b : Nat} (h : a ≤ b) : pS ts a ≤ pS ts b := by
  induction b with
  | zero => obtain rfl : a = 0 := by omega
            exact Nat.le_refl _
  | succ b ih =>
    by_cases e : a = b + 1
    · subst e; exact Nat.le_refl _
    · exact Nat.le_trans (ih (by omega)) (Nat.le_add_right _ _)
theorem sz_th (a0 a2 a3 : Option Addr) (n0 c0 n2 c2 n3 c3 : Nat) (z l : Int) (w : World) (h0 : n0 ≤ 9223372036854775807) (h2 : n2 ≤ 9223372036854775807) (h3 : n3 ≤ 9223372036854775807) (l0 : 0 ≤ l) (l1 : l ≤ 4194304) :
    Calls Try.prog 55 #[.agg #[.slice a0 n0 c0, .int .i64 z, .slice a2 n2 c2, .slice a3 n3 c3], .int .i64 l] w fun e w' => e = .returned (.int .i64 (szR l (n0 + n2 + n3))) ∧ Below w.heap.size w w' := by
  have B : ∀ (o : Obj), Below w.heap.size w (w.alloc o) := fun o => (Below.refl _ _).alloc (Nat.le_refl _) _
  unfold szR
  by_cases k0 : l < n0
  · rw [if_pos (by omega)]
    go_enter Try.func55, Try.ntmps55
    go_wp2_with (first | (go_at_call 70; refine (sz_calls a0 n0 c0 l _ h0 l0 (by omega)).mono ?_; rintro e w' ⟨rfl, rfl⟩; rw [if_pos k0]))
    go_ret
    exact ⟨rfl, B _⟩
  · obtain ⟨y, hy⟩ : ∃ y, l - (n0 : Int) = y := ⟨_, rfl⟩
    by_cases k2 : y < n2
    · rw [if_pos (by omega)]
      go_enter Try.func55, Try.ntmps55
      go_wp2_with fail
      refine (sz_calls a0 n0 c0 l _ h0 l0 (by omega)).mono ?_
      rintro e w' ⟨rfl, rfl⟩
      rw [if_neg (by omega), hy]
      have z1 : 0 ≤ y ∧ y ≤ 4194304 := by omega
      clear hy k0
      go_wp2_with fail
      refine (sz_int a2 n2 c2 y _ h2 z1.1 z1.2).mono ?_
      rintro e w' ⟨rfl, rfl⟩
      rw [if_pos (by omega)]
      clear k2 z1
      go_wp2
      go_ret
      exact ⟨rfl, B _⟩
    · obtain ⟨u, hu⟩ : ∃ u, y - (n2 : Int) = u := ⟨_, rfl⟩
      have HR := hidIt (show (if u < n3 then (-1 : Int) else u - n3) = (if l < ((n0 + n2 + n3 : Nat) : Int) then (-1 : Int) else l - ((n0 + n2 + n3 : Nat) : Int)) by
        by_cases k3 : u < n3
        · rw [if_pos k3, if_pos (by omega)]
        · rw [if_neg k3, if_neg (by omega)]; omega)
      have z1 : (0 ≤ y ∧ y ≤ 4194304) ∧ 0 ≤ u ∧ u ≤ 4194304 := by omega
      rw [← HR.out]
      clear HR
      by_cases k3 : u < n3
      · rw [if_pos k3]
        go_enter Try.func55, Try.ntmps55
        go_wp2_with fail
        refine (sz_calls a0 n0 c0 l _ h0 l0 (by omega)).mono ?_
        rintro e w' ⟨rfl, rfl⟩
        rw [if_neg (by omega), hy]
        clear hy k0
        go_wp2_with fail
        refine (sz_int a2 n2 c2 y _ h2 z1.1.1 z1.1.2).mono ?_
        rintro e w' ⟨rfl, rfl⟩
        rw [if_neg (by omega), hu]
        clear k2 hu
        go_wp2_with fail
        refine (sz_int a3 n3 c3 u _ h3 z1.2.1 z1.2.2).mono ?_
        rintro e w' ⟨rfl, rfl⟩
        rw [if_pos (by omega)]
        clear k3 z1
        go_wp2
        go_ret
        exact ⟨rfl, B _⟩
      · rw [if_neg k3]
        obtain ⟨x, hx⟩ : ∃ x, u - (n3 : Int) = x := ⟨_, rfl⟩
        have hx0 : 0 ≤ x := by omega
        rw [hx]
        have HX := hidIt hx
        clear hx
        go_enter Try.func55, Try.ntmps55
        go_wp2_with fail
        refine (sz_calls a0 n0 c0 l _ h0 l0 (by omega)).mono ?_
        rintro e w' ⟨rfl, rfl⟩
        rw [if_neg (by omega), hy]
        clear hy k0
        go_wp2_with fail
        refine (sz_int a2 n2 c2 y _ h2 z1.1.1 z1.1.2).mono ?_
        rintro e w' ⟨rfl, rfl⟩
        rw [if_neg (by omega), hu]
        clear k2 hu
        go_wp2_with fail
        refine (sz_int a3 n3 c3 u _ h3 z1.2.1 z1.2.2).mono ?_
        rintro e w' ⟨rfl, rfl⟩
        rw [if_neg (by omega), HX.out]
        clear k3 z1
        go_wp2
        go_ret
        exact ⟨rfl, B _⟩

def TsLim (ts : List Th) : Prop := ∀ j (hj : j < ts.length), ts[j].cs.length ≤ 9223372036854775807 ∧ ts[j].bs.length ≤ 9223372036854775807 ∧ ts[j].es.length ≤ 9223372036854775807
theorem getD_at {α : Type} [Inhabited α] (ts : List α) (k : Nat) (h : k < ts.length) : ts.getD k default = ts[k] := by simp [List.getD, List.getElem?_eq_getElem h]
theorem pS_step (ts : List Th) (k : Nat) (h : k < ts.length) : pS ts (k + 1) = pS ts k + szTh ts[k] := by
  show pS ts k + szTh (ts.getD k default) = _
  rw [getD_at ts k h]
set_option maxHeartbeats 1600000 in
set_option maxRecDepth 100000 in
theorem sz_ths_some (b off c : Nat) (ts : List Th) (l : Int) (w : World) (hn : ts.length ≤ 9223372036854775807) (hl : TsLim ts) (l0 : 0 ≤ l) (l1 : l ≤ 1048576) (hle : ts.length ≤ l) (hb : b < w.heap.size)
    (hA : ∀ j (hj : j < ts.length), ∃ v0 v2 v3, At4 w b (off + j * 4) v0 (.int .i64 ts[j].at_) v2 v3 ∧ ThIn w v0 v2 v3 ts[j]) :
    Calls Try.prog 33 #[.slice (some ⟨b, off, none⟩) ts.length c, .int .i64 l] w fun e w' => e = .returned (.int .i64 (szR l (szThs ts))) ∧ Below w.heap.size w w' := by
  have HA := hidIt hA
  have HL := hidIt hl
  clear hA hl
  go_enter Try.func33, Try.ntmps33
  go_wp2
  go_loopw [5, 1] (fun i L wr => ∃ k : Nat, ∃ z : Int, k ≤ ts.length ∧ i = .int .i64 k ∧ L = .int .i64 z ∧ z = l - ts.length - pS ts k ∧ 0 ≤ z ∧ Below w.heap.size w wr) (fun i _ _ => ts.length - (intOf i).toNat)
  case atStart => exact ⟨0, l - ts.length, Nat.zero_le _, rfl, rfl, by simp [pS], by omega, Below.refl _ _⟩
  case round =>
    rename World => wr
    obtain ⟨k, z, hk, rfl, rfl, hz, z0, hbw⟩ := hrel
    by_cases hlt : k < ts.length
    · have hlt' : (k : Int) < (ts.length : Int) := by omega
      have HP := hidIt (pS_step ts k hlt)
      have hm := pS_mono ts (show k + 1 ≤ ts.length by omega)
      obtain ⟨v0, v2, v3, h4, h5⟩ := HA.out k hlt
      obtain ⟨q1, q2, q3⟩ := HL.out k hlt
      obtain ⟨c0, c1, c2, c3⟩ := h4.of (fun q => hbw.cell (p := ⟨b, q, none⟩) hb)
      clear h4
      obtain ⟨a0, d0, rfl, -⟩ := h5.cs.form
      obtain ⟨a2, d2, rfl, -⟩ := h5.bs.form
      obtain ⟨a3, d3, rfl, -⟩ := h5.es.form
      clear h5
      have HM := hidIt hm
      have HZ := hidIt hz
      clear hm hz
      go_wp2_with fail
      refine (sz_th a0 a2 a3 _ d0 _ d2 _ d3 _ z _ q1 q2 q3 z0 (by have := HZ.out; omega)).mono ?_
      rintro e w1 ⟨rfl, b1⟩
      have hb1 := below_step hbw b1
      by_cases hf : z < ((ts[k].cs.length + ts[k].bs.length + ts[k].es.length : Nat) : Int)
      · rw [show szR z (ts[k].cs.length + ts[k].bs.length + ts[k].es.length) = -1 from if_pos hf]
        have HF := hidIt hf
        clear hf
        go_wp2
        go_ret
        exact ⟨ret_ints (show szR l (szThs ts) = -1 from if_pos (by have e0 := HF.out; have e1 := HP.out; have e2 := HM.out; have e3 := HZ.out; unfold szThs; unfold szTh at e1; omega)).symm, hb1⟩
      · rw [show szR z (ts[k].cs.length + ts[k].bs.length + ts[k].es.length) = z - ((ts[k].cs.length + ts[k].bs.length + ts[k].es.length : Nat) : Int) from if_neg hf]
        have hnx : z - ((ts[k].cs.length + ts[k].bs.length + ts[k].es.length : Nat) : Int) = l - ts.length - pS ts (k + 1) := by have e1 := HP.out; have e3 := HZ.out; unfold szTh at e1; omega
        have hp : 0 ≤ z - ((ts[k].cs.length + ts[k].bs.length + ts[k].es.length : Nat) : Int) := by omega
        generalize z - ((ts[k].cs.length + ts[k].bs.length + ts[k].es.length : Nat) : Int) = y at hnx hp
        have HN := hidIt hnx
        clear hf hnx c0 c1 c2 c3
        go_wp2
        go_roundw
        case rel => exact ⟨k + 1, y, by omega, by go_num, rfl, HN.out, hp, hb1⟩
        case measure => simp [intOf]; omega
    · obtain rfl : k = ts.length := by omega
      have HZ := hidIt hz
      clear hz
      go_wp2
      go_ret
      exact ⟨ret_ints (by have := HZ.out; unfold szR szThs; rw [if_neg (by omega)]; omega), hbw⟩
theorem sz_ths_zero (a : Option Addr) (c : Nat) (l : Int) (w : World) (l0 : 0 ≤ l) (l1 : l ≤ 1048576) :
    Calls Try.prog 33 #[.slice a 0 c, .int .i64 l] w fun e w' => e = .returned (.int .i64 l) ∧ Below w.heap.size w w' := by
  go_enter Try.func33, Try.ntmps33
  go_wp2
  go_loop [5, 1] (fun i L => i = .int .i64 0 ∧ L = .int .i64 l) (fun _ _ => 0)
  case atStart => exact ⟨rfl, by simp⟩
  case round =>
    obtain ⟨rfl, rfl⟩ := hrel
    go_wp2
    go_ret
    exact ⟨rfl, Below.refl _ _⟩
theorem sz_ths_over (a : Option Addr) (n c : Nat) (l : Int) (w : World) (hn : n ≤ 9223372036854775807) (l0 : 0 ≤ l) (l1 : l ≤ 1048576) (h : l < n) :
    Calls Try.prog 33 #[.slice a n c, .int .i64 l] w fun e w' => e = .returned (.int .i64 (-1)) ∧ Below w.heap.size w w' := by
  go_enter Try.func33, Try.ntmps33
  go_wp2
  go_ret
  exact ⟨rfl, Below.refl _ _⟩
theorem sz_ths (v : Value) (ts : List Th) (l : Int) (w : World) (hn : ts.length ≤ 9223372036854775807) (hl : TsLim ts) (l0 : 0 ≤ l) (l1 : l ≤ 1048576) (h : ThsIn w v ts) :
    Calls Try.prog 33 #[v, .int .i64 l] w fun e w' => e = .returned (.int .i64 (szR l (szThs ts))) ∧ Below w.heap.size w w' := by
  obtain ⟨a, cap, rfl, -, h⟩ := h
  by_cases ho : l < (ts.length : Int)
  · rw [show szR l (szThs ts) = -1 from if_pos (by unfold szThs; omega)]
    exact sz_ths_over a _ cap l w hn l0 l1 ho
  · by_cases h0 : 0 < ts.length
    · rcases h with rfl | ⟨b, off, rfl, h1, h2⟩
      · exact absurd h0 (by simp)
      · exact sz_ths_some b off cap ts l w hn hl l0 l1 (by omega) h1 h2
    · obtain rfl := len_zero h0
      rw [show szR l (szThs []) = l from by unfold szR szThs; simp [pS]; omega]
      exact sz_ths_zero a cap l w l0 l1
theorem sz_crew (p o : Option Addr) (n c d : Nat) (what size clock : Int) (ts : List Th) (w : World) (hn : n ≤ 9223372036854775807) (hn2 : ts.length ≤ 9223372036854775807) (hl : TsLim ts) (h : ThsIn w (.slice o ts.length d) ts) :
    Calls Try.prog 8 #[.agg #[.int .i64 what, .int .i64 size, .slice p n c, .slice o ts.length d, .int .i64 clock], .int .i64 1048576] w fun e w' => e = .returned (.int .i64 (szR 1048576 (n + szThs ts))) ∧ Below w.heap.size w w' := by
  have H := hidIt h
  have HL := hidIt hl
  clear h hl
  by_cases k0 : (1048576 : Int) < n
  · rw [show szR 1048576 (n + szThs ts) = -1 from if_pos (by omega)]
    go_enter Try.func8, Try.ntmps8
    go_wp2_with fail
    refine (sz_mem p n c 1048576 _ hn (by omega) (by omega)).mono ?_
    rintro e w1 ⟨rfl, b1⟩
    rw [if_pos (by omega)]
    go_wp2
    go_ret
    exact ⟨rfl, ((Below.refl _ _).alloc (Nat.le_refl _) _).trans (b1.mono (by simp))⟩
  · obtain ⟨y, hy⟩ : ∃ y : Int, (1048576 : Int) - n = y := ⟨_, rfl⟩
    have hy0 : 0 ≤ y ∧ y ≤ 1048576 := by omega
    have HR := hidIt (show szR 1048576 (n + szThs ts) = szR y (szThs ts) by unfold szR; split <;> split <;> omega)
    rw [HR.out]
    by_cases hr : 0 ≤ szR y (szThs ts)
    · have HY := hidIt hy
      clear hy
      generalize hz : szR y (szThs ts) = z at hr
      have HZ := hidIt hz
      clear hz
      go_enter Try.func8, Try.ntmps8
      go_wp2_with fail
      refine (sz_mem p n c 1048576 _ hn (by omega) (by omega)).mono ?_
      rintro e w1 ⟨rfl, b1⟩
      rw [if_neg (by omega), HY.out]
      have B1 := hidIt (((Below.refl w.heap.size w).alloc (Nat.le_refl _) (.cells #[.int .i64 what, .int .i64 size, .slice p n c, .slice o ts.length d, .int .i64 clock] 27)).trans (b1.mono (by simp)))
      clear k0
      have c3 : w1.cell? ⟨w.heap.size, 3, none⟩ = some (.slice o ts.length d) := below_cell b1 (by simp) (by simp [go_sem])
      clear b1
      go_wp2_with fail
      refine (sz_ths _ ts y _ hn2 HL.out hy0.1 hy0.2 (H.out.below B1.out)).mono ?_
      rintro e w2 ⟨rfl, b2⟩
      rw [HZ.out]
      go_wp2
      go_ret
      exact ⟨rfl, below_step B1.out b2⟩
    · have hz : szR y (szThs ts) = -1 := by unfold szR at hr ⊢; split at hr <;> simp_all
      have HY := hidIt hy
      rw [hz]
      have HZ := hidIt hz
      clear hz hr hy
      go_enter Try.func8, Try.ntmps8
      go_wp2_with fail
      refine (sz_mem p n c 1048576 _ hn (by omega) (by omega)).mono ?_
      rintro e w1 ⟨rfl, b1⟩
      rw [if_neg (by omega), HY.out]
      have B1 := hidIt (((Below.refl w.heap.size w).alloc (Nat.le_refl _) (.cells #[.int .i64 what, .int .i64 size, .slice p n c, .slice o ts.length d, .int .i64 clock] 27)).trans (b1.mono (by simp)))
      clear k0
      have c3 : w1.cell? ⟨w.heap.size, 3, none⟩ = some (.slice o ts.length d) := below_cell b1 (by simp) (by simp [go_sem])
      clear b1
      go_wp2_with fail
      refine (sz_ths _ ts y _ hn2 HL.out hy0.1 hy0.2 (H.out.below B1.out)).mono ?_
      rintro e w2 ⟨rfl, b2⟩
      rw [HZ.out]
      go_wp2
      go_ret
      exact ⟨rfl, below_step B1.out b2⟩

end Go.Proofs.Ytmifnemjihffkaa
