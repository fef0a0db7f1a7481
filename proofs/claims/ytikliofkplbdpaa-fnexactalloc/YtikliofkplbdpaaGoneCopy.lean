/- Rows of pairs that came in, copied; rows of pairs held against one another. -/
import Derived.Test.YtikliofkplbdpaaRows
import Derived.WalkKit
import Derived.ProofKit
import Derived.OpenShut
import Derived.ShutString
import Derived.Test.YtikliofkplbdpaaGoneRows
namespace Go.Proofs.Ytikliofkplbdpaa
open Go.ChangeShapes Go.WideShapes Go.ChangeAt Go.RowKit
set_option linter.unusedVariables false

theorem made_two (n j : Nat) (hj : j < n) : (madeCells #[Value.int .i64 0, Value.int .i64 0] n)[j]? = some (.int .i64 0) := by
  have h : j % 2 = 0 ∨ j % 2 = 1 := by omega
  rcases h with h | h <;> simp [madeCells, hj, h]

theorem eq_gones_zero (a b : Option Addr) (c d : Nat) (w : World) :
    Calls Try.prog 39 #[.slice a 0 c, .slice b 0 d] w fun e w' => e = .returned (.bool true) ∧ Below w.heap.size w w' := by
  go_enter Try.func39, Try.ntmps39
  go_wp2
  go_loop [5] (fun i => i = .int .i64 0) (fun _ => 0)
  case atStart => rfl
  case round =>
    subst hrel
    go_wp2
    go_ret
    exact ⟨rfl, Below.refl _ _⟩

theorem four_keep {W0 W W' : World} {a b : Nat} {p q r s : Nat} {x y u v : Value} (h : Below W0.heap.size W0 W ∧ W.cell? ⟨a, p, none⟩ = some x ∧ W.cell? ⟨a, q, none⟩ = some y ∧ W.cell? ⟨b, r, none⟩ = some u ∧ W.cell? ⟨b, s, none⟩ = some v ∧ a < W.heap.size ∧ b < W.heap.size) (hb : Below W.heap.size W W') :
    Below W0.heap.size W0 W' ∧ W'.cell? ⟨a, p, none⟩ = some x ∧ W'.cell? ⟨a, q, none⟩ = some y ∧ W'.cell? ⟨b, r, none⟩ = some u ∧ W'.cell? ⟨b, s, none⟩ = some v ∧ a < W'.heap.size ∧ b < W'.heap.size := by
  obtain ⟨h0, h1, h2, h3, h4, h5, h6⟩ := h
  have := hb.size
  exact ⟨below_step h0 hb, below_cell hb h5 h1, below_cell hb h5 h2, below_cell hb h6 h3, below_cell hb h6 h4, by omega, by omega⟩

set_option maxHeartbeats 800000 in
set_option maxRecDepth 100000 in
theorem eq_gones_some (g h c d : Nat) (L : List (Int × Int)) (w : World) (hn : L.length ≤ 4194304) (h0 : 0 < L.length) (hg : g < w.heap.size) (hh : h < w.heap.size)
    (hA : ∀ j (hj : j < L.length), w.cell? ⟨g, j * 2, none⟩ = some (.int .i64 L[j].1) ∧ w.cell? ⟨g, j * 2 + 1, none⟩ = some (.int .i64 L[j].2)) (hB : ∀ j (hj : j < L.length), w.cell? ⟨h, j * 2, none⟩ = some (.int .i64 L[j].1) ∧ w.cell? ⟨h, j * 2 + 1, none⟩ = some (.int .i64 L[j].2)) :
    Calls Try.prog 39 #[.slice (some ⟨g, 0, none⟩) L.length c, .slice (some ⟨h, 0, none⟩) L.length d] w fun e w' => e = .returned (.bool true) ∧ Below w.heap.size w w' := by
  have HA := hidIt hA
  have HB := hidIt hB
  clear hA hB
  go_enter Try.func39, Try.ntmps39
  go_wp2
  go_loopw [5] (fun i wr => ∃ k : Nat, k ≤ L.length ∧ i = .int .i64 k ∧ Below w.heap.size w wr) (fun i _ => L.length - (intOf i).toNat)
  case atStart => exact ⟨0, Nat.zero_le _, rfl, Below.refl _ _⟩
  case round =>
    rename World => wr
    obtain ⟨k, hk, rfl, hb⟩ := hrel
    by_cases hlt : k < L.length
    · have cA := HA.out k hlt
      have cB := HB.out k hlt
      have hlt' : (k : Int) < (L.length : Int) := by omega
      generalize L[k] = x at cA cB
      obtain ⟨x, y⟩ := x
      have hS : Below w.heap.size w wr ∧ wr.cell? ⟨g, k * 2, none⟩ = some (.int .i64 x) ∧ wr.cell? ⟨g, k * 2 + 1, none⟩ = some (.int .i64 y) ∧ wr.cell? ⟨h, k * 2, none⟩ = some (.int .i64 x) ∧ wr.cell? ⟨h, k * 2 + 1, none⟩ = some (.int .i64 y) ∧ g < wr.heap.size ∧ h < wr.heap.size :=
        ⟨hb, below_cell hb hg cA.1, below_cell hb hg cA.2, below_cell hb hh cB.1, below_cell hb hh cB.2, Nat.lt_of_lt_of_le hg hb.size, Nat.lt_of_lt_of_le hh hb.size⟩
      clear cA cB hb
      go_wp2_with fail
      go_region_held3 (fun W => Below w.heap.size w W ∧ W.cell? ⟨g, k * 2, none⟩ = some (.int .i64 x) ∧ W.cell? ⟨g, k * 2 + 1, none⟩ = some (.int .i64 y) ∧ W.cell? ⟨h, k * 2, none⟩ = some (.int .i64 x) ∧ W.cell? ⟨h, k * 2 + 1, none⟩ = some (.int .i64 y) ∧ g < W.heap.size ∧ h < W.heap.size)
        (first | exact four_keep (by assumption) (Below.refl _ _).drew | exact four_keep (by assumption) (by assumption))
        (first | (go_at_call 50; refine (eq_gone x y _).mono ?_; rintro e wa ⟨rfl, ba⟩))
      rename_i hH
      have hb := hH.1
      clear hH hS
      go_wp2
      go_roundw
      case rel => exact ⟨k + 1, by omega, by go_num, hb⟩
      case measure => simp [intOf]; omega
    · go_wp2
      go_ret
      exact ⟨rfl, hb⟩

theorem gones_cell {w : World} {g lo hi : Nat} {L : List (Int × Int)} (h3 : ∀ j (hj : j < (gones L).length), w.cell? ⟨g, j, none⟩ = some (gones L)[j]) : ∀ j (hj : j < L.length), w.cell? ⟨g, j * 2, none⟩ = some (.int .i64 L[j].1) ∧ w.cell? ⟨g, j * 2 + 1, none⟩ = some (.int .i64 L[j].2) := by
  intro j hj
  have l := gones_len L
  have e := gones_at L j hj
  have e1 : j * 2 < (gones L).length := by omega
  have e2 : j * 2 + 1 < (gones L).length := by omega
  rw [List.getElem?_eq_getElem e1, List.getElem?_eq_getElem e2] at e
  exact ⟨(h3 _ e1).trans e.1, (h3 _ e2).trans e.2⟩
theorem gones_zero {L : List (Int × Int)} (h : gones L = []) : L = [] := List.length_eq_zero_iff.1 (by have := congrArg List.length h; rw [gones_len] at this; simp only [List.length_nil] at this; omega)
theorem eq_gones (w : World) (l1 h1 l2 h2 : Nat) (v1 v2 : Value) (L : List (Int × Int)) (hn : L.length ≤ 4194304) (e1 : h1 ≤ w.heap.size) (e2 : h2 ≤ w.heap.size) (r1 : Rw w l1 h1 v1 L.length (gones L)) (r2 : Rw w l2 h2 v2 L.length (gones L)) :
    Calls Try.prog 39 #[v1, v2] w fun e w' => e = .returned (.bool true) ∧ Below w.heap.size w w' := by
  obtain ⟨a, c, rfl, -, q1⟩ := r1
  obtain ⟨b, d, rfl, -, q2⟩ := r2
  rcases q1 with q1 | ⟨g, rfl, _, _, q1, _⟩
  · obtain rfl := gones_zero q1
    exact eq_gones_zero a b c d w
  · rcases q2 with q2 | ⟨h, rfl, _, _, q2, _⟩
    · obtain rfl := gones_zero q2
      exact eq_gones_zero _ b c d w
    · by_cases h0 : 0 < L.length
      · exact eq_gones_some g h c d L w hn h0 (by omega) (by omega) (gones_cell (lo := 0) (hi := 0) q1) (gones_cell (lo := 0) (hi := 0) q2)
      · have e : L.length = 0 := by omega
        rw [e]
        exact eq_gones_zero _ _ c d w

set_option maxHeartbeats 800000 in
set_option maxRecDepth 100000 in
theorem to_gones_some (b off c : Nat) (L : List (Int × Int)) (w : World) (hn : L.length ≤ 4194304) (h0 : 0 < L.length) (hb : b < w.heap.size)
    (hA : ∀ j (hj : j < L.length), w.cell? ⟨b, off + j * 2, none⟩ = some (.int .i64 L[j].1) ∧ w.cell? ⟨b, off + j * 2 + 1, none⟩ = some (.int .i64 L[j].2)) :
    Calls Try.prog 35 #[.slice (some ⟨b, off, none⟩) L.length c] w fun e w' => ∃ v', e = .returned v' ∧ Rw w' w.heap.size w'.heap.size v' L.length (gones L) ∧ Below w.heap.size w w' := by
  obtain ⟨i0, hi, hz0, hz1, hz2⟩ := info_parts infoGone
  have HA := hidIt hA
  clear hA
  go_enter Try.func35, Try.ntmps35
  go_wp2_with (at_make; refine wpList_make_full _ rfl _ _ 29 rfl w.heap.size 65 i0 (.agg #[.int .i64 0, .int .i64 0]) 2 Try.underlying29 hi hz0 hz1 .i64 .i64 _ _ L.length rfl rfl rfl rfl (by rw [hz2]; omega) (by unfold maxLen; omega) (Nat.le_refl _) ?_; intro w1 hown hgrow)
  have hb1 : Below w.heap.size w w1 := (Below.refl _ _).grown hgrow (Nat.le_refl _) (fun k hk => by cases hk)
  have hgz : w.heap.size < w1.heap.size ∧ (∀ j, j < L.length * 2 → ∃ x, w1.cell? ⟨w.heap.size, j, none⟩ = some (.int .i64 x)) ∧ ∀ j, w1.frozen? ⟨w.heap.size, j, none⟩ = false := by
    rcases own_cells2 hown with ⟨h, _⟩ | ⟨g, cap, hv, h1, h2, h3, h4, h5, h6, h7⟩
    · cases h
    · simp at hv
      obtain ⟨rfl, _⟩ := hv
      refine ⟨h2, fun j hj => ⟨0, ?_⟩, h7⟩
      have hl : j < (madeCells (Value.agg #[.int .i64 0, .int .i64 0]).cells (L.length * 2)).toList.length := by omega
      rw [h6 j hl]
      have e := made_two (L.length * 2) j hj
      rw [← e, ← Array.getElem?_toList]
      exact (List.getElem?_eq_getElem hl).symm
  clear hown hgrow
  obtain ⟨hgs, hg1, hg2⟩ := hgz
  have HG := hidIt hg1
  have HF := hidIt hg2
  clear hg1 hg2
  go_wp2
  go_loopw [4] (fun i wr => ∃ k : Nat, k ≤ L.length ∧ i = .int .i64 k ∧ w.heap.size < wr.heap.size ∧ Below w.heap.size w wr ∧ Hid ((∀ j (hj : j < (gones L).length), j < k * 2 → wr.cell? ⟨w.heap.size, j, none⟩ = some (gones L)[j]) ∧ (∀ j, k * 2 ≤ j → j < L.length * 2 → ∃ x, wr.cell? ⟨w.heap.size, j, none⟩ = some (.int .i64 x)) ∧ ∀ j, wr.frozen? ⟨w.heap.size, j, none⟩ = false)) (fun i _ => L.length - (intOf i).toNat)
  case atStart => exact ⟨0, Nat.zero_le _, rfl, hgs, hb1, ⟨fun j _ hj => by omega, fun j _ hj => HG.out j hj, HF.out⟩⟩
  case round =>
    rename World => wr
    obtain ⟨k, hk, rfl, hgr, hbw, HS⟩ := hrel
    by_cases hlt : k < L.length
    · obtain ⟨x, hx⟩ := HS.out.2.1 (k * 2) (Nat.le_refl _) (by omega)
      obtain ⟨x2, hx2⟩ := HS.out.2.1 (k * 2 + 1) (by omega) (by omega)
      have hz := HS.out.2.2 (k * 2)
      have hzz := HS.out.2.2 (k * 2 + 1)
      have hlt' : (k : Int) < (L.length : Int) := by omega
      have hr := (hbw.cell (p := ⟨b, off + k * 2, none⟩) hb).trans (HA.out k hlt).1
      have hr2 := (hbw.cell (p := ⟨b, off + k * 2 + 1, none⟩) hb).trans (HA.out k hlt).2
      have HY := hidIt (gones_at L k hlt)
      generalize L[k].1 = y at hr HY
      generalize L[k].2 = y2 at hr2 HY
      have HX := hidIt (And.intro hx (And.intro hx2 (And.intro hz hzz)))
      clear hx hx2 hz hzz
      go_wp2_with fail
      refine (to_gone y y2 _).mono ?_
      rintro e wt ⟨rfl, bt⟩
      have hx := below_cell bt hgr HX.out.1
      have hx2 := below_cell bt hgr HX.out.2.1
      have hz := below_frozen bt hgr HX.out.2.2.1
      have hzz := below_frozen bt hgr HX.out.2.2.2
      have zt := bt.size
      have BT := hidIt bt
      clear bt hr hr2
      go_wp2
      go_roundw
      case rel =>
        have l := gones_len L
        have hkk : w.heap.size < wt.heap.size := by omega
        refine ⟨k + 1, by omega, by go_num, by simp; omega, ((below_step hbw (BT.out.mono (by omega))).setCell (Nat.le_refl _) _).setCell (Nat.le_refl _) _, ⟨fun j hj hjk => ?_, fun j hj1 hj2 => ?_, fun j => ?_⟩⟩
        · by_cases ej : j = k * 2 + 1
          · subst ej
            refine (World.cell?_setCell_same _ _ _ (by rw [World.cell?_setCell_other _ _ _ _ (by simp <;> omega)]; exact hx2)).trans ?_
            rw [← HY.out.2, List.getElem?_eq_getElem hj]
          · rw [World.cell?_setCell_other _ _ _ _ (by simp <;> omega)]
            by_cases ej2 : j = k * 2
            · subst ej2
              refine (World.cell?_setCell_same _ _ _ hx).trans ?_
              rw [← HY.out.1, List.getElem?_eq_getElem hj]
            · rw [World.cell?_setCell_other _ _ _ _ (by simp <;> omega)]
              exact below_cell BT.out hgr (HS.out.1 j hj (by omega))
        · rw [World.cell?_setCell_other _ _ _ _ (by simp <;> omega), World.cell?_setCell_other _ _ _ _ (by simp <;> omega)]
          obtain ⟨z, hz⟩ := HS.out.2.1 j (by omega) hj2
          exact ⟨z, below_cell BT.out hgr hz⟩
        · rw [World.frozen?_setCell, World.frozen?_setCell]; exact below_frozen BT.out hgr (HS.out.2.2 j)
      case measure => simp [intOf]; omega
    · go_wp2
      go_ret
      refine ⟨.slice (some ⟨w.heap.size, 0, none⟩) L.length L.length, rfl, ⟨_, L.length, rfl, Nat.le_refl _, .inr ⟨w.heap.size, rfl, Nat.le_refl _, hgr, fun j hj => ?_, HS.out.2.2⟩⟩, hbw⟩
      have l := gones_len L
      exact HS.out.1 j hj (by omega)

theorem to_gones_zero (a : Option Addr) (c : Nat) (w : World) :
    Calls Try.prog 35 #[.slice a 0 c] w fun e w' => ∃ v', e = .returned v' ∧ Rw w' w.heap.size w'.heap.size v' 0 [] ∧ Below w.heap.size w w' := by
  obtain ⟨i0, hi, hz0, hz1, hz2⟩ := info_parts infoGone
  go_enter Try.func35, Try.ntmps35
  go_wp2_with (at_make; refine wpList_make_full _ rfl _ _ 29 rfl w.heap.size 65 i0 (.agg #[.int .i64 0, .int .i64 0]) 2 Try.underlying29 hi hz0 hz1 .i64 .i64 _ _ 0 rfl rfl rfl rfl (by omega) (by unfold maxLen; omega) (Nat.le_refl _) ?_; intro w1 hown hgrow)
  have hb1 : Below w.heap.size w w1 := (Below.refl _ _).grown hgrow (Nat.le_refl _) (fun k hk => by cases hk)
  clear hown hgrow
  go_wp2
  go_loop [4] (fun i => i = .int .i64 0) (fun _ => 0)
  case atStart => rfl
  case round =>
    subst hrel
    go_wp2
    go_ret
    exact ⟨.slice (some ⟨w.heap.size, 0, none⟩) 0 0, rfl, ⟨_, 0, rfl, Nat.le_refl _, .inl rfl⟩, hb1⟩

theorem to_gones (w : World) (v : Value) (L : List (Int × Int)) (hn : L.length ≤ 4194304) (h : PIn w v L) :
    Calls Try.prog 35 #[v] w fun e w' => ∃ v', e = .returned v' ∧ Rw w' w.heap.size w'.heap.size v' L.length (gones L) ∧ Below w.heap.size w w' := by
  obtain ⟨a, cap, rfl, -, h⟩ := h
  rcases h with rfl | ⟨b, off, rfl, h1, h2⟩
  · exact to_gones_zero a cap w
  · by_cases h0 : 0 < L.length
    · exact to_gones_some b off cap L w hn h0 h1 h2
    · obtain rfl : L = [] := List.length_eq_zero_iff.1 (by omega)
      exact to_gones_zero _ cap w

end Go.Proofs.Ytikliofkplbdpaa
