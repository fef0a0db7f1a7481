/- Rows of texts: held against one another, marked, looked at again. -/
import Derived.Test.YtjcbgegdccaoaagRows
import Derived.WalkKit
import Derived.ProofKit
import Derived.OpenShut
import Derived.ShutString
import Derived.Test.YtjcbgegdccaoaagSliceRow
import Derived.Test.YtjcbgegdccaoaagMarkText
import Derived.Deep.QuietTactic
import Derived.BigQuiet
import Derived.Deep.RegionWith
namespace Go.Proofs.Ytjcbgegdccaoaag
open Go.ChangeShapes Go.WideShapes Go.ChangeAt Go.RowKit
set_option linter.unusedVariables false

theorem ret_boolx {a b : Bool} (h : a = b) : Ending.returned (.bool a) = .returned (.bool b) := by rw [h]
theorem ret_ints {k : IntKind} {a b : Int} (h : a = b) : Ending.returned (.int k a) = .returned (.int k b) := by rw [h]

set_option maxRecDepth 100000 in
theorem eq_str_zero (a b : Option Addr) (c d : Nat) (w : World) :
    Calls Try.prog 16 #[.slice a 0 c, .slice b 0 d] w fun e w' => e = .returned (.bool true) ∧ ∃ n, w' = w.drewN n := by
  go_enter Try.func16, Try.ntmps16
  go_wp2
  go_loop [5] (fun i => i = .int .i64 0) (fun _ => 0)
  case atStart => rfl
  case round =>
    subst hrel
    go_wp2
    go_ret
    exact ⟨rfl, 0, rfl⟩

set_option maxHeartbeats 800000 in
set_option maxRecDepth 100000 in
theorem eq_str_some (g h c d : Nat) (ps : List ByteArray) (w : World) (hn : ps.length ≤ 4194304) (h0 : 0 < ps.length)
    (hA : ∀ j (hj : j < ps.length), w.cell? ⟨g, j, none⟩ = some (.string ps[j])) (hB : ∀ j (hj : j < ps.length), w.cell? ⟨h, j, none⟩ = some (.string ps[j])) :
    Calls Try.prog 16 #[.slice (some ⟨g, 0, none⟩) ps.length c, .slice (some ⟨h, 0, none⟩) ps.length d] w fun e w' => e = .returned (.bool true) ∧ ∃ n, w' = w.drewN n := by
  have HA : Hid _ := hA
  have HB : Hid _ := hB
  clear hA hB
  go_enter Try.func16, Try.ntmps16
  go_wp2
  go_loopw [5] (fun i wr => ∃ k n : Nat, k ≤ ps.length ∧ i = .int .i64 k ∧ wr = w.drewN n) (fun i _ => ps.length - (intOf i).toNat)
  case atStart => exact ⟨0, 0, Nat.zero_le _, rfl, rfl⟩
  case round =>
    obtain ⟨k, n, hk, rfl, rfl⟩ := hrel
    by_cases hlt : k < ps.length
    · have cA := HA.out k hlt
      have cB := HB.out k hlt
      have hlt' : (k : Int) < (ps.length : Int) := by omega
      generalize ps[k] = x at cA cB
      go_wp2
      go_quiet (fail)
      go_wp2
      go_roundw
      case rel => exact ⟨k + 1, _, by omega, by go_num, rfl⟩
      case measure => simp [intOf]; omega
    · go_wp2
      go_ret
      exact ⟨rfl, n, rfl⟩

theorem eq_str (w : World) (l1 h1 l2 h2 : Nat) (v1 v2 : Value) (ps : List ByteArray) (hn : ps.length ≤ 4194304) (r1 : Row w l1 h1 v1 (ps.map Value.string)) (r2 : Row w l2 h2 v2 (ps.map Value.string)) :
    Calls Try.prog 16 #[v1, v2] w fun e w' => e = .returned (.bool true) ∧ ∃ n, w' = w.drewN n := by
  obtain ⟨a, c, rfl, q1⟩ := r1
  obtain ⟨b, d, rfl, q2⟩ := r2
  rw [List.length_map]
  rcases q1 with q1 | ⟨g, rfl, _, _, q1, _⟩
  · have e : ps = [] := by simpa using q1
    subst e
    exact eq_str_zero a b c d w
  · rcases q2 with q2 | ⟨h, rfl, _, _, q2, _⟩
    · have e : ps = [] := by simpa using q2
      subst e
      exact eq_str_zero _ b c d w
    · by_cases h0 : 0 < ps.length
      · exact eq_str_some g h c d ps w hn h0 (fun j hj => by have := q1 j (by simpa using hj); rw [List.getElem_map] at this; exact this) (fun j hj => by have := q2 j (by simpa using hj); rw [List.getElem_map] at this; exact this)
      · have e : ps.length = 0 := by omega
        rw [e]
        exact eq_str_zero _ _ c d w

theorem mark_str_zero (a : Option Addr) (c k0 : Nat) (w : World) :
    Calls Try.prog 17 #[.slice a 0 c, .int .i64 k0] w fun e w' => e = .returned (.int .i64 k0) ∧ w' = w := by
  go_enter Try.func17, Try.ntmps17
  go_wp2
  go_loop [5, 1] (fun i k => i = .int .i64 0 ∧ k = .int .i64 k0) (fun _ _ => 0)
  case atStart => exact ⟨rfl, rfl⟩
  case round =>
    obtain ⟨rfl, rfl⟩ := hrel
    go_wp2
    go_ret
    exact ⟨rfl, rfl⟩
theorem held_str_zero (a : Option Addr) (c k0 : Nat) (w : World) :
    Calls Try.prog 18 #[.slice a 0 c, .int .i64 k0] w fun e w' => e = .returned (.int .i64 k0) ∧ w' = w := by
  go_enter Try.func18, Try.ntmps18
  go_wp2
  go_loop [5, 1] (fun i k => i = .int .i64 0 ∧ k = .int .i64 k0) (fun _ _ => 0)
  case atStart => exact ⟨rfl, rfl⟩
  case round =>
    obtain ⟨rfl, rfl⟩ := hrel
    go_wp2
    go_ret
    exact ⟨rfl, rfl⟩

set_option maxHeartbeats 800000 in
set_option maxRecDepth 100000 in
theorem mark_str_some (g c n k0 : Nat) (w : World) (hn : n ≤ 1048577) (h1 : 1 ≤ k0) (h2 : k0 ≤ 1048577) (hg : g < w.heap.size)
    (hA : ∀ j, j < n → ∃ x, w.cell? ⟨g, j, none⟩ = some (.string x)) (hF : ∀ j, w.frozen? ⟨g, j, none⟩ = false) :
    Calls Try.prog 17 #[.slice (some ⟨g, 0, none⟩) n c, .int .i64 k0] w fun e w' => e = .returned (.int .i64 ((k0 + n : Nat) : Int)) ∧
      (∀ j, j < n → w'.cell? ⟨g, j, none⟩ = some (.string (mt (k0 + j)))) ∧ (∀ j, w'.frozen? ⟨g, j, none⟩ = false) ∧ Below g w w' := by
  have HA : Hid _ := hA
  have HF : Hid _ := hF
  clear hA hF
  go_enter Try.func17, Try.ntmps17
  go_wp2
  go_loopw [5, 1] (fun i kk wr => ∃ k : Nat, k ≤ n ∧ i = .int .i64 k ∧ kk = .int .i64 ((k0 + k : Nat) : Int) ∧ g < wr.heap.size ∧ Below g w wr ∧ Hid ((∀ j, j < k → wr.cell? ⟨g, j, none⟩ = some (.string (mt (k0 + j)))) ∧ (∀ j, k ≤ j → j < n → ∃ x, wr.cell? ⟨g, j, none⟩ = some (.string x)) ∧ ∀ j, wr.frozen? ⟨g, j, none⟩ = false)) (fun i _ _ => n - (intOf i).toNat)
  case atStart => exact ⟨0, Nat.zero_le _, rfl, rfl, hg, Below.refl _ _, ⟨fun j hj => by omega, fun j _ hj => HA.out j hj, HF.out⟩⟩
  case round =>
    obtain ⟨k, hk, rfl, rfl, hgr, hb, HS⟩ := hrel
    by_cases hlt : k < n
    · obtain ⟨x, hx⟩ := HS.out.2.1 k (Nat.le_refl _) hlt
      have hz := HS.out.2.2 k
      have hlt' : (k : Int) < (n : Int) := by omega
      have HX : Hid _ := hx
      have HZ : Hid _ := hz
      clear hx hz
      go_wp2_with (go_at_call 28; refine (mark_text (k0 + k) _ (by omega) (by omega)).mono ?_; rintro e w1 ⟨rfl, hb1⟩; have cx := (hb1.cell (p := ⟨g, k, none⟩) hgr).trans HX.out; have fx := (hb1.frozen (p := ⟨g, k, none⟩) hgr).trans HZ.out)
      go_roundw
      case rel =>
        have hs1 := hb1.size
        refine ⟨k + 1, by omega, by go_num, by go_num, by simp; omega, (hb.trans (hb1.mono (by omega))).setCell (Nat.le_refl _) _, ⟨fun j hj => ?_, fun j hj1 hj2 => ?_, fun j => ?_⟩⟩
        · by_cases ej : j = k
          · subst ej; exact World.cell?_setCell_same _ _ _ cx
          · rw [World.cell?_setCell_other _ _ _ _ (by simp <;> omega), hb1.cell (p := ⟨g, j, none⟩) hgr]; exact HS.out.1 j (by omega)
        · rw [World.cell?_setCell_other _ _ _ _ (by simp <;> omega), hb1.cell (p := ⟨g, j, none⟩) hgr]; exact HS.out.2.1 j (by omega) hj2
        · rw [World.frozen?_setCell, hb1.frozen (p := ⟨g, j, none⟩) hgr]; exact HS.out.2.2 j
      case measure => simp [intOf]; omega
    · have HK : Hid (k = n) := (by omega : k = n)
      go_wp2
      go_ret
      exact ⟨ret_ints (by rw [HK.out]), by rw [← HK.out]; exact HS.out.1, HS.out.2.2, hb⟩

set_option maxHeartbeats 800000 in
set_option maxRecDepth 100000 in
theorem held_str_some (g c n k0 : Nat) (w : World) (hn : n ≤ 1048577) (h1 : 1 ≤ k0) (h2 : k0 ≤ 1048577) (hg : g < w.heap.size)
    (hA : ∀ j, j < n → w.cell? ⟨g, j, none⟩ = some (.string (mt (k0 + j)))) :
    Calls Try.prog 18 #[.slice (some ⟨g, 0, none⟩) n c, .int .i64 k0] w fun e w' => e = .returned (.int .i64 ((k0 + n : Nat) : Int)) ∧ Below w.heap.size w w' := by
  have HA : Hid _ := hA
  clear hA
  go_enter Try.func18, Try.ntmps18
  go_wp2
  go_loopw [5, 1] (fun i kk wr => ∃ k : Nat, k ≤ n ∧ i = .int .i64 k ∧ kk = .int .i64 ((k0 + k : Nat) : Int) ∧ Below w.heap.size w wr) (fun i _ _ => n - (intOf i).toNat)
  case atStart => exact ⟨0, Nat.zero_le _, rfl, rfl, Below.refl _ _⟩
  case round =>
    obtain ⟨k, hk, rfl, rfl, hb⟩ := hrel
    have hsz := hb.size
    by_cases hlt : k < n
    · have hx := (hb.cell (p := ⟨g, k, none⟩) hg).trans (HA.out k hlt)
      have hlt' : (k : Int) < (n : Int) := by omega
      have hgr : g < wr.heap.size := by omega
      generalize hmt : mt (k0 + k) = y at hx
      have HM : Hid _ := hmt
      clear hmt
      go_wp2
      go_region_with (go_at_call 28; refine (mark_text (k0 + k) _ (by omega) (by omega)).mono ?_; rintro e w1 ⟨rfl, hb1⟩; have cx := (hb1.cell (p := ⟨g, k, none⟩) hgr).trans hx; rw [HM.out])
      all_goals
        go_wp2
        go_roundw
        case rel => exact ⟨k + 1, by omega, by go_num, by go_num, hb.drew.trans (hb1.mono hsz)⟩
        case measure => simp [intOf]; omega
    · have HK : Hid (k = n) := (by omega : k = n)
      go_wp2
      go_ret
      exact ⟨ret_ints (by rw [HK.out]), hb⟩

def marks (k0 n : Nat) : List Value := (List.range n).map fun j => Value.string (mt (k0 + j))
theorem marks_len (k0 n : Nat) : (marks k0 n).length = n := by simp [marks]
theorem mark_str (w : World) (lo hi : Nat) (v : Value) (ps : List ByteArray) (k0 : Nat) (hn : ps.length ≤ 1048577) (h1 : 1 ≤ k0) (h2 : k0 ≤ 1048577) (hh : hi ≤ w.heap.size) (r : Row w lo hi v (ps.map Value.string)) :
    Calls Try.prog 17 #[v, .int .i64 k0] w fun e w' => e = .returned (.int .i64 ((k0 + ps.length : Nat) : Int)) ∧ Row w' lo hi v (marks k0 ps.length) ∧ Below lo w w' := by
  obtain ⟨a, c, rfl, q1⟩ := r
  rw [List.length_map]
  by_cases h0 : ps.length = 0
  · rw [h0]
    refine (mark_str_zero a c k0 w).mono ?_
    rintro e w' ⟨rfl, rfl⟩
    exact ⟨rfl, ⟨a, c, rfl, .inl rfl⟩, Below.refl _ _⟩
  · rcases q1 with q1 | ⟨g, rfl, g1, g2, q1, q2⟩
    · exact absurd (by simpa using congrArg List.length q1) h0
    · refine (mark_str_some g c ps.length k0 w hn h1 h2 (by omega) (fun j hj => ⟨ps[j], by have := q1 j (by simpa using hj); rw [List.getElem_map] at this; exact this⟩) q2).mono ?_
      rintro e w' ⟨rfl, m1, m2, m3⟩
      exact ⟨rfl, ⟨_, c, by rw [marks_len], .inr ⟨g, rfl, g1, g2, fun j hj => by
        rw [m1 j (by simpa [marks] using hj)]
        simp [marks], m2⟩⟩, m3.mono g1⟩
theorem held_str (w : World) (lo hi : Nat) (v : Value) (n k0 : Nat) (hn : n ≤ 1048577) (h1 : 1 ≤ k0) (h2 : k0 ≤ 1048577) (hh : hi ≤ w.heap.size) (r : Row w lo hi v (marks k0 n)) :
    Calls Try.prog 18 #[v, .int .i64 k0] w fun e w' => e = .returned (.int .i64 ((k0 + n : Nat) : Int)) ∧ Below w.heap.size w w' := by
  obtain ⟨a, c, rfl, q1⟩ := r
  rw [marks_len]
  by_cases h0 : n = 0
  · subst h0
    refine (held_str_zero a c k0 w).mono ?_
    rintro e w' ⟨rfl, rfl⟩
    exact ⟨rfl, Below.refl _ _⟩
  · rcases q1 with q1 | ⟨g, rfl, g1, g2, q1, q2⟩
    · exact absurd (by have := congrArg List.length q1; rw [marks_len] at this; simpa using this) h0
    · exact held_str_some g c n k0 w hn h1 h2 (by omega) (fun j hj => by
        rw [q1 j (by rw [marks_len]; exact hj)]
        simp [marks])

end Go.Proofs.Ytjcbgegdccaoaag
