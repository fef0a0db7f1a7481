/- Rows of pairs: copied, held against one another, marked, looked at again. -/
import Derived.Test.YtikliofkplbdpaaRows
import Derived.WalkKit
import Derived.ProofKit
import Derived.OpenShut
import Derived.ShutString
import Derived.Test.YtikliofkplbdpaaAgePlain
import Derived.Deep.RegionHeld3
namespace Go.Proofs.Ytikliofkplbdpaa
open Go.ChangeShapes Go.WideShapes Go.ChangeAt Go.RowKit
set_option linter.unusedVariables false

theorem infoGone : (Try.prog.info? 65).map (fun i => (i.zero, i.size, i.bytes)) = some (some (.agg #[.int .i64 0, .int .i64 0]), 2, 16) := by kernel_rfl
theorem held_gones_zero (a : Option Addr) (c k0 : Nat) (w : World) :
    Calls Try.prog 41 #[.slice a 0 c, .int .i64 k0] w fun e w' => e = .returned (.int .i64 k0) ∧ w' = w := by
  go_enter Try.func41, Try.ntmps41
  go_wp2
  go_loop [5, 1] (fun i k => i = .int .i64 0 ∧ k = .int .i64 k0) (fun _ _ => 0)
  case atStart => exact ⟨rfl, rfl⟩
  case round =>
    obtain ⟨rfl, rfl⟩ := hrel
    go_wp2
    go_ret
    exact ⟨rfl, rfl⟩
theorem mark_gones_zero (a : Option Addr) (c k0 : Nat) (w : World) :
    Calls Try.prog 40 #[.slice a 0 c, .int .i64 k0] w fun e w' => e = .returned (.int .i64 k0) ∧ w' = w := by
  go_enter Try.func40, Try.ntmps40
  go_wp2
  go_loop [5, 1] (fun i k => i = .int .i64 0 ∧ k = .int .i64 k0) (fun _ _ => 0)
  case atStart => exact ⟨rfl, rfl⟩
  case round =>
    obtain ⟨rfl, rfl⟩ := hrel
    go_wp2
    go_ret
    exact ⟨rfl, rfl⟩

set_option maxHeartbeats 800000 in
set_option maxRecDepth 100000 in
theorem held_gones_some (g c n k0 : Nat) (w : World) (hn : n ≤ 4194304) (h2 : k0 ≤ 8388608)
    (hA : ∀ j, j < n → w.cell? ⟨g, j * 2, none⟩ = some (.int .i64 ((k0 + j * 2 : Nat) : Int)) ∧ w.cell? ⟨g, j * 2 + 1, none⟩ = some (.int .i64 ((k0 + j * 2 + 1 : Nat) : Int))) :
    Calls Try.prog 41 #[.slice (some ⟨g, 0, none⟩) n c, .int .i64 k0] w fun e w' => e = .returned (.int .i64 ((k0 + n * 2 : Nat) : Int)) ∧ w' = w := by
  have HA : Hid _ := hA
  clear hA
  go_enter Try.func41, Try.ntmps41
  go_wp2
  go_loop [5, 1] (fun i kk => ∃ k : Nat, k ≤ n ∧ i = .int .i64 k ∧ kk = .int .i64 ((k0 + k * 2 : Nat) : Int)) (fun i _ => n - (intOf i).toNat)
  case atStart => exact ⟨0, Nat.zero_le _, rfl, rfl⟩
  case round =>
    obtain ⟨k, hk, rfl, rfl⟩ := hrel
    by_cases hlt : k < n
    · obtain ⟨hx1, hx2⟩ := HA.out k hlt
      have hlt' : (k : Int) < (n : Int) := by omega
      go_wp2
      go_round
      case rel => exact ⟨k + 1, by omega, by go_num, by go_num⟩
      case measure => simp [intOf]; omega
    · have HK : Hid (k = n) := (by omega : k = n)
      go_wp2
      go_ret
      exact ⟨ret_ints (by rw [HK.out]), rfl⟩

set_option maxHeartbeats 800000 in
set_option maxRecDepth 100000 in
theorem mark_gones_some (g c n k0 : Nat) (w : World) (hn : n ≤ 4194304) (h2 : k0 ≤ 8388608) (hg : g < w.heap.size)
    (hA : ∀ j, j < n * 2 → ∃ x, w.cell? ⟨g, j, none⟩ = some (.int .i64 x)) (hF : ∀ j, w.frozen? ⟨g, j, none⟩ = false) :
    Calls Try.prog 40 #[.slice (some ⟨g, 0, none⟩) n c, .int .i64 k0] w fun e w' => e = .returned (.int .i64 ((k0 + n * 2 : Nat) : Int)) ∧
      (∀ j, j < n * 2 → w'.cell? ⟨g, j, none⟩ = some (.int .i64 ((k0 + j : Nat) : Int))) ∧ (∀ j, w'.frozen? ⟨g, j, none⟩ = false) ∧ w.grownBy w' (some g) := by
  have HA : Hid _ := hA
  have HF : Hid _ := hF
  clear hA hF
  go_enter Try.func40, Try.ntmps40
  go_wp2
  go_loopw [5, 1] (fun i kk wr => ∃ k : Nat, k ≤ n ∧ i = .int .i64 k ∧ kk = .int .i64 ((k0 + k * 2 : Nat) : Int) ∧ g < wr.heap.size ∧ w.grownBy wr (some g) ∧ Hid ((∀ j, j < k * 2 → wr.cell? ⟨g, j, none⟩ = some (.int .i64 ((k0 + j : Nat) : Int))) ∧ (∀ j, k * 2 ≤ j → j < n * 2 → ∃ x, wr.cell? ⟨g, j, none⟩ = some (.int .i64 x)) ∧ ∀ j, wr.frozen? ⟨g, j, none⟩ = false)) (fun i _ _ => n - (intOf i).toNat)
  case atStart => exact ⟨0, Nat.zero_le _, rfl, rfl, hg, World.grownBy.refl _ _, ⟨fun j hj => by omega, fun j _ hj => HA.out j hj, HF.out⟩⟩
  case round =>
    obtain ⟨k, hk, rfl, rfl, hgr, hb, HS⟩ := hrel
    by_cases hlt : k < n
    · obtain ⟨x, hx⟩ := HS.out.2.1 (k * 2) (Nat.le_refl _) (by omega)
      obtain ⟨y, hy⟩ := HS.out.2.1 (k * 2 + 1) (by omega) (by omega)
      have hz := HS.out.2.2 (k * 2)
      have hz2 := HS.out.2.2 (k * 2 + 1)
      have hlt' : (k : Int) < (n : Int) := by omega
      go_wp2
      go_roundw
      case rel =>
        refine ⟨k + 1, by omega, by go_num, by go_num, by simp; omega, grown_set (grown_set hb _ _) _ _, ⟨fun j hj => ?_, fun j hj1 hj2 => ?_, fun j => ?_⟩⟩
        · by_cases ej : j = k * 2 + 1
          · subst ej; refine (World.cell?_setCell_same _ _ _ (by rw [World.cell?_setCell_other _ _ _ _ (by simp <;> omega)]; exact hy)).trans ?_; simp; omega
          · rw [World.cell?_setCell_other _ _ _ _ (by simp <;> omega)]
            by_cases ej2 : j = k * 2
            · subst ej2; refine (World.cell?_setCell_same _ _ _ hx).trans ?_; simp
            · rw [World.cell?_setCell_other _ _ _ _ (by simp <;> omega)]; exact HS.out.1 j (by omega)
        · rw [World.cell?_setCell_other _ _ _ _ (by simp <;> omega), World.cell?_setCell_other _ _ _ _ (by simp <;> omega)]; exact HS.out.2.1 j (by omega) hj2
        · rw [World.frozen?_setCell, World.frozen?_setCell]; exact HS.out.2.2 j
      case measure => simp [intOf]; omega
    · have HK : Hid (k = n) := (by omega : k = n)
      go_wp2
      go_ret
      exact ⟨ret_ints (by rw [HK.out]), by rw [← HK.out]; exact HS.out.1, HS.out.2.2, hb⟩

theorem imarks_at (k0 n j : Nat) (hj : j < n) : (imarks k0 n)[j]'(by rw [imarks_len]; exact hj) = .int .i64 ((k0 + j : Nat) : Int) := by simp [imarks]
theorem mark_gones (w : World) (lo hi : Nat) (v : Value) (L : List (Int × Int)) (k0 : Nat) (hn : L.length ≤ 4194304) (h2 : k0 ≤ 8388608) (hh : hi ≤ w.heap.size) (r : Rw w lo hi v L.length (gones L)) :
    Calls Try.prog 40 #[v, .int .i64 k0] w fun e w' => e = .returned (.int .i64 ((k0 + L.length * 2 : Nat) : Int)) ∧ Rw w' lo hi v L.length (imarks k0 (L.length * 2)) ∧ ∃ g, w.grownBy w' g ∧ ∀ k, g = some k → 0 < L.length ∧ v.ownBlock = some k ∧ lo ≤ k ∧ k < hi := by
  obtain ⟨a, c, rfl, hcp, q1⟩ := r
  by_cases h0 : L.length = 0
  · rw [h0] at hcp ⊢
    refine (mark_gones_zero a c k0 w).mono ?_
    rintro e w' ⟨rfl, rfl⟩
    exact ⟨by simp, ⟨a, c, rfl, hcp, .inl (by simp [imarks])⟩, none, World.grownBy.refl _ _, fun k h => by cases h⟩
  · rcases q1 with q1 | ⟨g, rfl, g1, g2, q1, q2⟩
    · exact absurd (by have := congrArg List.length q1; rw [gones_len] at this; simp only [List.length_nil] at this; omega) h0
    · have l := gones_len L
      refine (mark_gones_some g c L.length k0 w hn h2 (by omega) (fun j hj => ?_) q2).mono ?_
      · have hm := List.getElem_mem (l := gones L) (n := j) (by omega)
        have := q1 j (by omega)
        simp only [gones, List.mem_flatMap] at hm
        obtain ⟨p, -, hm⟩ := hm
        simp only [List.mem_cons, List.not_mem_nil, or_false] at hm
        rcases hm with hm | hm
        · exact ⟨p.1, this.trans (congrArg some hm)⟩
        · exact ⟨p.2, this.trans (congrArg some hm)⟩
      · rintro e w' ⟨rfl, m1, m2, m3⟩
        exact ⟨rfl, ⟨_, c, rfl, hcp, .inr ⟨g, rfl, g1, g2, fun j hj => by
          rw [imarks_len] at hj
          rw [m1 j hj, imarks_at _ _ _ hj], m2⟩⟩, some g, m3, fun k h => by cases h; exact ⟨by omega, rfl, g1, g2⟩⟩
theorem held_gones (w : World) (lo hi : Nat) (v : Value) (n k0 : Nat) (hn : n ≤ 4194304) (h2 : k0 ≤ 8388608) (r : Rw w lo hi v n (imarks k0 (n * 2))) :
    Calls Try.prog 41 #[v, .int .i64 k0] w fun e w' => e = .returned (.int .i64 ((k0 + n * 2 : Nat) : Int)) ∧ w' = w := by
  obtain ⟨a, c, rfl, -, q1⟩ := r
  by_cases h0 : n = 0
  · subst h0
    exact held_gones_zero a c k0 w
  · rcases q1 with q1 | ⟨g, rfl, g1, g2, q1, q2⟩
    · exact absurd (by have := congrArg List.length q1; rw [imarks_len] at this; simp only [List.length_nil] at this; omega) h0
    · refine held_gones_some g c n k0 w hn h2 (fun j hj => ⟨?_, ?_⟩)
      · rw [q1 (j * 2) (by rw [imarks_len]; omega), imarks_at _ _ _ (by omega)]
      · rw [q1 (j * 2 + 1) (by rw [imarks_len]; omega), imarks_at _ _ _ (by omega)]; rfl

theorem sz_gones (a : Option Addr) (n c : Nat) (l : Int) (w : World) (hn : n ≤ 9223372036854775807) (h1 : 0 ≤ l) (h2 : l ≤ 4194304) :
    Calls Try.prog 30 #[.slice a n c, .int .i64 l] w fun e w' => e = .returned (.int .i64 (if l < n then -1 else l - n)) ∧ w' = w := by
  by_cases h : l < n
  · rw [if_pos h]
    go_enter Try.func30, Try.ntmps30
    go_wp2
    go_ret
    exact ⟨rfl, rfl⟩
  · rw [if_neg h]
    go_enter Try.func30, Try.ntmps30
    go_wp2
    go_ret
    exact ⟨rfl, rfl⟩

set_option maxRecDepth 100000 in
theorem to_gone (x y : Int) (w : World) :
    Calls Try.prog 44 #[.agg #[.int .i64 x, .int .i64 y]] w fun e w' => e = .returned (.agg #[.int .i64 x, .int .i64 y]) ∧ Below w.heap.size w w' := by
  go_enter Try.func44, Try.ntmps44
  go_wp2
  refine bodyPost_ret (v := .agg #[.int .i64 x, .int .i64 y]) (by simp [results, Try.results44, go_sem]) rfl ⟨rfl, ?_⟩
  repeat (first | exact Below.refl _ _ | refine Below.setCell ?_ (by simp <;> omega) _ | refine Below.alloc ?_ (by simp <;> omega) _)

set_option maxRecDepth 100000 in
theorem eq_gone (x y : Int) (w : World) :
    Calls Try.prog 50 #[.agg #[.int .i64 x, .int .i64 y], .agg #[.int .i64 x, .int .i64 y]] w fun e w' => e = .returned (.bool true) ∧ Below w.heap.size w w' := by
  go_enter Try.func50, Try.ntmps50
  go_wp2
  go_ret
  exact ⟨rfl, (((Below.refl _ _).alloc (Nat.le_refl _) _).alloc (by simp) _)⟩

end Go.Proofs.Ytikliofkplbdpaa
