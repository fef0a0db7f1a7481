/- Rows of integers: copied, held against one another, marked, looked at again. -/
import Derived.Test.YtikliofkplbdpaaRows
import Derived.WalkKit
import Derived.ProofKit
import Derived.OpenShut
import Derived.ShutString
import Derived.Test.YtikliofkplbdpaaOutPlain
import Derived.Deep.QuietTactic
import Derived.BigQuiet
import Derived.Laws.OwnMore
namespace Go.Proofs.Ytikliofkplbdpaa
open Go.ChangeShapes Go.WideShapes Go.ChangeAt Go.RowKit
set_option linter.unusedVariables false

theorem ret_boolx {a b : Bool} (h : a = b) : Ending.returned (.bool a) = .returned (.bool b) := by rw [h]
theorem ret_ints {k : IntKind} {a b : Int} (h : a = b) : Ending.returned (.int k a) = .returned (.int k b) := by rw [h]
abbrev ints (xs : List Int) : List Value := xs.map (Value.int .i64)
theorem ints_len (xs : List Int) : (ints xs).length = xs.length := by simp
def InRow (w : World) (v : Value) (xs : List Int) : Prop :=
  ∃ a cap, v = .slice a xs.length cap ∧ (xs = [] ∨ ∃ b off, a = some ⟨b, off, none⟩ ∧ b < w.heap.size ∧ ∀ j (hj : j < xs.length), w.cell? ⟨b, off + j, none⟩ = some (.int .i64 xs[j]))
theorem InRow.below {w w' : World} {v : Value} {xs : List Int} (h : InRow w v xs) (hb : Below w.heap.size w w') : InRow w' v xs := by
  obtain ⟨a, cap, hv, h⟩ := h
  refine ⟨a, cap, hv, ?_⟩
  rcases h with h | ⟨b, off, ha, h1, h2⟩
  · exact .inl h
  · exact .inr ⟨b, off, ha, Nat.lt_of_lt_of_le h1 hb.size, fun j hj => (hb.cell (p := ⟨b, off + j, none⟩) h1).trans (h2 j hj)⟩
theorem info3 : (Try.prog.info? 3).map (fun i => (i.zero, i.size, i.bytes)) = some (some (.int .i64 0), 1, 8) := by kernel_rfl

theorem eq_int_zero (a b : Option Addr) (c d : Nat) (w : World) :
    Calls Try.prog 24 #[.slice a 0 c, .slice b 0 d] w fun e w' => e = .returned (.bool true) ∧ ∃ n, w' = w.drewN n := by
  go_enter Try.func24, Try.ntmps24
  go_wp2
  go_loop [5] (fun i => i = .int .i64 0) (fun _ => 0)
  case atStart => rfl
  case round =>
    subst hrel
    go_wp2
    go_ret
    exact ⟨rfl, 0, rfl⟩

set_option maxHeartbeats 800000 in
set_option maxRecDepth 100000 in
theorem eq_int_some (g h c d : Nat) (ps : List Int) (w : World) (hn : ps.length ≤ 4194304) (h0 : 0 < ps.length)
    (hA : ∀ j (hj : j < ps.length), w.cell? ⟨g, j, none⟩ = some (.int .i64 ps[j])) (hB : ∀ j (hj : j < ps.length), w.cell? ⟨h, j, none⟩ = some (.int .i64 ps[j])) :
    Calls Try.prog 24 #[.slice (some ⟨g, 0, none⟩) ps.length c, .slice (some ⟨h, 0, none⟩) ps.length d] w fun e w' => e = .returned (.bool true) ∧ ∃ n, w' = w.drewN n := by
  have HA : Hid _ := hA
  have HB : Hid _ := hB
  clear hA hB
  go_enter Try.func24, Try.ntmps24
  go_wp2
  go_loopw [5] (fun i wr => ∃ k n : Nat, k ≤ ps.length ∧ i = .int .i64 k ∧ wr = w.drewN n) (fun i _ => ps.length - (intOf i).toNat)
  case atStart => exact ⟨0, 0, Nat.zero_le _, rfl, rfl⟩
  case round =>
    obtain ⟨k, n, hk, rfl, rfl⟩ := hrel
    by_cases hlt : k < ps.length
    · have cA := HA.out k hlt
      have cB := HB.out k hlt
      have hlt' : (k : Int) < (ps.length : Int) := by omega
      generalize ps[k] = x at cA cB
      go_wp2
      go_quiet (fail)
      go_wp2
      go_roundw
      case rel => exact ⟨k + 1, _, by omega, by go_num, rfl⟩
      case measure => simp [intOf]; omega
    · go_wp2
      go_ret
      exact ⟨rfl, n, rfl⟩

theorem eq_int (w : World) (l1 h1 l2 h2 : Nat) (v1 v2 : Value) (ps : List Int) (hn : ps.length ≤ 4194304) (r1 : Row w l1 h1 v1 (ints ps)) (r2 : Row w l2 h2 v2 (ints ps)) :
    Calls Try.prog 24 #[v1, v2] w fun e w' => e = .returned (.bool true) ∧ ∃ n, w' = w.drewN n := by
  obtain ⟨a, c, rfl, q1⟩ := r1
  obtain ⟨b, d, rfl, q2⟩ := r2
  rw [ints_len]
  rcases q1 with q1 | ⟨g, rfl, _, _, q1, _⟩
  · have e : ps = [] := by simpa using q1
    subst e
    exact eq_int_zero a b c d w
  · rcases q2 with q2 | ⟨h, rfl, _, _, q2, _⟩
    · have e : ps = [] := by simpa using q2
      subst e
      exact eq_int_zero _ b c d w
    · by_cases h0 : 0 < ps.length
      · exact eq_int_some g h c d ps w hn h0 (fun j hj => by have := q1 j (by simpa using hj); rw [List.getElem_map] at this; exact this) (fun j hj => by have := q2 j (by simpa using hj); rw [List.getElem_map] at this; exact this)
      · have e : ps.length = 0 := by omega
        rw [e]
        exact eq_int_zero _ _ c d w

theorem mark_int_zero (a : Option Addr) (c k0 : Nat) (w : World) :
    Calls Try.prog 26 #[.slice a 0 c, .int .i64 k0] w fun e w' => e = .returned (.int .i64 k0) ∧ w' = w := by
  go_enter Try.func26, Try.ntmps26
  go_wp2
  go_loop [5, 1] (fun i k => i = .int .i64 0 ∧ k = .int .i64 k0) (fun _ _ => 0)
  case atStart => exact ⟨rfl, rfl⟩
  case round =>
    obtain ⟨rfl, rfl⟩ := hrel
    go_wp2
    go_ret
    exact ⟨rfl, rfl⟩
theorem held_int_zero (a : Option Addr) (c k0 : Nat) (w : World) :
    Calls Try.prog 28 #[.slice a 0 c, .int .i64 k0] w fun e w' => e = .returned (.int .i64 k0) ∧ w' = w := by
  go_enter Try.func28, Try.ntmps28
  go_wp2
  go_loop [5, 1] (fun i k => i = .int .i64 0 ∧ k = .int .i64 k0) (fun _ _ => 0)
  case atStart => exact ⟨rfl, rfl⟩
  case round =>
    obtain ⟨rfl, rfl⟩ := hrel
    go_wp2
    go_ret
    exact ⟨rfl, rfl⟩

set_option maxHeartbeats 800000 in
set_option maxRecDepth 100000 in
theorem mark_int_some (g c n k0 : Nat) (w : World) (hn : n ≤ 4194304) (h2 : k0 ≤ 4194304) (hg : g < w.heap.size)
    (hA : ∀ j, j < n → ∃ x, w.cell? ⟨g, j, none⟩ = some (.int .i64 x)) (hF : ∀ j, w.frozen? ⟨g, j, none⟩ = false) :
    Calls Try.prog 26 #[.slice (some ⟨g, 0, none⟩) n c, .int .i64 k0] w fun e w' => e = .returned (.int .i64 ((k0 + n : Nat) : Int)) ∧
      (∀ j, j < n → w'.cell? ⟨g, j, none⟩ = some (.int .i64 ((k0 + j : Nat) : Int))) ∧ (∀ j, w'.frozen? ⟨g, j, none⟩ = false) ∧ w.grownBy w' (some g) := by
  have HA : Hid _ := hA
  have HF : Hid _ := hF
  clear hA hF
  go_enter Try.func26, Try.ntmps26
  go_wp2
  go_loopw [5, 1] (fun i kk wr => ∃ k : Nat, k ≤ n ∧ i = .int .i64 k ∧ kk = .int .i64 ((k0 + k : Nat) : Int) ∧ g < wr.heap.size ∧ w.grownBy wr (some g) ∧ Hid ((∀ j, j < k → wr.cell? ⟨g, j, none⟩ = some (.int .i64 ((k0 + j : Nat) : Int))) ∧ (∀ j, k ≤ j → j < n → ∃ x, wr.cell? ⟨g, j, none⟩ = some (.int .i64 x)) ∧ ∀ j, wr.frozen? ⟨g, j, none⟩ = false)) (fun i _ _ => n - (intOf i).toNat)
  case atStart => exact ⟨0, Nat.zero_le _, rfl, rfl, hg, World.grownBy.refl _ _, ⟨fun j hj => by omega, fun j _ hj => HA.out j hj, HF.out⟩⟩
  case round =>
    obtain ⟨k, hk, rfl, rfl, hgr, hb, HS⟩ := hrel
    by_cases hlt : k < n
    · obtain ⟨x, hx⟩ := HS.out.2.1 k (Nat.le_refl _) hlt
      have hz := HS.out.2.2 k
      have hlt' : (k : Int) < (n : Int) := by omega
      go_wp2
      go_roundw
      case rel =>
        refine ⟨k + 1, by omega, by go_num, by go_num, by simp; omega, grown_set hb _ _, ⟨fun j hj => ?_, fun j hj1 hj2 => ?_, fun j => ?_⟩⟩
        · by_cases ej : j = k
          · subst ej; refine (World.cell?_setCell_same _ _ _ hx).trans ?_; simp
          · rw [World.cell?_setCell_other _ _ _ _ (by simp <;> omega)]; exact HS.out.1 j (by omega)
        · rw [World.cell?_setCell_other _ _ _ _ (by simp <;> omega)]; exact HS.out.2.1 j (by omega) hj2
        · rw [World.frozen?_setCell]; exact HS.out.2.2 j
      case measure => simp [intOf]; omega
    · have HK : Hid (k = n) := (by omega : k = n)
      go_wp2
      go_ret
      exact ⟨ret_ints (by rw [HK.out]), by rw [← HK.out]; exact HS.out.1, HS.out.2.2, hb⟩

set_option maxHeartbeats 800000 in
set_option maxRecDepth 100000 in
theorem held_int_some (g c n k0 : Nat) (w : World) (hn : n ≤ 4194304) (h2 : k0 ≤ 4194304)
    (hA : ∀ j, j < n → w.cell? ⟨g, j, none⟩ = some (.int .i64 ((k0 + j : Nat) : Int))) :
    Calls Try.prog 28 #[.slice (some ⟨g, 0, none⟩) n c, .int .i64 k0] w fun e w' => e = .returned (.int .i64 ((k0 + n : Nat) : Int)) ∧ w' = w := by
  have HA : Hid _ := hA
  clear hA
  go_enter Try.func28, Try.ntmps28
  go_wp2
  go_loop [5, 1] (fun i kk => ∃ k : Nat, k ≤ n ∧ i = .int .i64 k ∧ kk = .int .i64 ((k0 + k : Nat) : Int)) (fun i _ => n - (intOf i).toNat)
  case atStart => exact ⟨0, Nat.zero_le _, rfl, rfl⟩
  case round =>
    obtain ⟨k, hk, rfl, rfl⟩ := hrel
    by_cases hlt : k < n
    · have hx := HA.out k hlt
      have hlt' : (k : Int) < (n : Int) := by omega
      go_wp2
      go_round
      case rel => exact ⟨k + 1, by omega, by go_num, by go_num⟩
      case measure => simp [intOf]; omega
    · have HK : Hid (k = n) := (by omega : k = n)
      go_wp2
      go_ret
      exact ⟨ret_ints (by rw [HK.out]), rfl⟩

def imarks (k0 n : Nat) : List Value := (List.range n).map fun j => Value.int .i64 ((k0 + j : Nat) : Int)
theorem imarks_len (k0 n : Nat) : (imarks k0 n).length = n := by simp [imarks]
theorem mark_int (w : World) (lo hi : Nat) (v : Value) (ps : List Int) (k0 : Nat) (hn : ps.length ≤ 4194304) (h2 : k0 ≤ 4194304) (hh : hi ≤ w.heap.size) (r : Row w lo hi v (ints ps)) :
    Calls Try.prog 26 #[v, .int .i64 k0] w fun e w' => e = .returned (.int .i64 ((k0 + ps.length : Nat) : Int)) ∧ Row w' lo hi v (imarks k0 ps.length) ∧ Out lo hi w w' := by
  obtain ⟨a, c, rfl, q1⟩ := r
  rw [ints_len]
  by_cases h0 : ps.length = 0
  · rw [h0]
    refine (mark_int_zero a c k0 w).mono ?_
    rintro e w' ⟨rfl, rfl⟩
    exact ⟨rfl, ⟨a, c, rfl, .inl rfl⟩, Out.refl _ _ _⟩
  · rcases q1 with q1 | ⟨g, rfl, g1, g2, q1, q2⟩
    · exact absurd (by simpa using congrArg List.length q1) h0
    · refine (mark_int_some g c ps.length k0 w hn h2 (by omega) (fun j hj => ⟨ps[j], by have := q1 j (by simpa using hj); rw [List.getElem_map] at this; exact this⟩) q2).mono ?_
      rintro e w' ⟨rfl, m1, m2, m3⟩
      exact ⟨rfl, ⟨_, c, by rw [imarks_len], .inr ⟨g, rfl, g1, g2, fun j hj => by
        rw [m1 j (by simpa [imarks] using hj)]
        simp [imarks], m2⟩⟩, Out.of_grown m3 g1 g2⟩
theorem held_int (w : World) (lo hi : Nat) (v : Value) (n k0 : Nat) (hn : n ≤ 4194304) (h2 : k0 ≤ 4194304) (r : Row w lo hi v (imarks k0 n)) :
    Calls Try.prog 28 #[v, .int .i64 k0] w fun e w' => e = .returned (.int .i64 ((k0 + n : Nat) : Int)) ∧ w' = w := by
  obtain ⟨a, c, rfl, q1⟩ := r
  rw [imarks_len]
  by_cases h0 : n = 0
  · subst h0
    exact held_int_zero a c k0 w
  · rcases q1 with q1 | ⟨g, rfl, g1, g2, q1, q2⟩
    · exact absurd (by have := congrArg List.length q1; rw [imarks_len] at this; simpa using this) h0
    · exact held_int_some g c n k0 w hn h2 (fun j hj => by
        rw [q1 j (by rw [imarks_len]; exact hj)]
        simp [imarks])

theorem sz_int (a : Option Addr) (n c : Nat) (l : Int) (w : World) (hn : n ≤ 9223372036854775807) (h1 : 0 ≤ l) (h2 : l ≤ 4194304) :
    Calls Try.prog 11 #[.slice a n c, .int .i64 l] w fun e w' => e = .returned (.int .i64 (if l < n then -1 else l - n)) ∧ w' = w := by
  by_cases h : l < n
  · rw [if_pos h]
    go_enter Try.func11, Try.ntmps11
    go_wp2
    go_ret
    exact ⟨rfl, rfl⟩
  · rw [if_neg h]
    go_enter Try.func11, Try.ntmps11
    go_wp2
    go_ret
    exact ⟨rfl, rfl⟩

end Go.Proofs.Ytikliofkplbdpaa
