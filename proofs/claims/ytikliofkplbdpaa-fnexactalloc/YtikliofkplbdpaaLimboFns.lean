/- Whether a node is in limbo, and where: the model's and the program's. -/
import Derived.Test.YtikliofkplbdpaaRows
import Derived.WalkKit
import Derived.ProofKit
import Derived.OpenShut
import Derived.ShutString
import Derived.Test.YtikliofkplbdpaaAgePlain
import Derived.Test.YtikliofkplbdpaaLimboPlain
namespace Go.Proofs.Ytikliofkplbdpaa
open Go.ChangeShapes Go.WideShapes Go.ChangeAt Go.RowKit
set_option linter.unusedVariables false

theorem PIn.at {w : World} {b off : Nat} {L : List (Int × Int)} (h2 : ∀ j (hj : j < L.length), w.cell? ⟨b, off + j * 2, none⟩ = some (.int .i64 L[j].1) ∧ w.cell? ⟨b, off + j * 2 + 1, none⟩ = some (.int .i64 L[j].2)) (k : Nat) (hk : k < L.length) : w.cell? ⟨b, off + k * 2, none⟩ = some (.int .i64 (goneAt L k).1) ∧ w.cell? ⟨b, off + k * 2 + 1, none⟩ = some (.int .i64 (goneAt L k).2) := by
  have := h2 k hk
  rwa [goneAt_eq L k hk] at this
theorem PIn.take {w : World} {a : Option Addr} {cap : Nat} {L : List (Int × Int)} (h : PIn w (.slice a L.length cap) L) (k : Nat) (hk : k ≤ L.length) : PIn w (.slice a k cap) (L.take k) := by
  obtain ⟨a', cap', hv, hc, h⟩ := h
  simp at hv
  obtain ⟨rfl, rfl⟩ := hv
  have e : (L.take k).length = k := by simp; omega
  refine ⟨a, cap, by rw [e], by omega, ?_⟩
  rcases h with rfl | ⟨b, off, ha, h1, h2⟩
  · left; simp
  · refine .inr ⟨b, off, ha, h1, fun j hj => ?_⟩
    rw [e] at hj
    have := h2 j (by omega)
    simpa using this

set_option maxHeartbeats 800000 in
set_option maxRecDepth 100000 in
theorem impl_place_some (b off c : Nat) (L : List (Int × Int)) (x : Int) (w : World) (hn : L.length ≤ 4194304) (hb : b < w.heap.size)
    (h2 : ∀ j (hj : j < L.length), w.cell? ⟨b, off + j * 2, none⟩ = some (.int .i64 L[j].1) ∧ w.cell? ⟨b, off + j * 2 + 1, none⟩ = some (.int .i64 L[j].2)) :
    Calls Try.prog 51 #[.slice (some ⟨b, off, none⟩) L.length c, .int .i64 x] w fun e w' => e = .returned (.tuple #[.int .i64 (placeI L x), .bool (nodeB L x)]) ∧ Below w.heap.size w w' := by
  have HA := hidIt (PIn.at h2)
  clear h2
  go_enter Try.func51, Try.ntmps51
  go_wp2
  go_loopw [10] (fun i wr => ∃ k : Nat, k ≤ L.length ∧ i = .int .i64 k ∧ Below w.heap.size w wr ∧ Hid (∀ j, j < k → (goneAt L j).1 ≠ x)) (fun i _ => L.length - (intOf i).toNat)
  case atStart => exact ⟨0, Nat.zero_le _, rfl, Below.refl _ _, fun j hj => by omega⟩
  case round =>
    rename World => wr
    obtain ⟨k, hk, rfl, hbw, HF⟩ := hrel
    by_cases hlt : k < L.length
    · have c1 := below_cell hbw hb (HA.out k hlt).1
      have c2 := below_cell hbw hb (HA.out k hlt).2
      have hlt' : (k : Int) < (L.length : Int) := by omega
      have HY := hidIt (And.intro (placeI_hit L k x hlt) (nodeB_hit L k x hlt))
      have HX := hidIt (HF.out)
      by_cases hx : (goneAt L k).1 = x
      · have HE := hidIt (And.intro (HY.out.1 hx HX.out) (HY.out.2 hx))
        have hz := hbw.size
        rw [hx] at c1
        generalize (goneAt L k).2 = y at c2
        clear hx
        go_wp2
        refine bodyPost_ret (v := .tuple #[.int .i64 k, .bool true]) (by simp [results, Try.results51, go_sem]) rfl ⟨by rw [HE.out.1, HE.out.2], hbw.alloc hz _⟩
      · have hz := hbw.size
        have HE := hidIt hx
        generalize (goneAt L k).2 = y at c2
        generalize hq : (goneAt L k).1 = q at c1 hx
        have HQ := hidIt hq
        clear hq
        have hx2 : (q == x) = false := by simpa using hx
        clear hx
        go_wp2
        go_roundw
        case rel =>
          refine ⟨k + 1, by omega, by go_num, hbw.alloc hz _, fun j hj => ?_⟩
          by_cases e : j = k
          · subst e; exact HE.out
          · exact HX.out j (by omega)
        case measure => simp [intOf]; omega
    · have HE := hidIt (And.intro (placeI_miss L x (fun j hj => HF.out j (by omega))) (nodeB_false L x (fun j hj => HF.out j (by omega))))
      go_wp2
      refine bodyPost_ret (v := .tuple #[.int .i64 0, .bool false]) (by simp [results, Try.results51, go_sem]) rfl ⟨by rw [HE.out.1, HE.out.2], hbw⟩
theorem impl_place_zero (a : Option Addr) (c : Nat) (x : Int) (w : World) :
    Calls Try.prog 51 #[.slice a 0 c, .int .i64 x] w fun e w' => e = .returned (.tuple #[.int .i64 (placeI [] x), .bool (nodeB [] x)]) ∧ Below w.heap.size w w' := by
  go_enter Try.func51, Try.ntmps51
  go_wp2
  go_loop [10] (fun i => i = .int .i64 0) (fun _ => 0)
  case atStart => rfl
  case round =>
    subst hrel
    go_wp2
    refine bodyPost_ret (v := .tuple #[.int .i64 0, .bool false]) (by simp [results, Try.results51, go_sem]) rfl ⟨rfl, Below.refl _ _⟩
theorem impl_place (w : World) (v : Value) (L : List (Int × Int)) (x : Int) (hn : L.length ≤ 4194304) (h : PIn w v L) :
    Calls Try.prog 51 #[v, .int .i64 x] w fun e w' => e = .returned (.tuple #[.int .i64 (placeI L x), .bool (nodeB L x)]) ∧ Below w.heap.size w w' := by
  obtain ⟨a, cap, rfl, -, h⟩ := h
  rcases h with rfl | ⟨b, off, rfl, h1, h2⟩
  · exact impl_place_zero a cap x w
  · exact impl_place_some b off cap L x w hn h1 h2

set_option maxHeartbeats 800000 in
set_option maxRecDepth 100000 in
theorem spec_node_some (b off c : Nat) (L : List (Int × Int)) (x : Int) (w : World) (hn : L.length ≤ 4194304) (hb : b < w.heap.size)
    (h2 : ∀ j (hj : j < L.length), w.cell? ⟨b, off + j * 2, none⟩ = some (.int .i64 L[j].1) ∧ w.cell? ⟨b, off + j * 2 + 1, none⟩ = some (.int .i64 L[j].2)) :
    Calls Try.prog 43 #[.slice (some ⟨b, off, none⟩) L.length c, .int .i64 x] w fun e w' => e = .returned (.bool (nodeB L x)) ∧ Below w.heap.size w w' := by
  have HA := hidIt (PIn.at h2)
  clear h2
  go_enter Try.func43, Try.ntmps43
  go_wp2
  go_loopw [9] (fun i wr => ∃ k : Nat, k ≤ L.length ∧ i = .int .i64 k ∧ Below w.heap.size w wr ∧ Hid (∀ j, j < k → (goneAt L j).1 ≠ x)) (fun i _ => L.length - (intOf i).toNat)
  case atStart => exact ⟨0, Nat.zero_le _, rfl, Below.refl _ _, fun j hj => by omega⟩
  case round =>
    rename World => wr
    obtain ⟨k, hk, rfl, hbw, HF⟩ := hrel
    by_cases hlt : k < L.length
    · have c1 := below_cell hbw hb (HA.out k hlt).1
      have c2 := below_cell hbw hb (HA.out k hlt).2
      have hlt' : (k : Int) < (L.length : Int) := by omega
      have HY := hidIt (nodeB_hit L k x hlt)
      have HX := hidIt (HF.out)
      by_cases hx : (goneAt L k).1 = x
      · have HE := hidIt (HY.out hx)
        have hz := hbw.size
        rw [hx] at c1
        generalize (goneAt L k).2 = y at c2
        clear hx
        go_wp2
        go_ret
        exact ⟨ret_boolx (by rw [HE.out]), hbw.alloc hz _⟩
      · have hz := hbw.size
        have HE := hidIt hx
        generalize (goneAt L k).2 = y at c2
        generalize hq : (goneAt L k).1 = q at c1 hx
        have HQ := hidIt hq
        clear hq
        have hx2 : (q == x) = false := by simpa using hx
        clear hx
        go_wp2
        go_roundw
        case rel =>
          refine ⟨k + 1, by omega, by go_num, hbw.alloc hz _, fun j hj => ?_⟩
          by_cases e : j = k
          · subst e; exact HE.out
          · exact HX.out j (by omega)
        case measure => simp [intOf]; omega
    · have HE := hidIt (nodeB_false L x (fun j hj => HF.out j (by omega)))
      go_wp2
      go_ret
      exact ⟨ret_boolx (by rw [HE.out]), hbw⟩
theorem spec_node_zero (a : Option Addr) (c : Nat) (x : Int) (w : World) :
    Calls Try.prog 43 #[.slice a 0 c, .int .i64 x] w fun e w' => e = .returned (.bool (nodeB [] x)) ∧ Below w.heap.size w w' := by
  go_enter Try.func43, Try.ntmps43
  go_wp2
  go_loop [9] (fun i => i = .int .i64 0) (fun _ => 0)
  case atStart => rfl
  case round =>
    subst hrel
    go_wp2
    go_ret
    exact ⟨rfl, Below.refl _ _⟩
theorem spec_node (w : World) (v : Value) (L : List (Int × Int)) (x : Int) (hn : L.length ≤ 4194304) (h : PIn w v L) :
    Calls Try.prog 43 #[v, .int .i64 x] w fun e w' => e = .returned (.bool (nodeB L x)) ∧ Below w.heap.size w w' := by
  obtain ⟨a, cap, rfl, -, h⟩ := h
  rcases h with rfl | ⟨b, off, rfl, h1, h2⟩
  · exact spec_node_zero a cap x w
  · exact spec_node_some b off cap L x w hn h1 h2
theorem spec_node_none (a : Option Addr) (c : Nat) (x : Int) (w : World) :
    Calls Try.prog 43 #[.slice a 0 c, .int .i64 x] w fun e w' => e = .returned (.bool false) ∧ w' = w := by
  go_enter Try.func43, Try.ntmps43
  go_wp2
  go_loop [9] (fun i => i = .int .i64 0) (fun _ => 0)
  case atStart => rfl
  case round =>
    subst hrel
    go_wp2
    go_ret
    exact ⟨rfl, rfl⟩

end Go.Proofs.Ytikliofkplbdpaa
