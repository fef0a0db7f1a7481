/- Threads, rows of threads and crews held against one another; crews copied. -/
import Derived.Test.YtikliofkplbdpaaRows
import Derived.WalkKit
import Derived.ProofKit
import Derived.OpenShut
import Derived.ShutString
import Derived.Test.YtikliofkplbdpaaThCopy
import Derived.Deep.RegionHeld3
namespace Go.Proofs.Ytikliofkplbdpaa
open Go.ChangeShapes Go.WideShapes Go.ChangeAt Go.RowKit
set_option linter.unusedVariables false

set_option maxHeartbeats 800000 in
set_option maxRecDepth 100000 in
theorem eq_ints_some (g og h oh c d : Nat) (ps : List Int) (w : World) (hn : ps.length ≤ 4194304) (h0 : 0 < ps.length)
    (hA : ∀ j (hj : j < ps.length), w.cell? ⟨g, og + j, none⟩ = some (.int .i64 ps[j])) (hB : ∀ j (hj : j < ps.length), w.cell? ⟨h, oh + j, none⟩ = some (.int .i64 ps[j])) :
    Calls Try.prog 24 #[.slice (some ⟨g, og, none⟩) ps.length c, .slice (some ⟨h, oh, none⟩) ps.length d] w fun e w' => e = .returned (.bool true) ∧ ∃ n, w' = w.drewN n := by
  have HA : Hid _ := hA
  have HB : Hid _ := hB
  clear hA hB
  go_enter Try.func24, Try.ntmps24
  go_wp2
  go_loopw [5] (fun i wr => ∃ k n : Nat, k ≤ ps.length ∧ i = .int .i64 k ∧ wr = w.drewN n) (fun i _ => ps.length - (intOf i).toNat)
  case atStart => exact ⟨0, 0, Nat.zero_le _, rfl, rfl⟩
  case round =>
    obtain ⟨k, n, hk, rfl, rfl⟩ := hrel
    by_cases hlt : k < ps.length
    · have cA := HA.out k hlt
      have cB := HB.out k hlt
      have hlt' : (k : Int) < (ps.length : Int) := by omega
      generalize ps[k] = x at cA cB
      go_wp2
      go_quiet (fail)
      go_wp2
      go_roundw
      case rel => exact ⟨k + 1, _, by omega, by go_num, rfl⟩
      case measure => simp [intOf]; omega
    · go_wp2
      go_ret
      exact ⟨rfl, n, rfl⟩
theorem eq_ints (w : World) (v1 v2 : Value) (ps : List Int) (hn : ps.length ≤ 4194304) (r1 : IntsIn w v1 ps) (r2 : IntsIn w v2 ps) :
    Calls Try.prog 24 #[v1, v2] w fun e w' => e = .returned (.bool true) ∧ Below w.heap.size w w' := by
  obtain ⟨⟨a, c, rfl, q1⟩, -⟩ := r1
  obtain ⟨⟨b, d, rfl, q2⟩, -⟩ := r2
  have fin : ∀ e (w' : World), (e = Ending.returned (.bool true) ∧ ∃ n, w' = w.drewN n) → e = .returned (.bool true) ∧ Below w.heap.size w w' := by
    rintro e w' ⟨rfl, n, rfl⟩
    exact ⟨rfl, below_drewN (Below.refl _ _) n⟩
  by_cases h0 : 0 < ps.length
  · rcases q1 with rfl | ⟨g, og, rfl, g1, q1⟩
    · exact absurd h0 (by simp)
    · rcases q2 with rfl | ⟨h, oh, rfl, h1, q2⟩
      · exact absurd h0 (by simp)
      · exact (eq_ints_some g og h oh c d ps w hn h0 q1 q2).mono fin
  · obtain rfl := len_zero h0
    exact (eq_int_zero _ _ c d w).mono fin
def ThFit (t : Th) : Prop := t.cs.length ≤ 4194304 ∧ t.bs.length ≤ 4194304 ∧ t.es.length ≤ 4194304
def Two4 (W0 W : World) (a p b q : Nat) (v0 v1 v2 v3 u0 u1 u2 u3 : Value) : Prop := Below W0.heap.size W0 W ∧ At4 W a p v0 v1 v2 v3 ∧ At4 W b q u0 u1 u2 u3 ∧ a < W.heap.size ∧ b < W.heap.size
theorem Two4.keep {W0 W W' : World} {a p b q : Nat} {v0 v1 v2 v3 u0 u1 u2 u3 : Value} (h : Two4 W0 W a p b q v0 v1 v2 v3 u0 u1 u2 u3) (hb : Below W.heap.size W W') : Two4 W0 W' a p b q v0 v1 v2 v3 u0 u1 u2 u3 := by
  obtain ⟨h0, h1, h2, h3, h4⟩ := h
  have := hb.size
  exact ⟨below_step h0 hb, h1.keep h3 hb, h2.keep h4 hb, by omega, by omega⟩
def lim4 (W0 W : World) (a p b q : Nat) (v0 v1 v2 v3 u0 u1 u2 u3 : Value) : Prop := Two4 W0 W a p b q v0 v1 v2 v3 u0 u1 u2 u3 ∧ W.cell? ⟨a, p, none⟩ = some v0 ∧ W.cell? ⟨a, p + 1, none⟩ = some v1 ∧ W.cell? ⟨a, p + 2, none⟩ = some v2 ∧ W.cell? ⟨a, p + 3, none⟩ = some v3 ∧ W.cell? ⟨b, q, none⟩ = some u0 ∧ W.cell? ⟨b, q + 1, none⟩ = some u1 ∧ W.cell? ⟨b, q + 2, none⟩ = some u2 ∧ W.cell? ⟨b, q + 3, none⟩ = some u3
theorem lim4_of {W0 W : World} {a p b q : Nat} {v0 v1 v2 v3 u0 u1 u2 u3 : Value} (h : Two4 W0 W a p b q v0 v1 v2 v3 u0 u1 u2 u3) : lim4 W0 W a p b q v0 v1 v2 v3 u0 u1 u2 u3 := by
  have h' := h
  obtain ⟨-, ⟨h0, h1, h2, h3⟩, ⟨g0, g1, g2, g3⟩, -⟩ := h
  exact ⟨h', h0, h1, h2, h3, g0, g1, g2, g3⟩
def CwFit (C : Cw) : Prop := C.m.length ≤ 4194304 ∧ C.ts.length ≤ 4194304 ∧ TsFit C.ts

end Go.Proofs.Ytikliofkplbdpaa
