/- The draws of the model: a cursor over bytes; what it gives lies in its range, and it turns nothing but itself. -/
import Derived.Test.YtpafbijpncjgiaaRows
import Derived.WalkKit
import Derived.ProofKit
import Derived.OpenShut
import Derived.ShutString
import Derived.Test.YtpafbijpncjgiaaNumPlain
import Derived.Laws.Bits128
import Derived.Laws.BitsAllLaws
import Derived.Deep.QuietTactic
import Derived.BigQuiet
import Derived.WalkSmall
namespace Go.Proofs.Ytpafbijpncjgiaa
open Go.ChangeShapes Go.WideShapes Go.ChangeAt Go.RowKit
set_option linter.unusedVariables false

theorem i64_and255 (n : Int) : 0 ≤ bits .and .i64 n 255 ∧ bits .and .i64 n 255 ≤ 255 := by
  have h1 : (BitVec.ofInt 64 n &&& BitVec.ofInt 64 255).toNat ≤ 255 := by
    rw [BitVec.toNat_and]
    have e : (BitVec.ofInt 64 255).toNat = 255 := by decide
    rw [e]; exact Nat.and_le_right
  show 0 ≤ IntKind.i64.wrap ((BitVec.ofInt 64 n &&& BitVec.ofInt 64 255).toNat : Int) ∧ IntKind.i64.wrap ((BitVec.ofInt 64 n &&& BitVec.ofInt 64 255).toNat : Int) ≤ 255
  rw [IntKind.wrap_i64]
  omega
structure Cur (w : World) (C : Nat) (a : Option Addr) (len cap i : Nat) (h : Int) : Prop where
  c0 : w.cell? ⟨C, 0, none⟩ = some (.slice a len cap)
  c1 : w.cell? ⟨C, 1, none⟩ = some (.int .i64 i)
  c2 : w.cell? ⟨C, 2, none⟩ = some (.int .i64 h)
  f1 : w.frozen? ⟨C, 1, none⟩ = false
  f2 : w.frozen? ⟨C, 2, none⟩ = false
  le : i ≤ len
def Bytes (w : World) (C : Nat) (a : Option Addr) (len : Nat) : Prop :=
  len ≤ 1048576 ∧ ∀ j, j < len → ∃ (b off : Nat) (x : Int), a = some ⟨b, off, none⟩ ∧ b < C ∧ w.cell? ⟨b, off + j, none⟩ = some (.int .u8 x) ∧ 0 ≤ x ∧ x ≤ 255
theorem Bytes.below {w w' : World} {C : Nat} {a : Option Addr} {len : Nat} (h : Bytes w C a len) (hb : Below C w w') : Bytes w' C a len :=
  ⟨h.1, fun j hj => by
    obtain ⟨b, off, x, h1, h2, h3, h4⟩ := h.2 j hj
    exact ⟨b, off, x, h1, h2, (hb.cell (p := ⟨b, off + j, none⟩) h2).trans h3, h4⟩⟩
theorem Bytes.up {w : World} {C C' : Nat} {a : Option Addr} {len : Nat} (h : Bytes w C a len) (hc : C ≤ C') : Bytes w C' a len :=
  ⟨h.1, fun j hj => by
    obtain ⟨b, off, x, h1, h2, h3⟩ := h.2 j hj
    exact ⟨b, off, x, h1, by omega, h3⟩⟩

theorem Cur.drewN {w : World} {C : Nat} {a : Option Addr} {len cap i : Nat} {h : Int} (c : Cur w C a len cap i h) (n : Nat) : Cur (w.drewN n) C a len cap i h := ⟨c.c0, c.c1, c.c2, c.f1, c.f2, c.le⟩
theorem Cur.drew {w : World} {C : Nat} {a : Option Addr} {len cap i : Nat} {h : Int} (c : Cur w C a len cap i h) : Cur w.drew C a len cap i h := ⟨c.c0, c.c1, c.c2, c.f1, c.f2, c.le⟩
theorem Cur.set2 {w : World} {C : Nat} {a : Option Addr} {len cap i : Nat} {h : Int} (c : Cur w C a len cap i h) (v : Int) : Cur (w.setCell ⟨C, 2, none⟩ (.int .i64 v)) C a len cap i v :=
  ⟨(World.cell?_setCell_other _ _ _ _ (by simp)).trans c.c0, (World.cell?_setCell_other _ _ _ _ (by simp)).trans c.c1, World.cell?_setCell_same _ _ _ c.c2, (World.frozen?_setCell _ _ _ _).trans c.f1, (World.frozen?_setCell _ _ _ _).trans c.f2, c.le⟩
theorem Cur.set1 {w : World} {C : Nat} {a : Option Addr} {len cap i : Nat} {h : Int} (c : Cur w C a len cap i h) (i' : Nat) (y : Int) (hy : y = (i' : Int)) (hi : i' ≤ len) : Cur (w.setCell ⟨C, 1, none⟩ (.int .i64 y)) C a len cap i' h :=
  ⟨(World.cell?_setCell_other _ _ _ _ (by simp)).trans c.c0, by rw [World.cell?_setCell_same _ _ _ c.c1, hy], (World.cell?_setCell_other _ _ _ _ (by simp)).trans c.c2, (World.frozen?_setCell _ _ _ _).trans c.f1, (World.frozen?_setCell _ _ _ _).trans c.f2, hi⟩
theorem set_below (B : World) (C k : Nat) {w : World} (h : Below C B w) (v : Value) : Below C B (w.setCell ⟨C, k, none⟩ v) := h.setCell (p := ⟨C, k, none⟩) (Nat.le_refl C) v
theorem Cur.lt {w : World} {C : Nat} {a : Option Addr} {len cap i : Nat} {h : Int} (c : Cur w C a len cap i h) : C < w.heap.size := World.block_lt_of_cell? w _ c.c0

set_option maxHeartbeats 1000000 in
set_option maxRecDepth 100000 in
theorem byte_end (w : World) (C : Nat) (a : Option Addr) (len cap i : Nat) (h : Int) (hl : len ≤ 1048576) (hi : ¬ i < len) (hc : Cur w C a len cap i h) :
    Calls Try.prog 57 #[.pointer (some ⟨C, 0, none⟩)] w fun e w' => ∃ (x : Int) (h' : Int), e = .returned (.int .i64 x) ∧ 0 ≤ x ∧ x ≤ 255 ∧ Cur w' C a len cap i h' ∧ Below C w w' := by
  have HC : Hid _ := hc
  obtain ⟨c0, c1, c2, f1, f2, le⟩ := hc
  have hi' : ¬ (i : Int) < (len : Int) := by omega
  go_enter Try.func57, Try.ntmps57
  go_wp2
  go_quiet (fail)
  go_wp2
  go_quiet (fail)
  go_wp2
  go_ret
  refine ⟨_, wrap64 (wrap64 (h * 6364136223846793005) + 1442695040888963407), rfl, (i64_and255 _).1, (i64_and255 _).2, ?_, ?_⟩
  · exact ((HC.out.set2 _).drewN _).drewN _
  · exact below_drewN (below_drewN (set_below _ _ _ (Below.refl _ _) _) _) _

set_option maxHeartbeats 1000000 in
set_option maxRecDepth 100000 in
theorem byte_more (w : World) (C b off : Nat) (len cap i : Nat) (h x : Int) (hl : len ≤ 1048576) (hi : i < len) (hb : b < C) (hx : w.cell? ⟨b, off + i, none⟩ = some (.int .u8 x)) (x1 : 0 ≤ x) (x2 : x ≤ 255) (hc : Cur w C (some ⟨b, off, none⟩) len cap i h) :
    Calls Try.prog 57 #[.pointer (some ⟨C, 0, none⟩)] w fun e w' => ∃ (x : Int) (h' : Int), e = .returned (.int .i64 x) ∧ 0 ≤ x ∧ x ≤ 255 ∧ Cur w' C (some ⟨b, off, none⟩) len cap (i + 1) h' ∧ Below C w w' := by
  have HC : Hid _ := hc
  obtain ⟨c0, c1, c2, f1, f2, le⟩ := hc
  have hi' : (i : Int) < (len : Int) := by omega
  have hx2 : ∀ v, (w.setCell ⟨C, 2, none⟩ v).cell? ⟨b, off + i, none⟩ = some (.int .u8 x) := fun v => by rw [World.cell?_setCell_other _ _ _ _ (by simp <;> omega)]; exact hx
  clear hx
  go_enter Try.func57, Try.ntmps57
  go_wp2
  go_quiet (fail)
  go_wp2
  go_quiet (fail)
  go_wp2
  go_quiet (fail)
  go_wp2
  go_ret
  refine ⟨_, wrap64 (wrap64 (h * 6364136223846793005) + 1442695040888963407), rfl, (i64_and255 _).1, (i64_and255 _).2, ?_, ?_⟩
  · exact ((HC.out.set2 _).drewN _).set1 (i + 1) _ (by omega) (by omega)
  · exact set_below _ _ _ (below_drewN (set_below _ _ _ (Below.refl _ _) _) _) _

theorem byte_any (w : World) (C : Nat) (a : Option Addr) (len cap i : Nat) (h : Int) (hB : Bytes w C a len) (hc : Cur w C a len cap i h) :
    Calls Try.prog 57 #[.pointer (some ⟨C, 0, none⟩)] w fun e w' => ∃ (x : Int) (i' : Nat) (h' : Int), e = .returned (.int .i64 x) ∧ 0 ≤ x ∧ x ≤ 255 ∧ Cur w' C a len cap i' h' ∧ Below C w w' := by
  by_cases hi : i < len
  · obtain ⟨b, off, x, rfl, h2, h3, h4, h5⟩ := hB.2 i hi
    refine (byte_more w C b off len cap i h x hB.1 hi h2 h3 h4 h5 hc).mono ?_
    rintro e w' ⟨x, h', r⟩
    exact ⟨x, i + 1, h', r⟩
  · refine (byte_end w C a len cap i h hB.1 hi hc).mono ?_
    rintro e w' ⟨x, h', r⟩
    exact ⟨x, i, h', r⟩

def Drawn (C : Nat) (a : Option Addr) (len cap : Nat) (w w' : World) : Prop := Below C w w' ∧ ∃ (i : Nat) (h : Int), Cur w' C a len cap i h

set_option maxHeartbeats 1000000 in
set_option maxRecDepth 100000 in
theorem below_big (w : World) (C : Nat) (a : Option Addr) (len cap i : Nat) (h : Int) (n : Int) (hB : Bytes w C a len) (hc : Cur w C a len cap i h) (h1 : 256 < n) (h2 : n ≤ 4294967296) :
    Calls Try.prog 34 #[.pointer (some ⟨C, 0, none⟩), .int .i64 n] w fun e w' => ∃ x : Int, e = .returned (.int .i64 x) ∧ 0 ≤ x ∧ x < n ∧ Drawn C a len cap w w' := by
  have g1 : ¬ n ≤ 0 := by omega
  have g2 : ¬ n ≤ 256 := by omega
  have HB : Hid _ := hB
  clear hB
  go_enter Try.func34, Try.ntmps34
  go_wp2_with fail
  refine (byte_any _ C a len cap i h HB.out hc).mono ?_
  rintro e w1 ⟨x1, i1, z1, rfl, x1a, x1b, k1, b1⟩
  go_wp2_with fail
  refine (byte_any _ C a len cap i1 z1 (Bytes.below HB.out b1) k1).mono ?_
  rintro e w2 ⟨x2, i2, z2, rfl, x2a, x2b, k2, b2⟩
  have b2 := b1.trans b2
  go_wp2_with fail
  refine (byte_any _ C a len cap i2 z2 (Bytes.below HB.out b2) k2).mono ?_
  rintro e w3 ⟨x3, i3, z3, rfl, x3a, x3b, k3, b3⟩
  have b3 := b2.trans b3
  go_wp2_with fail
  refine (byte_any _ C a len cap i3 z3 (Bytes.below HB.out b3) k3).mono ?_
  rintro e w4 ⟨x4, i4, z4, rfl, x4a, x4b, k4, b4⟩
  go_wp2
  go_ret
  exact ⟨_, rfl, Int.emod_nonneg _ (by omega), Int.emod_lt_of_pos _ (by omega), b3.trans b4, i4, z4, k4⟩

set_option maxHeartbeats 1000000 in
set_option maxRecDepth 100000 in
theorem new_zero (w : World) (a : Option Addr) (cap : Nat) :
    Calls Try.prog 33 #[.slice a 0 cap] w fun e w' => ∃ h : Int, e = .returned (.pointer (some ⟨w.heap.size, 0, none⟩)) ∧ w' = w.alloc (.cells #[.slice a 0 cap, .int .i64 0, .int .i64 h] 60) := by
  go_enter Try.func33, Try.ntmps33
  go_wp2
  go_loop [3, 4] (fun h i => ∃ x : Int, h = .int .i64 x ∧ i = .int .i64 0) (fun _ _ => 0)
  case atStart => exact ⟨_, rfl, rfl⟩
  case round =>
    obtain ⟨x, rfl, rfl⟩ := hrel
    go_wp2
    go_ret
    exact ⟨rfl, x, rfl⟩

set_option maxHeartbeats 1000000 in
set_option maxRecDepth 100000 in
theorem new_some (w : World) (b off : Nat) (len cap : Nat) (h0 : 0 < len) (hl : len ≤ 1048576) (hx : ∀ j, j < len → ∃ x : Int, w.cell? ⟨b, off + j, none⟩ = some (.int .u8 x) ∧ 0 ≤ x ∧ x ≤ 255) :
    Calls Try.prog 33 #[.slice (some ⟨b, off, none⟩) len cap] w fun e w' => ∃ h : Int, e = .returned (.pointer (some ⟨w.heap.size, 0, none⟩)) ∧ w' = w.alloc (.cells #[.slice (some ⟨b, off, none⟩) len cap, .int .i64 0, .int .i64 h] 60) := by
  have HX : Hid _ := hx
  clear hx
  go_enter Try.func33, Try.ntmps33
  go_wp2
  go_loop [3, 4] (fun h i => ∃ (k : Nat) (x : Int), k ≤ len ∧ k ≤ 4000 ∧ h = .int .i64 x ∧ i = .int .i64 k) (fun _ i => 4000 - (intOf i).toNat)
  case atStart => exact ⟨0, _, Nat.zero_le _, Nat.zero_le _, rfl, rfl⟩
  case round =>
    obtain ⟨k, x, hk1, hk2, rfl, rfl⟩ := hrel
    by_cases hlt : k < len
    · have hlt' : (k : Int) < (len : Int) := by omega
      by_cases h4 : k < 4000
      · have h4' : (k : Int) < 4000 := by omega
        obtain ⟨y, hy, y1, y2⟩ := HX.out k hlt
        go_wp2
        go_round
        case rel => exact ⟨k + 1, _, by omega, by omega, rfl, by go_num⟩
        case measure => simp [intOf]; omega
      · have h4' : ¬ (k : Int) < 4000 := by omega
        go_wp2
        go_ret
        exact ⟨rfl, x, rfl⟩
    · have hlt' : ¬ (k : Int) < (len : Int) := by omega
      go_wp2
      go_ret
      exact ⟨rfl, x, rfl⟩

theorem new_any (w : World) (a : Option Addr) (len cap : Nat) (hB : Bytes w w.heap.size a len) :
    Calls Try.prog 33 #[.slice a len cap] w fun e w' => ∃ h : Int, e = .returned (.pointer (some ⟨w.heap.size, 0, none⟩)) ∧ w' = w.alloc (.cells #[.slice a len cap, .int .i64 0, .int .i64 h] 60) := by
  by_cases h0 : 0 < len
  · obtain ⟨b, off, x, rfl, _⟩ := hB.2 0 h0
    exact new_some w b off len cap h0 hB.1 (fun j hj => by
      obtain ⟨b', off', x, h1, _, h3, h4⟩ := hB.2 j hj
      simp only [Option.some.injEq, Addr.mk.injEq] at h1
      obtain ⟨rfl, rfl, _⟩ := h1
      exact ⟨x, h3, h4⟩)
  · obtain rfl : len = 0 := by omega
    exact new_zero w a cap

end Go.Proofs.Ytpafbijpncjgiaa
