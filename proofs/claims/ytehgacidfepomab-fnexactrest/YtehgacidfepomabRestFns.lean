/- How many calls aren't done, by the model and by the program. -/
import Derived.Test.YtehgacidfepomabRows
import Derived.WalkKit
import Derived.ProofKit
import Derived.OpenShut
import Derived.ShutString
import Derived.Test.YtehgacidfepomabCwLaw
import Derived.Deep.LoopGhost
import Derived.Deep.Light
namespace Go.Proofs.Ytehgacidfepomab
open Go.ChangeShapes Go.WideShapes Go.ChangeAt Go.RowKit
set_option linter.unusedVariables false

def rC (cs : List Cl) : Nat → Nat
  | 0 => 0
  | k + 1 => rC cs k + (if (cs.getD k default).d = true then 0 else 1)
def rT (ts : List Th) : Nat → Nat
  | 0 => 0
  | k + 1 => rT ts k + rC (ts.getD k default).cs (ts.getD k default).cs.length
def restN (C : Cw) : Int := (rT C.ts C.ts.length : Nat)
theorem rC_le (cs : List Cl) (k : Nat) : rC cs k ≤ k := by
  induction k with
  | zero => exact Nat.le_refl _
  | succ k ih => show rC cs k + _ ≤ k + 1; split <;> omega
theorem rC_step (cs : List Cl) (k : Nat) (h : k < cs.length) : rC cs (k + 1) = rC cs k + (if cs[k].d = true then 0 else 1) := by
  show rC cs k + (if (cs.getD k default).d = true then 0 else 1) = _
  rw [getD_at cs k h]
theorem rT_step (ts : List Th) (k : Nat) (h : k < ts.length) : rT ts (k + 1) = rT ts k + rC ts[k].cs ts[k].cs.length := by
  show rT ts k + rC (ts.getD k default).cs (ts.getD k default).cs.length = _
  rw [getD_at ts k h]
theorem rT_le (ts : List Th) (hf : TsFit ts) (k : Nat) (h : k ≤ ts.length) : rT ts k ≤ k * 4194304 := by
  induction k with
  | zero => exact Nat.le_refl _
  | succ k ih =>
    rw [rT_step ts k (by omega)]
    have h1 := ih (by omega)
    have h2 := rC_le ts[k].cs ts[k].cs.length
    have h3 := (hf k (by omega)).1
    omega

theorem spec_rest_nil (a : Option Addr) (n c cap : Nat) (p : Option Addr) (x0 x1 x4 : Int) (w : World) :
    Calls Try.prog 5 #[.agg #[.int .i64 x0, .int .i64 x1, .slice a n c, .slice p 0 cap, .int .i64 x4]] w fun e w' => e = .returned (.int .i64 0) ∧ Below w.heap.size w w' := by
  go_enter Try.func5, Try.ntmps5
  go_wp2
  go_loop [3, 11] (fun n i => n = .int .i64 0 ∧ i = .int .i64 0) (fun _ _ => 0)
  case atStart => exact ⟨rfl, rfl⟩
  case round =>
    obtain ⟨rfl, rfl⟩ := hrel
    go_wp2
    go_ret
    exact ⟨rfl, (Below.refl _ _).alloc (Nat.le_refl _) _⟩
set_option maxHeartbeats 1600000 in
set_option maxRecDepth 100000 in
theorem spec_rest_some (b off cap n c : Nat) (p : Option Addr) (ts : List Th) (x0 x1 x4 : Int) (w : World) (hn : ts.length ≤ 4194304) (hf : TsFit ts) (hb : b < w.heap.size)
    (hA : ∀ j (hj : j < ts.length), ∃ v0 v2 v3, At4 w b (off + j * 4) v0 (.int .i64 ts[j].at_) v2 v3 ∧ ThIn w v0 v2 v3 ts[j]) :
    Calls Try.prog 5 #[.agg #[.int .i64 x0, .int .i64 x1, .slice p n c, .slice (some ⟨b, off, none⟩) ts.length cap, .int .i64 x4]] w fun e w' => e = .returned (.int .i64 ((rT ts ts.length : Nat) : Int)) ∧ Below w.heap.size w w' := by
  have HA := hidIt hA
  have HF := hidIt hf
  have HT := hidIt (fun k h => rT_le ts hf k h)
  clear hA hf
  go_enter Try.func5, Try.ntmps5
  go_wp2
  go_loopg [3, 11] ts.length (fun gk s3 s11 wr => ∃ k : Nat, k ≤ ts.length ∧ gk = ts.length - k ∧ s11 = .int .i64 k ∧ s3 = .int .i64 ((rT ts k : Nat) : Int) ∧ Below w.heap.size w wr)
  case atStart => exact ⟨0, Nat.zero_le _, rfl, rfl, rfl, (Below.refl _ _).alloc (Nat.le_refl _) _⟩
  case round =>
    obtain ⟨k, hk, hgk, rfl, rfl, hbw⟩ := hrel
    by_cases hlt : k < ts.length
    · have hlt' : (k : Int) < (ts.length : Int) := by omega
      obtain ⟨v0, v2, v3, h4, h5⟩ := HA.out k hlt
      obtain ⟨q1, q2, q3⟩ := HF.out k hlt
      have HS := hidIt (rT_step ts k hlt)
      have hle := HT.out k hk
      obtain ⟨r0, r1, r2, r3⟩ := h4.of (fun q => hbw.cell (p := ⟨b, q, none⟩) hb)
      have H5 := hidIt (h5.below hbw)
      obtain ⟨a2, d2, rfl, -⟩ := h5.bs.form
      obtain ⟨a3, d3, rfl, -⟩ := h5.es.form
      obtain ⟨a0, d0, rfl, hd0, hcs⟩ := h5.cs
      have HC := hidIt hcs
      clear h4 h5 hcs
      generalize ts[k] = y at *
      have hR0 : rT ts k ≤ 17592186044416 := by omega
      have HG := hidIt hgk
      clear hle hgk
      generalize rT ts k = R at *
      go_wp2
      go_loopg [3, 18] y.cs.length (fun ik s3 s18 wi => ∃ j : Nat, j ≤ y.cs.length ∧ ik = y.cs.length - j ∧ s18 = .int .i64 j ∧ s3 = .int .i64 ((R + rC y.cs j : Nat) : Int) ∧ Below w.heap.size w wi)
      case atStart => exact ⟨0, Nat.zero_le _, rfl, rfl, rfl, hbw.alloc (hbw.size) _⟩
      case round =>
        obtain ⟨j, hj, hgj, rfl, rfl, hbi⟩ := hrel
        by_cases hjl : j < y.cs.length
        · rcases HC.out with hc0 | ⟨cb, coff, rfl, hcb, hcs⟩
          · rw [hc0] at hjl
            simp at hjl
          · have hjl' : (j : Int) < (y.cs.length : Int) := by omega
            obtain ⟨m0, m1, m2, m3, m4, m5, m6, m7, m8, m9⟩ := (hcs j hjl).of (fun q => hbi.cell (p := ⟨cb, q, none⟩) hcb)
            have HCS := hidIt (rC_step y.cs j hjl)
            have hrc := rC_le y.cs j
            clear hcs
            generalize y.cs[j] = z at *
            by_cases hz : z.d = true
            · have HZ := hidIt hz
              rw [hz] at m9
              clear hz
              have HJ := hidIt hgj
              clear hgj
              go_wp2
              go_roundg (y.cs.length - (j + 1))
              case measure => rw [HJ.out]; omega
              case rel => exact ⟨j + 1, by omega, rfl, by go_num, by rw [HCS.out, if_pos HZ.out]; rfl, hbi.alloc hbi.size _⟩
            · have hz' : z.d = false := by simpa using hz
              have HZ := hidIt hz'
              rw [hz'] at m9
              clear hz hz'
              have HJ := hidIt hgj
              clear hgj
              have hlim : (R : Int) + (rC y.cs j : Int) + 1 ≤ 9223372036854775807 := by omega
              go_wp2
              go_roundg (y.cs.length - (j + 1))
              case measure => rw [HJ.out]; omega
              case rel => exact ⟨j + 1, by omega, rfl, by go_num, by rw [HCS.out, if_neg (by rw [HZ.out]; simp)]; go_num, hbi.alloc hbi.size _⟩
        · obtain rfl : j = y.cs.length := by omega
          go_wp2
          go_roundg (ts.length - (k + 1))
          case measure => rw [HG.out]; omega
          case rel => exact ⟨k + 1, by omega, rfl, by go_num, by rw [HS.out], hbi⟩
    · obtain rfl : k = ts.length := by omega
      go_wp2
      go_ret
      exact ⟨rfl, hbw⟩
theorem spec_rest (w : World) (vm vt : Value) (C : Cw) (h : CwIn w vm vt C) (hf : CwFit C) (wf : CwWf C) :
    Calls Try.prog 5 #[.agg #[.int .i64 C.what, .int .i64 C.size, vm, vt, .int .i64 C.clock]] w fun e w' => e = .returned (.int .i64 (restN C)) ∧ Below w.heap.size w w' := by
  obtain ⟨a0, d0, rfl, -⟩ := h.m.form
  obtain ⟨a, cap, rfl, -, h2⟩ := h.ts
  by_cases h0 : 0 < C.ts.length
  · rcases h2 with h2 | ⟨b, off, rfl, h3, h4⟩
    · rw [h2] at h0; exact absurd h0 (by simp)
    · exact spec_rest_some b off cap _ d0 a0 C.ts _ _ _ w hf.2.1 hf.2.2 h3 h4
  · have h1 := len_zero h0
    unfold restN
    rw [h1]
    exact spec_rest_nil a0 _ d0 cap a _ _ _ w

theorem impl_rest_nil (a : Option Addr) (n c cap : Nat) (p : Option Addr) (x0 x1 x4 : Int) (w : World) :
    Calls Try.prog 7 #[.agg #[.int .i64 x0, .int .i64 x1, .slice a n c, .slice p 0 cap, .int .i64 x4]] w fun e w' => e = .returned (.int .i64 0) ∧ Below w.heap.size w w' := by
  go_enter Try.func7, Try.ntmps7
  go_wp2
  go_loop [3, 11] (fun n i => n = .int .i64 0 ∧ i = .int .i64 0) (fun _ _ => 0)
  case atStart => exact ⟨rfl, rfl⟩
  case round =>
    obtain ⟨rfl, rfl⟩ := hrel
    go_wp2
    go_ret
    exact ⟨rfl, (Below.refl _ _).alloc (Nat.le_refl _) _⟩
set_option maxHeartbeats 1600000 in
set_option maxRecDepth 100000 in
theorem impl_rest_some (b off cap n c : Nat) (p : Option Addr) (ts : List Th) (x0 x1 x4 : Int) (w : World) (hn : ts.length ≤ 4194304) (hf : TsFit ts) (hb : b < w.heap.size)
    (hA : ∀ j (hj : j < ts.length), ∃ v0 v2 v3, At4 w b (off + j * 4) v0 (.int .i64 ts[j].at_) v2 v3 ∧ ThIn w v0 v2 v3 ts[j]) :
    Calls Try.prog 7 #[.agg #[.int .i64 x0, .int .i64 x1, .slice p n c, .slice (some ⟨b, off, none⟩) ts.length cap, .int .i64 x4]] w fun e w' => e = .returned (.int .i64 ((rT ts ts.length : Nat) : Int)) ∧ Below w.heap.size w w' := by
  have HA := hidIt hA
  have HF := hidIt hf
  have HT := hidIt (fun k h => rT_le ts hf k h)
  clear hA hf
  go_enter Try.func7, Try.ntmps7
  go_wp2
  go_loopg [3, 11] ts.length (fun gk s3 s11 wr => ∃ k : Nat, k ≤ ts.length ∧ gk = ts.length - k ∧ s11 = .int .i64 k ∧ s3 = .int .i64 ((rT ts k : Nat) : Int) ∧ Below w.heap.size w wr)
  case atStart => exact ⟨0, Nat.zero_le _, rfl, rfl, rfl, (Below.refl _ _).alloc (Nat.le_refl _) _⟩
  case round =>
    obtain ⟨k, hk, hgk, rfl, rfl, hbw⟩ := hrel
    by_cases hlt : k < ts.length
    · have hlt' : (k : Int) < (ts.length : Int) := by omega
      obtain ⟨v0, v2, v3, h4, h5⟩ := HA.out k hlt
      obtain ⟨q1, q2, q3⟩ := HF.out k hlt
      have HS := hidIt (rT_step ts k hlt)
      have hle := HT.out k hk
      obtain ⟨r0, r1, r2, r3⟩ := h4.of (fun q => hbw.cell (p := ⟨b, q, none⟩) hb)
      have H5 := hidIt (h5.below hbw)
      obtain ⟨a2, d2, rfl, -⟩ := h5.bs.form
      obtain ⟨a3, d3, rfl, -⟩ := h5.es.form
      obtain ⟨a0, d0, rfl, hd0, hcs⟩ := h5.cs
      have HC := hidIt hcs
      clear h4 h5 hcs
      generalize ts[k] = y at *
      have hR0 : rT ts k ≤ 17592186044416 := by omega
      have HG := hidIt hgk
      clear hle hgk
      generalize rT ts k = R at *
      go_wp2
      go_loopg [3, 18] y.cs.length (fun ik s3 s18 wi => ∃ j : Nat, j ≤ y.cs.length ∧ ik = y.cs.length - j ∧ s18 = .int .i64 j ∧ s3 = .int .i64 ((R + rC y.cs j : Nat) : Int) ∧ Below w.heap.size w wi)
      case atStart => exact ⟨0, Nat.zero_le _, rfl, rfl, rfl, hbw.alloc (hbw.size) _⟩
      case round =>
        obtain ⟨j, hj, hgj, rfl, rfl, hbi⟩ := hrel
        by_cases hjl : j < y.cs.length
        · rcases HC.out with hc0 | ⟨cb, coff, rfl, hcb, hcs⟩
          · rw [hc0] at hjl
            simp at hjl
          · have hjl' : (j : Int) < (y.cs.length : Int) := by omega
            obtain ⟨m0, m1, m2, m3, m4, m5, m6, m7, m8, m9⟩ := (hcs j hjl).of (fun q => hbi.cell (p := ⟨cb, q, none⟩) hcb)
            have HCS := hidIt (rC_step y.cs j hjl)
            have hrc := rC_le y.cs j
            clear hcs
            generalize y.cs[j] = z at *
            by_cases hz : z.d = true
            · have HZ := hidIt hz
              rw [hz] at m9
              clear hz
              have HJ := hidIt hgj
              clear hgj
              go_wp2
              go_roundg (y.cs.length - (j + 1))
              case measure => rw [HJ.out]; omega
              case rel => exact ⟨j + 1, by omega, rfl, by go_num, by rw [HCS.out, if_pos HZ.out]; rfl, hbi.alloc hbi.size _⟩
            · have hz' : z.d = false := by simpa using hz
              have HZ := hidIt hz'
              rw [hz'] at m9
              clear hz hz'
              have HJ := hidIt hgj
              clear hgj
              have hlim : (R : Int) + (rC y.cs j : Int) + 1 ≤ 9223372036854775807 := by omega
              go_wp2
              go_roundg (y.cs.length - (j + 1))
              case measure => rw [HJ.out]; omega
              case rel => exact ⟨j + 1, by omega, rfl, by go_num, by rw [HCS.out, if_neg (by rw [HZ.out]; simp)]; go_num, hbi.alloc hbi.size _⟩
        · obtain rfl : j = y.cs.length := by omega
          go_wp2
          go_roundg (ts.length - (k + 1))
          case measure => rw [HG.out]; omega
          case rel => exact ⟨k + 1, by omega, rfl, by go_num, by rw [HS.out], hbi⟩
    · obtain rfl : k = ts.length := by omega
      go_wp2
      go_ret
      exact ⟨rfl, hbw⟩
theorem impl_rest (w : World) (vm vt : Value) (C : Cw) (h : CwIn w vm vt C) (hf : CwFit C) (wf : CwWf C) :
    Calls Try.prog 7 #[.agg #[.int .i64 C.what, .int .i64 C.size, vm, vt, .int .i64 C.clock]] w fun e w' => e = .returned (.int .i64 (restN C)) ∧ Below w.heap.size w w' := by
  obtain ⟨a0, d0, rfl, -⟩ := h.m.form
  obtain ⟨a, cap, rfl, -, h2⟩ := h.ts
  by_cases h0 : 0 < C.ts.length
  · rcases h2 with h2 | ⟨b, off, rfl, h3, h4⟩
    · rw [h2] at h0; exact absurd h0 (by simp)
    · exact impl_rest_some b off cap _ d0 a0 C.ts _ _ _ w hf.2.1 hf.2.2 h3 h4
  · have h1 := len_zero h0
    unfold restN
    rw [h1]
    exact impl_rest_nil a0 _ d0 cap a _ _ _ w

end Go.Proofs.Ytehgacidfepomab
