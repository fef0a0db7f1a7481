/- Which threads have calls left, by the model and by the program. -/
import Derived.Test.YtehgacidfepomaaRows
import Derived.WalkKit
import Derived.ProofKit
import Derived.OpenShut
import Derived.ShutString
import Derived.Test.YtehgacidfepomaaCwLaw
import Derived.Deep.LoopGhost
import Derived.Deep.AppendLies
namespace Go.Proofs.Ytehgacidfepomaa
open Go.ChangeShapes Go.WideShapes Go.ChangeAt Go.RowKit
set_option linter.unusedVariables false

def ableT (t : Th) : Bool := decide (t.at_ < (t.cs.length : Int))
def aL (ts : List Th) : Nat → List Int
  | 0 => []
  | k + 1 => aL ts k ++ (if ableT (ts.getD k default) = true then [(k : Int)] else [])
def ableL (C : Cw) : List Int := aL C.ts C.ts.length
theorem aL_step (ts : List Th) (k : Nat) (h : k < ts.length) : aL ts (k + 1) = aL ts k ++ (if ableT ts[k] = true then [(k : Int)] else []) := by
  show aL ts k ++ (if ableT (ts.getD k default) = true then [(k : Int)] else []) = _
  rw [getD_at ts k h]
theorem aL_len (ts : List Th) (k : Nat) : (aL ts k).length ≤ k := by
  induction k with
  | zero => exact Nat.le_refl _
  | succ k ih => show (aL ts k ++ _).length ≤ k + 1; rw [List.length_append]; split <;> simp <;> omega
theorem ints_of_owns {w w' : World} {base : Nat} {e : TypeId} {v : Value} {n : Nat} {xs : List Int} (h : w'.ownsRow base e 1 v n (ints xs)) (hb : w.heap.size ≤ base) (hw : Below w.heap.size w w') : IntsNew w w' v xs := by
  rcases own_cells h with ⟨rfl, hn, hx⟩ | ⟨g, cap, rfl, h1, h2, h3, h4, h5, h6, h7⟩
  · have : xs = [] := by simpa using hx
    subst this
    exact ⟨[], ⟨none, 0, rfl, Nat.le_refl _, .inl ⟨rfl, rfl⟩⟩, List.nodup_nil, by simp, hw⟩
  · rw [ints_len] at h5
    refine ⟨[g], ⟨_, cap, by rw [h5], by omega, .inr ⟨g, rfl, rfl, h2, fun j hj => ?_, h7⟩⟩, by simp, by simp; omega, hw⟩
    rw [h6 j (by simpa using hj)]
    simp

theorem spec_able_nil (a : Option Addr) (n c cap : Nat) (p : Option Addr) (x0 x1 x4 : Int) (w : World) :
    Calls Try.prog 20 #[.agg #[.int .i64 x0, .int .i64 x1, .slice a n c, .slice p 0 cap, .int .i64 x4]] w fun e w' => ∃ v', e = .returned v' ∧ IntsNew w w' v' [] := by
  go_enter Try.func20, Try.ntmps20
  go_wp2
  go_loop [3, 10] (fun v i => v = .slice (some ⟨w.heap.size + 1, 0, none⟩) 0 0 ∧ i = .int .i64 0) (fun _ _ => 0)
  case atStart => exact ⟨rfl, rfl⟩
  case round =>
    obtain ⟨rfl, rfl⟩ := hrel
    go_wp2
    go_ret
    exact ⟨.slice (some ⟨w.heap.size + 1, 0, none⟩) 0 0, rfl, [], ⟨_, 0, rfl, Nat.le_refl _, .inl ⟨rfl, rfl⟩⟩, List.nodup_nil, by simp, ((Below.refl _ _).alloc (Nat.le_refl _) _).alloc (by simp) _⟩
set_option maxHeartbeats 1600000 in
set_option maxRecDepth 100000 in
theorem spec_able_some (b off cap n c : Nat) (p : Option Addr) (ts : List Th) (x0 x1 x4 : Int) (w : World) (hn : ts.length ≤ 4194304) (hf : TsFit ts) (hb : b < w.heap.size)
    (hA : ∀ j (hj : j < ts.length), ∃ v0 v2 v3, At4 w b (off + j * 4) v0 (.int .i64 ts[j].at_) v2 v3 ∧ ThIn w v0 v2 v3 ts[j]) :
    Calls Try.prog 20 #[.agg #[.int .i64 x0, .int .i64 x1, .slice p n c, .slice (some ⟨b, off, none⟩) ts.length cap, .int .i64 x4]] w fun e w' => ∃ v', e = .returned v' ∧ IntsNew w w' v' (aL ts ts.length) := by
  obtain ⟨i0, hi0, hz0, hz1, hz2⟩ := info_parts info3
  have HA := hidIt hA
  have HF := hidIt hf
  have HL := hidIt (fun k => aL_len ts k)
  clear hA hf
  go_enter Try.func20, Try.ntmps20
  go_wp2
  go_loopg [3, 10] ts.length (fun gk s3 si wr => ∃ k : Nat, k ≤ ts.length ∧ gk = ts.length - k ∧ si = .int .i64 k ∧ w.heap.size + 1 ≤ wr.heap.size ∧ wr.ownsRow (w.heap.size + 1) 3 1 s3 (aL ts k).length (ints (aL ts k)) ∧ Below w.heap.size w wr)
  case atStart => exact ⟨0, Nat.zero_le _, rfl, rfl, by simp, by have := World.ownsRow_made (base := w.heap.size + 1) (e := 3) (size := 1) (w.alloc (.cells #[.int .i64 x0, .int .i64 x1, .slice p n c, .slice (some ⟨b, off, none⟩) ts.length cap, .int .i64 x4] 29)) #[] 0 (by simp) (by unfold maxLen; omega) (by simp); simpa [aL] using this, ((Below.refl _ _).alloc (Nat.le_refl _) _).alloc (by simp) _⟩
  case round =>
    obtain ⟨k, hk, hgk, rfl, hsz, hown, hbw⟩ := hrel
    by_cases hlt : k < ts.length
    · have hlt' : (k : Int) < (ts.length : Int) := by omega
      obtain ⟨v0, v2, v3, h4, h5⟩ := HA.out k hlt
      obtain ⟨q1, q2, q3⟩ := HF.out k hlt
      have HS := hidIt (aL_step ts k hlt)
      have hle := HL.out k
      obtain ⟨r0, r1, r2, r3⟩ := h4.of (fun q => hbw.cell (p := ⟨b, q, none⟩) hb)
      obtain ⟨a2, d2, rfl, -⟩ := h5.bs.form
      obtain ⟨a3, d3, rfl, -⟩ := h5.es.form
      obtain ⟨a0, d0, rfl, -⟩ := h5.cs.form
      clear h4 h5
      generalize ts[k] = y at *
      have HG := hidIt hgk
      clear hgk
      generalize aL ts k = L at *
      have HO := hidIt (Row.of_owns hown)
      obtain ⟨av, cv, hv⟩ := HO.out.form
      subst hv
      by_cases hat : y.at_ < (y.cs.length : Int)
      · have HT := hidIt hat
        go_wp2_with (at_builtin; refine wpList_append_own _ rfl _ _ 24 rfl (w.heap.size + 1) 3 i0 (.int .i64 0) 1 8 Try.underlying24 hi0 hz0 hz1 hz2 rfl (by decide) _ _ _ rfl ((hown.alloc _).alloc _) ⟨wr.heap.size + 1, 0, none⟩ 1 1 [.int .i64 (k : Int)] rfl rfl ?c1 ?c2 ?c3 ?c4 ?c5 ?_)
        case c1 => have := cell_one_new (wr.alloc (.cells #[.slice a0 y.cs.length d0, .int .i64 y.at_, .slice a2 y.bs.length d2, .slice a3 y.es.length d3] 55)) (.int .i64 (k : Int)) 3; simpa using this
        case c2 => intro u hu; simp at hu; subst hu; rfl
        case c3 => unfold maxLen; omega
        case c4 => omega
        case c5 => simp; omega
        intro v' w1' hown' hgrow _
        have hb1 : Below w.heap.size w w1' := ((hbw.alloc hbw.size _).alloc (by simp; omega) _).grown hgrow (by simp; omega) (fun q hq => by have := (hown.lt q hq).1; omega)
        have hzz := hgrow.size
        simp at hzz
        clear hgrow hown hat
        go_wp2
        go_roundg (ts.length - (k + 1))
        case measure => rw [HG.out]; omega
        case rel =>
          refine ⟨k + 1, by omega, rfl, by go_num, by omega, ?_, hb1⟩
          rw [HS.out, if_pos (show ableT y = true from decide_eq_true (by have := HT.out; omega))]
          simpa using hown'
      · have HT := hidIt hat
        have hat' : ¬ (y.at_ < (y.cs.length : Int)) := hat
        go_wp2
        go_roundg (ts.length - (k + 1))
        case measure => rw [HG.out]; omega
        case rel =>
          refine ⟨k + 1, by omega, rfl, by go_num, by simp; omega, ?_, hbw.alloc hbw.size _⟩
          rw [HS.out, if_neg (by rw [show ableT y = false from decide_eq_false (by have := HT.out; omega)]; simp), List.append_nil]
          exact hown.alloc _
    · obtain rfl : k = ts.length := by omega
      have HO := hidIt (Row.of_owns hown)
      obtain ⟨av, cv, hv⟩ := HO.out.form
      have HB := hidIt (ints_of_owns hown (Nat.le_succ _) hbw)
      clear hown
      subst hv
      go_wp2
      go_ret
      exact ⟨_, rfl, HB.out⟩
theorem spec_able (w : World) (vm vt : Value) (C : Cw) (h : CwIn w vm vt C) (hf : CwFit C) (wf : CwWf C) :
    Calls Try.prog 20 #[.agg #[.int .i64 C.what, .int .i64 C.size, vm, vt, .int .i64 C.clock]] w fun e w' => ∃ v', e = .returned v' ∧ IntsNew w w' v' (ableL C) := by
  obtain ⟨a0, d0, rfl, -⟩ := h.m.form
  obtain ⟨a, cap, rfl, -, h2⟩ := h.ts
  by_cases h0 : 0 < C.ts.length
  · rcases h2 with h2 | ⟨b, off, rfl, h3, h4⟩
    · rw [h2] at h0; exact absurd h0 (by simp)
    · exact spec_able_some b off cap _ d0 a0 C.ts _ _ _ w hf.2.1 hf.2.2 h3 h4
  · have h1 := len_zero h0
    unfold ableL
    rw [h1]
    exact spec_able_nil a0 _ d0 cap a _ _ _ w

theorem impl_able_nil (a : Option Addr) (n c cap : Nat) (p : Option Addr) (x0 x1 x4 : Int) (w : World) :
    Calls Try.prog 21 #[.agg #[.int .i64 x0, .int .i64 x1, .slice a n c, .slice p 0 cap, .int .i64 x4]] w fun e w' => ∃ v', e = .returned v' ∧ IntsNew w w' v' [] := by
  go_enter Try.func21, Try.ntmps21
  go_wp2
  go_loop [3, 9] (fun v i => v = .slice none 0 0 ∧ i = .int .i64 0) (fun _ _ => 0)
  case atStart => exact ⟨rfl, rfl⟩
  case round =>
    obtain ⟨rfl, rfl⟩ := hrel
    go_wp2
    go_ret
    exact ⟨.slice none 0 0, rfl, [], ⟨_, 0, rfl, Nat.le_refl _, .inl ⟨rfl, rfl⟩⟩, List.nodup_nil, by simp, (Below.refl _ _).alloc (Nat.le_refl _) _⟩
set_option maxHeartbeats 1600000 in
set_option maxRecDepth 100000 in
theorem impl_able_some (b off cap n c : Nat) (p : Option Addr) (ts : List Th) (x0 x1 x4 : Int) (w : World) (hn : ts.length ≤ 4194304) (hf : TsFit ts) (hb : b < w.heap.size)
    (hA : ∀ j (hj : j < ts.length), ∃ v0 v2 v3, At4 w b (off + j * 4) v0 (.int .i64 ts[j].at_) v2 v3 ∧ ThIn w v0 v2 v3 ts[j]) :
    Calls Try.prog 21 #[.agg #[.int .i64 x0, .int .i64 x1, .slice p n c, .slice (some ⟨b, off, none⟩) ts.length cap, .int .i64 x4]] w fun e w' => ∃ v', e = .returned v' ∧ IntsNew w w' v' (aL ts ts.length) := by
  obtain ⟨i0, hi0, hz0, hz1, hz2⟩ := info_parts info3
  have HA := hidIt hA
  have HF := hidIt hf
  have HL := hidIt (fun k => aL_len ts k)
  clear hA hf
  go_enter Try.func21, Try.ntmps21
  go_wp2
  go_loopg [3, 9] ts.length (fun gk s3 si wr => ∃ k : Nat, k ≤ ts.length ∧ gk = ts.length - k ∧ si = .int .i64 k ∧ w.heap.size + 1 ≤ wr.heap.size ∧ wr.ownsRow (w.heap.size + 1) 3 1 s3 (aL ts k).length (ints (aL ts k)) ∧ Below w.heap.size w wr)
  case atStart => exact ⟨0, Nat.zero_le _, rfl, rfl, by simp, ⟨rfl, .inl ⟨rfl, rfl⟩⟩, (Below.refl _ _).alloc (Nat.le_refl _) _⟩
  case round =>
    obtain ⟨k, hk, hgk, rfl, hsz, hown, hbw⟩ := hrel
    by_cases hlt : k < ts.length
    · have hlt' : (k : Int) < (ts.length : Int) := by omega
      obtain ⟨v0, v2, v3, h4, h5⟩ := HA.out k hlt
      obtain ⟨q1, q2, q3⟩ := HF.out k hlt
      have HS := hidIt (aL_step ts k hlt)
      have hle := HL.out k
      obtain ⟨r0, r1, r2, r3⟩ := h4.of (fun q => hbw.cell (p := ⟨b, q, none⟩) hb)
      obtain ⟨a2, d2, rfl, -⟩ := h5.bs.form
      obtain ⟨a3, d3, rfl, -⟩ := h5.es.form
      obtain ⟨a0, d0, rfl, -⟩ := h5.cs.form
      clear h4 h5
      generalize ts[k] = y at *
      have HG := hidIt hgk
      clear hgk
      generalize aL ts k = L at *
      have HO := hidIt (Row.of_owns hown)
      obtain ⟨av, cv, hv⟩ := HO.out.form
      subst hv
      by_cases hat : y.at_ < (y.cs.length : Int)
      · have HT := hidIt hat
        go_wp2_with (at_builtin; refine wpList_append_own _ rfl _ _ 24 rfl (w.heap.size + 1) 3 i0 (.int .i64 0) 1 8 Try.underlying24 hi0 hz0 hz1 hz2 rfl (by decide) _ _ _ rfl ((hown.alloc _).alloc _) ⟨wr.heap.size + 1, 0, none⟩ 1 1 [.int .i64 (k : Int)] rfl rfl ?c1 ?c2 ?c3 ?c4 ?c5 ?_)
        case c1 => have := cell_one_new (wr.alloc (.cells #[.slice a0 y.cs.length d0, .int .i64 y.at_, .slice a2 y.bs.length d2, .slice a3 y.es.length d3] 55)) (.int .i64 (k : Int)) 3; simpa using this
        case c2 => intro u hu; simp at hu; subst hu; rfl
        case c3 => unfold maxLen; omega
        case c4 => omega
        case c5 => simp; omega
        intro v' w1' hown' hgrow _
        have hb1 : Below w.heap.size w w1' := ((hbw.alloc hbw.size _).alloc (by simp; omega) _).grown hgrow (by simp; omega) (fun q hq => by have := (hown.lt q hq).1; omega)
        have hzz := hgrow.size
        simp at hzz
        clear hgrow hown hat
        go_wp2
        go_roundg (ts.length - (k + 1))
        case measure => rw [HG.out]; omega
        case rel =>
          refine ⟨k + 1, by omega, rfl, by go_num, by omega, ?_, hb1⟩
          rw [HS.out, if_pos (show ableT y = true from decide_eq_true (by have := HT.out; omega))]
          simpa using hown'
      · have HT := hidIt hat
        have hat' : ¬ (y.at_ < (y.cs.length : Int)) := hat
        go_wp2
        go_roundg (ts.length - (k + 1))
        case measure => rw [HG.out]; omega
        case rel =>
          refine ⟨k + 1, by omega, rfl, by go_num, by simp; omega, ?_, hbw.alloc hbw.size _⟩
          rw [HS.out, if_neg (by rw [show ableT y = false from decide_eq_false (by have := HT.out; omega)]; simp), List.append_nil]
          exact hown.alloc _
    · obtain rfl : k = ts.length := by omega
      have HO := hidIt (Row.of_owns hown)
      obtain ⟨av, cv, hv⟩ := HO.out.form
      have HB := hidIt (ints_of_owns hown (Nat.le_succ _) hbw)
      clear hown
      subst hv
      go_wp2
      go_ret
      exact ⟨_, rfl, HB.out⟩
theorem impl_able (w : World) (vm vt : Value) (C : Cw) (h : CwIn w vm vt C) (hf : CwFit C) (wf : CwWf C) :
    Calls Try.prog 21 #[.agg #[.int .i64 C.what, .int .i64 C.size, vm, vt, .int .i64 C.clock]] w fun e w' => ∃ v', e = .returned v' ∧ IntsNew w w' v' (ableL C) := by
  obtain ⟨a0, d0, rfl, -⟩ := h.m.form
  obtain ⟨a, cap, rfl, -, h2⟩ := h.ts
  by_cases h0 : 0 < C.ts.length
  · rcases h2 with h2 | ⟨b, off, rfl, h3, h4⟩
    · rw [h2] at h0; exact absurd h0 (by simp)
    · exact impl_able_some b off cap _ d0 a0 C.ts _ _ _ w hf.2.1 hf.2.2 h3 h4
  · have h1 := len_zero h0
    unfold ableL
    rw [h1]
    exact impl_able_nil a0 _ d0 cap a _ _ _ w
theorem ableL_small (C : Cw) (h : CwFit C) : (ableL C).length ≤ 4194304 := Nat.le_trans (aL_len _ _) h.2.1

end Go.Proofs.Ytehgacidfepomaa
