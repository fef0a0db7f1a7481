/- Draws of the model, small numbers: the cursor alone is turned; picks. -/
import Derived.Test.YtpafbijpncjgiaaRows
import Derived.WalkKit
import Derived.ProofKit
import Derived.OpenShut
import Derived.ShutString
import Derived.Test.YtpafbijpncjgiaaMakeNum
import Derived.Test.YtpafbijpncjgiaaOutMoves
import Derived.Test.YtpafbijpncjgiaaIntRows
import Derived.Test.YtpafbijpncjgiaaMemFns
import Derived.Deep.AppendLies
namespace Go.Proofs.Ytpafbijpncjgiaa
open Go.ChangeShapes Go.WideShapes Go.ChangeAt Go.RowKit
set_option linter.unusedVariables false

theorem out_set {C k : Nat} {w w' : World} (h : Out C (C + 1) w w') (v : Value) : Out C (C + 1) w (w'.setCell ⟨C, k, none⟩ v) := h.setCell (p := ⟨C, k, none⟩) (Nat.le_refl C) (Nat.lt_succ_self C)
theorem Cur.belows {w w' : World} {B C : Nat} {a : Option Addr} {len cap i : Nat} {h : Int} (c : Cur w C a len cap i h) (hb : Below B w w') (hC : C < B) : Cur w' C a len cap i h :=
  ⟨below_cell hb hC c.c0, below_cell hb hC c.c1, below_cell hb hC c.c2, below_frozen hb hC c.f1, below_frozen hb hC c.f2, c.le⟩
theorem Out.drewN {lo hi : Nat} {w w' : World} (h : Out lo hi w w') (n : Nat) : Out lo hi w (w'.drewN n) := h.trans (Out.of_below (below_drewN (Below.refl _ _) n))
set_option maxHeartbeats 1000000 in
set_option maxRecDepth 100000 in
theorem byte_end_o (w : World) (C : Nat) (a : Option Addr) (len cap i : Nat) (h : Int) (hl : len ≤ 1048576) (hi : ¬ i < len) (hc : Cur w C a len cap i h) :
    Calls Try.prog 57 #[.pointer (some ⟨C, 0, none⟩)] w fun e w' => ∃ (x : Int) (h' : Int), e = .returned (.int .i64 x) ∧ 0 ≤ x ∧ x ≤ 255 ∧ Cur w' C a len cap i h' ∧ Out C (C + 1) w w' := by
  have HC : Hid _ := hc
  obtain ⟨c0, c1, c2, f1, f2, le⟩ := hc
  have hi' : ¬ (i : Int) < (len : Int) := by omega
  go_enter Try.func57, Try.ntmps57
  go_wp2
  go_quiet (fail)
  go_wp2
  go_quiet (fail)
  go_wp2
  go_ret
  refine ⟨_, wrap64 (wrap64 (h * 6364136223846793005) + 1442695040888963407), rfl, (i64_and255 _).1, (i64_and255 _).2, ?_, ?_⟩
  · exact ((HC.out.set2 _).drewN _).drewN _
  · exact Out.drewN (Out.drewN (out_set (Out.refl _ _ _) _) _) _

set_option maxHeartbeats 1000000 in
set_option maxRecDepth 100000 in
theorem byte_more_o (w : World) (C b off : Nat) (len cap i : Nat) (h x : Int) (hl : len ≤ 1048576) (hi : i < len) (hb : b < C) (hx : w.cell? ⟨b, off + i, none⟩ = some (.int .u8 x)) (x1 : 0 ≤ x) (x2 : x ≤ 255) (hc : Cur w C (some ⟨b, off, none⟩) len cap i h) :
    Calls Try.prog 57 #[.pointer (some ⟨C, 0, none⟩)] w fun e w' => ∃ (x : Int) (h' : Int), e = .returned (.int .i64 x) ∧ 0 ≤ x ∧ x ≤ 255 ∧ Cur w' C (some ⟨b, off, none⟩) len cap (i + 1) h' ∧ Out C (C + 1) w w' := by
  have HC : Hid _ := hc
  obtain ⟨c0, c1, c2, f1, f2, le⟩ := hc
  have hi' : (i : Int) < (len : Int) := by omega
  have hx2 : ∀ v, (w.setCell ⟨C, 2, none⟩ v).cell? ⟨b, off + i, none⟩ = some (.int .u8 x) := fun v => by rw [World.cell?_setCell_other _ _ _ _ (by simp <;> omega)]; exact hx
  clear hx
  go_enter Try.func57, Try.ntmps57
  go_wp2
  go_quiet (fail)
  go_wp2
  go_quiet (fail)
  go_wp2
  go_quiet (fail)
  go_wp2
  go_ret
  refine ⟨_, wrap64 (wrap64 (h * 6364136223846793005) + 1442695040888963407), rfl, (i64_and255 _).1, (i64_and255 _).2, ?_, ?_⟩
  · exact ((HC.out.set2 _).drewN _).set1 (i + 1) _ (by omega) (by omega)
  · exact out_set (Out.drewN (out_set (Out.refl _ _ _) _) _) _

theorem byte_any_o (w : World) (C : Nat) (a : Option Addr) (len cap i : Nat) (h : Int) (hB : Bytes w C a len) (hc : Cur w C a len cap i h) :
    Calls Try.prog 57 #[.pointer (some ⟨C, 0, none⟩)] w fun e w' => ∃ (x : Int) (i' : Nat) (h' : Int), e = .returned (.int .i64 x) ∧ 0 ≤ x ∧ x ≤ 255 ∧ Cur w' C a len cap i' h' ∧ Out C (C + 1) w w' := by
  by_cases hi : i < len
  · obtain ⟨b, off, x, rfl, h2, h3, h4, h5⟩ := hB.2 i hi
    refine (byte_more_o w C b off len cap i h x hB.1 hi h2 h3 h4 h5 hc).mono ?_
    rintro e w' ⟨x, h', r⟩
    exact ⟨x, i + 1, h', r⟩
  · refine (byte_end_o w C a len cap i h hB.1 hi hc).mono ?_
    rintro e w' ⟨x, h', r⟩
    exact ⟨x, i, h', r⟩
theorem Bytes.outs {w w' : World} {C : Nat} {a : Option Addr} {len : Nat} (h : Bytes w C a len) (hc : C ≤ w.heap.size) (ho : Out C (C + 1) w w') : Bytes w' C a len := h.below (ho.below (Nat.le_refl _) hc)
set_option maxHeartbeats 1000000 in
set_option maxRecDepth 100000 in
theorem below_small (w : World) (C : Nat) (a : Option Addr) (len cap i : Nat) (h : Int) (n : Int) (hB : Bytes w C a len) (hc : Cur w C a len cap i h) (h1 : 0 < n) (h2 : n ≤ 256) :
    Calls Try.prog 34 #[.pointer (some ⟨C, 0, none⟩), .int .i64 n] w fun e w' => ∃ (x : Int) (i' : Nat) (h' : Int), e = .returned (.int .i64 x) ∧ 0 ≤ x ∧ x < n ∧ Cur w' C a len cap i' h' ∧ Out C (C + 1) w w' := by
  have g1 : ¬ n ≤ 0 := by omega
  have HB := hidIt hB
  clear hB
  go_enter Try.func34, Try.ntmps34
  go_wp2_with fail
  refine (byte_any_o _ C a len cap i h HB.out hc).mono ?_
  rintro e w1 ⟨x1, i1, z1, rfl, x1a, x1b, k1, b1⟩
  go_wp2
  go_ret
  exact ⟨_, i1, z1, rfl, Int.emod_nonneg _ (by omega), Int.emod_lt_of_pos _ (by omega), k1, b1⟩
set_option maxHeartbeats 1000000 in
set_option maxRecDepth 100000 in
theorem make_num_small (w : World) (a : Option Addr) (len cap : Nat) (n : Int) (hB : Bytes w w.heap.size a len) (h1 : 0 < n) (h2 : n ≤ 256) :
    Calls Try.prog 9 #[.slice a len cap, .int .i64 n] w fun e w' => ∃ x : Int, e = .returned (.int .i64 x) ∧ 0 ≤ x ∧ x < n ∧ Below w.heap.size w w' := by
  go_enter Try.func9, Try.ntmps9
  go_wp2_with fail
  refine (new_any _ a len cap hB).mono ?_
  rintro e w1 ⟨h, rfl, rfl⟩
  go_wp2_with fail
  have hb1 : ∀ v, Below w.heap.size w (w.alloc (.cells #[.slice a len cap, .int .i64 0, .int .i64 v] 60)) := fun v => (Below.refl _ _).alloc (Nat.le_refl _) _
  refine (below_small _ w.heap.size a len cap 0 _ n (Bytes.below hB (hb1 _)) (cur_new w a len cap _) h1 h2).mono ?_
  rintro e w2 ⟨x, i', h', rfl, x1, x2, -, b2⟩
  go_wp2
  go_ret
  exact ⟨x, rfl, x1, x2, (hb1 _).trans (b2.below (Nat.le_refl _) (by simp))⟩
theorem own_out {w w' : World} {base C : Nat} {e : TypeId} {size : Nat} {v : Value} {n : Nat} {xs : List Value} (h : w.ownsRow base e size v n xs) (hc : C < base) (ho : Out C (C + 1) w w') : w'.ownsRow base e size v n xs := by
  refine ⟨h.1, ?_⟩
  rcases h.2 with hn | ⟨g, cap, cur, rfl, hbg, hgg, rest⟩
  · exact .inl hn
  · exact .inr ⟨g, cap, cur, rfl, hbg, by rw [ho.block g (Array.getElem?_eq_some_iff.1 hgg).1 (.inr (by omega))]; exact hgg, rest⟩
set_option maxHeartbeats 1000000 in
set_option maxRecDepth 100000 in
theorem picks07 (w : World) (C : Nat) (a : Option Addr) (len cap i : Nat) (h : Int) (most : Nat) (hB : Bytes w C a len) (hc : Cur w C a len cap i h) (h2 : most ≤ 255) :
    Calls Try.prog 37 #[.pointer (some ⟨C, 0, none⟩), .int .i64 (most : Int)] w fun e w' => ∃ (v : Value) (P : List Int), e = .returned v ∧ P.length ≤ most ∧ (∀ x ∈ P, 0 ≤ x ∧ x < 12) ∧ Row w' w.heap.size w'.heap.size v (ints P) ∧ Below C w w' := by
  obtain ⟨i0, hi0, hz0, hz1, hz2⟩ := info_parts info3
  have HB := hidIt hB
  have HC := hidIt hc
  have hlt := hc.lt
  clear hB hc
  go_enter Try.func37, Try.ntmps37
  go_wp2_with fail
  have hal : Below w.heap.size w (w.alloc (.cells #[] 3)) := (Below.refl _ _).alloc (Nat.le_refl _) _
  refine (below_small _ C a len cap i h _ (HB.out.below (hal.mono (by omega))) (HC.out.belows hal hlt) (by omega) (by omega)).mono ?_
  rintro e w1 ⟨q, i1, z1, rfl, q1, q2, k1, b1⟩
  obtain ⟨m, rfl⟩ : ∃ m : Nat, q = m := ⟨q.toNat, by omega⟩
  have K1 := hidIt k1
  have z := b1.size
  simp at z
  have O1 := hidIt (show w1.ownsRow w.heap.size 3 1 (.slice (some ⟨w.heap.size, 0, none⟩) 0 0) 0 (ints []) by
    have := World.ownsRow_made (base := w.heap.size) (e := 3) (size := 1) w #[] 0 (Nat.le_refl _) (by unfold maxLen; omega) (by simp)
    exact own_out (by simpa using this) hlt b1)
  have B1 := hidIt ((hal.mono (by omega)).trans (b1.below (Nat.le_refl C) (by simp; omega)))
  have BY := hidIt (HB.out.below B1.out)
  clear k1 b1 hal HC HB
  go_wp2
  go_loopw [5, 6] (fun v s wr => ∃ (k : Nat) (P : List Int) (i : Nat) (h : Int), s = .int .i64 k ∧ P.length + k ≤ most ∧ w.heap.size < wr.heap.size ∧ Hid ((∀ x ∈ P, 0 ≤ x ∧ x < 12) ∧ wr.ownsRow w.heap.size 3 1 v P.length (ints P) ∧ Cur wr C a len cap i h ∧ Below C w wr ∧ Bytes wr C a len)) (fun _ s _ => (intOf s).toNat)
  case atStart => exact ⟨m, [], i1, z1, rfl, by simp; omega, by omega, ⟨by simp, O1.out, K1.out, B1.out, BY.out⟩⟩
  case round =>
    obtain ⟨k, P, j, y, rfl, hk, hzr, HI⟩ := hrel
    by_cases h0 : k = 0
    · subst h0
      have HO := hidIt (Row.of_owns HI.out.2.1)
      obtain ⟨av, cv, hv⟩ := HO.out.form
      go_wp2
      go_ret
      exact ⟨_, P, rfl, by omega, HI.out.1, HO.out, HI.out.2.2.2.1⟩
    · have hk0 : (0 : Int) < (k : Int) := by omega
      go_wp2_with fail
      refine (below_small _ C a len cap j y 12 HI.out.2.2.2.2 HI.out.2.2.1 (by omega) (by omega)).mono ?_
      rintro e w2 ⟨q, i2, z2, rfl, y1, y2, k2, b2⟩
      have K2 := hidIt k2
      have hown := own_out HI.out.2.1 hlt b2
      have B2 := hidIt (HI.out.2.2.2.1.trans (b2.below (Nat.le_refl C) (by omega)))
      have BY2 := hidIt (HI.out.2.2.2.2.below (b2.below (Nat.le_refl C) (by omega)))
      have z2 := b2.size
      have hpl : P.length ≤ most := by omega
      obtain ⟨av, cv, hv⟩ := (Row.of_owns hown).form
      clear k2 b2
      subst hv
      go_wp2_with (at_builtin; refine wpList_append_own _ rfl (.tmp 16) (.tmp 19) 24 rfl w.heap.size 3 i0 (.int .i64 0) 1 8 Try.underlying24 hi0 hz0 hz1 hz2 rfl (by decide) _ _ _ rfl (hown.alloc _) ⟨w2.heap.size, 0, none⟩ 1 1 [.int .i64 q] rfl rfl ?c1 ?c2 ?c3 ?c4 ?c5 ?_)
      case c1 => exact cell_one_new _ _ _
      case c2 => intro u hu; simp at hu; subst hu; rfl
      case c3 => unfold maxLen; omega
      case c4 => omega
      case c5 => simp; omega
      intro v' w3 hown' hgrow _
      have hb1 : Below w.heap.size w2 w3 := ((Below.refl _ _).alloc (by omega) _).grown hgrow (by simp; omega) (fun q hq => by have := (hown.lt q hq).1; omega)
      have hzz := hgrow.size
      simp at hzz
      have HO' := hidIt hown'
      clear hgrow hown hown'
      go_wp2
      go_roundw
      case rel =>
        refine ⟨k - 1, P ++ [q], i2, _, by go_num, by simp; omega, by omega, ⟨?_, by simpa using HO'.out, K2.out.belows hb1 hlt, B2.out.trans (hb1.mono (by omega)), BY2.out.below (hb1.mono (by omega))⟩⟩
        intro x hx
        rcases List.mem_append.1 hx with hx | hx
        · exact HI.out.1 x hx
        · simp at hx; omega
      case measure => simp [intOf]; omega
set_option maxHeartbeats 1000000 in
set_option maxRecDepth 100000 in
theorem make_picks (w : World) (a : Option Addr) (len cap : Nat) (most : Nat) (hB : Bytes w w.heap.size a len) (h2 : most ≤ 255) :
    Calls Try.prog 11 #[.slice a len cap, .int .i64 (most : Int)] w fun e w' => ∃ (v : Value) (P : List Int), e = .returned v ∧ P.length ≤ most ∧ (∀ x ∈ P, 0 ≤ x ∧ x < 12) ∧ Row w' w.heap.size w'.heap.size v (ints P) ∧ Below w.heap.size w w' := by
  go_enter Try.func11, Try.ntmps11
  go_wp2_with fail
  refine (new_any _ a len cap hB).mono ?_
  rintro e w1 ⟨h, rfl, rfl⟩
  go_wp2_with fail
  have hb1 : ∀ v, Below w.heap.size w (w.alloc (.cells #[.slice a len cap, .int .i64 0, .int .i64 v] 60)) := fun v => (Below.refl _ _).alloc (Nat.le_refl _) _
  refine (picks07 _ w.heap.size a len cap 0 _ most (Bytes.below hB (hb1 _)) (cur_new w a len cap _) h2).mono ?_
  rintro e w2 ⟨v, P, rfl, p1, p2, r2, b2⟩
  obtain ⟨av, cv, rfl⟩ := r2.form
  have HR := hidIt r2
  have HB := hidIt ((hb1 _).trans b2)
  clear r2 b2
  go_wp2
  go_ret
  exact ⟨_, P, rfl, p1, p2, HR.out.lo (by simp), HB.out⟩

end Go.Proofs.Ytpafbijpncjgiaa
