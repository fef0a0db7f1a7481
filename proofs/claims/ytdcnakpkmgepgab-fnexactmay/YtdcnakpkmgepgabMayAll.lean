/- Contracts of functions of the program and of its model, and plain lemmas: several texts in one. -/
import Derived.Test.YtdcnakpkmgepgabRows
import Derived.WalkKit
import Derived.ProofKit
import Derived.OpenShut
import Derived.ShutString
import Derived.Test.YtdcnakpkmgepgabPoolBaseB
import Derived.Test.YtdcnakpkmgepgabPoolBaseA
import Derived.Deep.RegionHeld3

namespace Go.Proofs.Ytdcnakpkmgepgab
open Go.ChangeShapes Go.WideShapes Go.ChangeAt Go.RowKit
set_option linter.unusedVariables false

theorem plOk_both : True := trivial

end Go.Proofs.Ytdcnakpkmgepgab

namespace Go.Proofs.Ytdcnakpkmgepgab
open Go.ChangeShapes Go.WideShapes Go.ChangeAt Go.RowKit
set_option linter.unusedVariables false

def mayIn (P : Pl) (x pin : Int) : Bool := match stF P x with
  | some q => if q.1 = 2 then true else if q.1 = 3 then decide (pin ≤ q.2) else false
  | none => false
def pinAt (P : Pl) (h : Int) : Int := P.ps.getD h.toNat 0
def mayB (P : Pl) (h x : Int) : Bool := plOkB P && decide (0 ≤ h ∧ h < (P.ps.length : Int)) && (pinAt P h != -1) && mayIn P x (pinAt P h)
theorem may_no1 {P : Pl} {h x : Int} (e : plOkB P = false) : mayB P h x = false := by simp [mayB, e]
theorem may_no2 {P : Pl} {h x : Int} (e : ¬ (0 ≤ h ∧ h < (P.ps.length : Int))) : mayB P h x = false := by simp only [mayB, decide_eq_false e, Bool.and_false, Bool.false_and]
theorem may_no3 {P : Pl} {h x : Int} (e : pinAt P h = -1) : mayB P h x = false := by simp [mayB, e]
theorem may_is {P : Pl} {h x : Int} (e1 : plOkB P = true) (e2 : 0 ≤ h ∧ h < (P.ps.length : Int)) (e3 : pinAt P h ≠ -1) : mayB P h x = mayIn P x (pinAt P h) := by
  simp only [mayB, e1, decide_eq_true e2, Bool.true_and]
  simp [e3]
theorem stU_nodup {P : Pl} (h : plOkB P = true) : ((stU P).map (·.1)).Nodup := by
  rw [stU_keys]
  exact (places_nodup (plOk_parts h).2.2.2).1
theorem st_limbo {P : Pl} (h : plOkB P = true) (j : Nat) (hj : j < P.L.length) : stF P (goneAt P.L j).1 = some (3, (goneAt P.L j).2) := by
  refine putAll_nodup _ _ (stU_nodup h) _ _ ?_
  simp only [stU, List.mem_append, List.mem_map]
  exact .inr (.inr ⟨P.L[j], List.getElem_mem hj, by rw [goneAt_eq P.L j hj]⟩)
theorem st_live {P : Pl} (h : plOkB P = true) (x : Int) (hx : x ∈ P.lv) : stF P x = some (2, 0) := by
  refine putAll_nodup _ _ (stU_nodup h) _ _ ?_
  simp only [stU, List.mem_append, List.mem_map]
  exact .inr (.inl ⟨x, hx, rfl⟩)
theorem st_free {P : Pl} (h : plOkB P = true) (x : Int) (hx : x ∈ P.fr) : stF P x = some (1, 0) := by
  refine putAll_nodup _ _ (stU_nodup h) _ _ ?_
  simp only [stU, List.mem_append, List.mem_map]
  exact .inl ⟨x, hx, rfl⟩
theorem st_cases {P : Pl} (h : plOkB P = true) (x : Int) (h1 : ∀ j, j < P.L.length → (goneAt P.L j).1 ≠ x) (h2 : ¬ x ∈ P.lv) : stF P x = none ∨ stF P x = some (1, 0) := by
  by_cases hf : x ∈ P.fr
  · exact .inr (st_free h x hf)
  · refine .inl (stF_none P x ?_)
    simp only [allOf, nodesL, List.mem_append, List.mem_map, not_or]
    refine ⟨hf, h2, ?_⟩
    rintro ⟨q, hq, rfl⟩
    obtain ⟨j, hj, rfl⟩ := List.mem_iff_getElem.1 hq
    exact h1 j hj (by rw [goneAt_eq P.L j hj])
theorem mayIn_limbo {P : Pl} (h : plOkB P = true) (j : Nat) (hj : j < P.L.length) (pin : Int) : mayIn P (goneAt P.L j).1 pin = decide (pin ≤ (goneAt P.L j).2) := by
  unfold mayIn
  rw [st_limbo h j hj]
  simp
theorem mayIn_rest {P : Pl} (h : plOkB P = true) (x pin : Int) (h1 : ∀ j, j < P.L.length → (goneAt P.L j).1 ≠ x) : mayIn P x pin = hasN P.lv x := by
  unfold mayIn hasN
  by_cases h2 : x ∈ P.lv
  · rw [st_live h x h2]; simp [h2]
  · rcases st_cases h x h1 h2 with e | e <;> (rw [e]; simp [h2])
theorem spec_hasI (v : Value) (xs : List Int) (y : Int) (w : World) (hn : xs.length ≤ 4194304) (h : IntsIn w v xs) :
    Calls Try.prog 36 #[v, .int .i64 y] w fun e w' => e = .returned (.bool (hasN xs y)) ∧ w' = w := by
  obtain ⟨⟨a, c, rfl, h⟩, -⟩ := h
  rcases h with rfl | ⟨b, off, rfl, hb, hc⟩
  · exact spec_has_zero a c y w
  have HA := hidIt hc
  clear hc
  go_enter Try.func36, Try.ntmps36
  go_wp2
  go_loop [6, 9] (fun _ i => ∃ k : Nat, k ≤ xs.length ∧ i = .int .i64 k ∧ Hid (¬ y ∈ xs.take k)) (fun _ i => xs.length - (intOf i).toNat)
  case atStart => exact ⟨0, Nat.zero_le _, rfl, by show ¬ y ∈ xs.take 0; simp⟩
  case round =>
    obtain ⟨k, hk, rfl, HT⟩ := hrel
    by_cases hlt : k < xs.length
    · have cA := HA.out k hlt
      have hlt' : (k : Int) < (xs.length : Int) := by omega
      obtain ⟨x, hx⟩ : ∃ x, xs[k] = x := ⟨_, rfl⟩
      rw [hx] at cA
      have HX := hidIt hx
      clear hx
      by_cases he : x = y
      · have HE := hidIt he
        have hb : (x == y) = true := by simpa using he
        clear he
        go_wp2
        go_ret
        exact ⟨ret_boolx (take_hit hlt (HX.out.trans HE.out)).symm, rfl⟩
      · have HE := hidIt he
        have hb : (x == y) = false := by simpa using he
        clear he
        go_wp2
        go_round
        case rel => exact ⟨k + 1, by omega, by go_num, take_miss hlt (by rw [HX.out]; exact HE.out) HT.out⟩
        case measure => simp [intOf]; omega
    · go_wp2
      go_ret
      exact ⟨ret_boolx (take_end hlt HT.out).symm, rfl⟩
theorem pin_cell {w : World} {a : Option Addr} {c : Nat} {P : Pl} (h : InRow w (.slice a P.ps.length c) P.ps) {h0 : Int} (e : 0 ≤ h0 ∧ h0 < (P.ps.length : Int)) : ∃ b off i, a = some ⟨b, off, none⟩ ∧ h0 = ((i : Nat) : Int) ∧ i < P.ps.length ∧ w.cell? ⟨b, off + i, none⟩ = some (.int .i64 (pinAt P h0)) ∧ b < w.heap.size := by
  obtain ⟨a', c', hv, hp⟩ := h
  simp at hv
  obtain ⟨rfl, rfl⟩ := hv
  obtain ⟨i, rfl⟩ : ∃ i : Nat, h0 = i := ⟨h0.toNat, by omega⟩
  have hi : i < P.ps.length := by omega
  rcases hp with hp | ⟨b, off, rfl, hb, hp⟩
  · rw [hp] at hi; simp at hi
  · refine ⟨b, off, i, rfl, rfl, hi, ?_, hb⟩
    rw [hp i hi]
    simp [pinAt, hi]
set_option maxHeartbeats 1600000 in
set_option maxRecDepth 100000 in
theorem impl_may (w : World) (f p l v : Value) (P : Pl) (h x : Int) (hx : (Lit.int .i64 x).wf = true) (hf : PlFit P) (hwf : PlWf P) (hA : PlIn w f p l v P) :
    Calls Try.prog 16 #[.agg #[f, .int .i64 P.a, p, l, v], .int .i64 h, .int .i64 x] w fun e w' => e = .returned (.bool (mayB P h x)) ∧ Below w.heap.size w w' := by
  have H := hidIt hA
  have HF := hidIt hf
  have HWF := hidIt hwf
  have HWX := hidIt hx
  obtain ⟨fa, fc, pa, pc, la, lc, va, vc, rfl, rfl, rfl, rfl⟩ := hA.form
  clear hA hwf hx
  unfold PlFit at hf
  go_enter Try.func16, Try.ntmps16
  go_wp2_with fail
  generalize hW : World.alloc w _ = W0
  have X := Bx.new w #[.slice fa P.fr.length fc, .int .i64 P.a, .slice pa P.ps.length pc, .slice la P.L.length lc, .slice va P.lv.length vc] 33
  have bW : Below w.heap.size w W0 := by rw [← hW]; exact (Below.refl _ _).alloc (Nat.le_refl _) _
  have zW : W0.heap.size = w.heap.size + 1 := by rw [← hW]; simp
  rw [hW] at X
  clear hW
  have HX0 := hidIt X
  have BW := hidIt bW
  clear X bW
  refine (impl_poolok W0 _ _ _ _ P HF.out HWF.out (H.out.below BW.out)).mono ?_
  rintro e w1 ⟨rfl, b1⟩
  have HX := hidIt (HX0.out.below b1)
  have B1 := hidIt (bel_two BW.out b1)
  have z1 := b1.size
  clear b1 HX0
  cases hB : plOkB P with
  | false =>
    have HE := hidIt (may_no1 (h := h) (x := x) hB)
    go_wp2
    go_ret
    exact ⟨ret_boolx HE.out.symm, B1.out⟩
  | true =>
    have HB := hidIt hB
    have k1 := HX.out.2.1 1
    have k2 := HX.out.2.1 2
    have k3 := HX.out.2.1 3
    simp at k1 k2 k3
    go_wp2_with fail
    refine (impl_hashandle w1 P.a pa la P.ps.length pc P.L.length lc h).mono ?_
    rintro e w2 ⟨rfl, b2⟩
    have HX2 := hidIt (HX.out.below b2)
    have B2 := hidIt (bel_two B1.out b2)
    have z2 := b2.size
    clear b2 HX k1 k2 k3
    by_cases hh : 0 ≤ h ∧ h < (P.ps.length : Int)
    case neg =>
      have HE := hidIt (may_no2 (x := x) hh)
      have hd : decide (0 ≤ h ∧ h < (P.ps.length : Int)) = false := decide_eq_false hh
      clear hh
      go_wp2
      go_ret
      exact ⟨ret_boolx HE.out.symm, B2.out⟩
    have hd : decide (0 ≤ h ∧ h < (P.ps.length : Int)) = true := decide_eq_true hh
    obtain ⟨b, off, i, rfl, hi0, hi, hcell, hbw⟩ := pin_cell (H.out.ag.pins.below B2.out) hh
    have HH := hidIt hh
    have hi' : (i : Int) < (P.ps.length : Int) := by omega
    rw [hi0] at hd hcell HH ⊢
    have HI0 := hidIt hi0
    clear hi0
    have k0 := HX2.out.2.1 0
    have k1 := HX2.out.2.1 1
    have k2 := HX2.out.2.1 2
    have k3 := HX2.out.2.1 3
    have k4 := HX2.out.2.1 4
    simp at k0 k1 k2 k3 k4
    generalize hpin : pinAt P (i : Int) = pin at hcell
    have HP := hidIt hpin
    clear hpin hh
    by_cases hm : pin = -1
    · have HE := hidIt (may_no3 (x := x) (HP.out.trans hm))
      subst hm
      go_wp2
      go_ret
      exact ⟨ret_boolx (by rw [HI0.out]; exact HE.out.symm), B2.out⟩
    · have hm2 : (pin == -1) = false := by simpa using hm
      have HE := hidIt (may_is (x := x) HB.out HH.out (by rw [HP.out]; exact hm))
      go_wp2_with fail
      clear k0 k1 k2 k3 k4
      refine (impl_standings w2 _ _ _ _ P HF.out HWF.out (H.out.below B2.out)).mono ?_
      rintro e w3 ⟨bm, rfl, m3, hb3, b3⟩
      have HX3 := hidIt (HX2.out.below b3)
      have B3 := hidIt (bel_two B2.out b3)
      have z3 := b3.size
      have hc3 := below_cell b3 hbw hcell
      have k2 := HX3.out.2.1 2
      simp at k2
      have hlw := HX3.out.1
      have hbb : b < w3.heap.size := by omega
      have hl := m3.at x HWX.out
      have HR := hidIt (show mayB P (i : Int) x = (match stF P x with | some q => if q.1 = 2 then true else if q.1 = 3 then decide (pin ≤ q.2) else false | none => false) from by rw [HE.out, HP.out]; rfl)
      clear m3 b3 HX2 hcell HE
      cases hq : stF P x with
      | none =>
        rw [hq] at hl HR
        have hl2 : (Instr.lookup 65 (.map (some bm)) (.int .i64 x) false).run Try.prog w3 = .ok (.agg #[.int .i64 0, .int .i64 0]) w3 := hl
        clear hl hq
        go_wp2
        go_ret
        exact ⟨ret_boolx (by rw [HI0.out]; exact HR.out.symm), B3.out.alloc B3.out.size _⟩
      | some q =>
        rw [hq] at hl HR
        have hl2 : (Instr.lookup 65 (.map (some bm)) (.int .i64 x) false).run Try.prog w3 = .ok (.agg #[.int .i64 q.1, .int .i64 q.2]) w3 := hl
        clear hl hq
        obtain ⟨q1, q2⟩ := q
        simp only at hl2 HR
        by_cases h2 : q1 = 2
        · subst h2
          go_wp2
          go_ret
          exact ⟨ret_boolx (by rw [HI0.out]; exact HR.out.symm), B3.out.alloc B3.out.size _⟩
        · have hn2 : (q1 == 2) = false := by simpa using h2
          by_cases h3 : q1 = 3
          · subst h3
            by_cases hge : pin ≤ q2
            · have HR2 := hidIt (show mayB P (i : Int) x = true from by rw [HR.out]; simp [hge])
              go_wp2
              go_quiet (fail)
              go_wp2
              go_ret
              exact ⟨ret_boolx (by rw [HI0.out]; exact HR2.out.symm), below_drewN (B3.out.alloc B3.out.size _) _⟩
            · have HR2 := hidIt (show mayB P (i : Int) x = decide (pin ≤ q2) from by rw [HR.out]; simp)
              go_wp2
              go_quiet (fail)
              go_wp2
              go_ret
              exact ⟨ret_boolx (by rw [HI0.out]; exact HR2.out.symm), below_drewN (B3.out.alloc B3.out.size _) _⟩
          · have hn3 : (q1 == 3) = false := by simpa using h3
            have HR2 := hidIt (show mayB P (i : Int) x = false from by rw [HR.out]; simp [h2, h3])
            clear h2 h3
            go_wp2
            go_ret
            exact ⟨ret_boolx (by rw [HI0.out]; exact HR2.out.symm), B3.out.alloc B3.out.size _⟩
set_option maxHeartbeats 1600000 in
set_option maxRecDepth 100000 in
theorem spec_may (w : World) (f p l v : Value) (P : Pl) (h x : Int) (hx : (Lit.int .i64 x).wf = true) (hf : PlFit P) (hA : PlIn w f p l v P) :
    Calls Try.prog 15 #[.agg #[f, .int .i64 P.a, p, l, v], .int .i64 h, .int .i64 x] w fun e w' => e = .returned (.bool (mayB P h x)) ∧ Below w.heap.size w w' := by
  have H := hidIt hA
  have HF := hidIt hf
  obtain ⟨fa, fc, pa, pc, la, lc, va, vc, rfl, rfl, rfl, rfl⟩ := hA.form
  clear hA hx
  unfold PlFit at hf
  go_enter Try.func15, Try.ntmps15
  go_wp2_with fail
  generalize hW : World.alloc w _ = W0
  have X := Bx.new w #[.slice fa P.fr.length fc, .int .i64 P.a, .slice pa P.ps.length pc, .slice la P.L.length lc, .slice va P.lv.length vc] 33
  have bW : Below w.heap.size w W0 := by rw [← hW]; exact (Below.refl _ _).alloc (Nat.le_refl _) _
  have zW : W0.heap.size = w.heap.size + 1 := by rw [← hW]; simp
  rw [hW] at X
  clear hW
  have HX0 := hidIt X
  have BW := hidIt bW
  clear X bW
  refine (spec_poolok W0 _ _ _ _ P HF.out (H.out.below BW.out)).mono ?_
  rintro e w1 ⟨rfl, b1⟩
  have HX := hidIt (HX0.out.below b1)
  have B1 := hidIt (bel_two BW.out b1)
  have z1 := b1.size
  clear b1 HX0
  have k2 := HX.out.2.1 2
  have k3 := HX.out.2.1 3
  have k4 := HX.out.2.1 4
  simp at k2 k3 k4
  have hlw := HX.out.1
  cases hB : plOkB P with
  | false =>
    have HE := hidIt (may_no1 (h := h) (x := x) hB)
    go_wp2
    go_ret
    exact ⟨ret_boolx HE.out.symm, B1.out⟩
  | true =>
    have HB := hidIt hB
    by_cases hh : 0 ≤ h ∧ h < (P.ps.length : Int)
    case neg =>
      have HE := hidIt (may_no2 (x := x) hh)
      by_cases h0 : h < 0
      · clear hh
        go_wp2
        go_ret
        exact ⟨ret_boolx HE.out.symm, B1.out⟩
      · have h1 : (P.ps.length : Int) ≤ h := by omega
        clear hh
        go_wp2
        go_ret
        exact ⟨ret_boolx HE.out.symm, B1.out⟩
    obtain ⟨b, off, i, rfl, hi0, hi, hcell, hbw⟩ := pin_cell (H.out.ag.pins.below B1.out) hh
    have HH := hidIt hh
    have hi' : (i : Int) < (P.ps.length : Int) := by omega
    rw [hi0] at hcell HH ⊢
    have HI0 := hidIt hi0
    clear hi0
    generalize hpin : pinAt P (i : Int) = pin at hcell
    have HP := hidIt hpin
    clear hpin hh
    by_cases hm : pin = -1
    · have HE := hidIt (may_no3 (x := x) (HP.out.trans hm))
      subst hm
      go_wp2
      go_ret
      exact ⟨ret_boolx (by rw [HI0.out]; exact HE.out.symm), B1.out⟩
    · have hm2 : (pin == -1) = false := by simpa using hm
      have HE := hidIt (show mayB P (i : Int) x = mayIn P x pin from by rw [may_is (x := x) HB.out HH.out (by rw [HP.out]; exact hm), HP.out])
      have HE1 := hidIt (fun j hj (e : (goneAt P.L j).1 = x) => (HE.out.trans (by rw [← e]; exact mayIn_limbo HB.out j hj pin) : mayB P (i : Int) x = decide (pin ≤ (goneAt P.L j).2)))
      have HE2 := hidIt (fun h1 => (HE.out.trans (mayIn_rest HB.out x pin h1) : mayB P (i : Int) x = hasN P.lv x))
      go_wp2_with fail
      go_loopw [35] (fun s wr => ∃ k : Nat, k ≤ P.L.length ∧ s = .int .i64 k ∧ Hid (∀ j, j < k → (goneAt P.L j).1 ≠ x) ∧ Below w1.heap.size w1 wr) (fun s _ => P.L.length - (intOf s).toNat)
      case atStart => exact ⟨0, Nat.zero_le _, rfl, hidIt (fun j h => by omega), Below.refl _ _⟩
      case round =>
        rename World => wr
        obtain ⟨k, hk, rfl, HR, hbr⟩ := hrel
        have hzr := hbr.size
        by_cases hlt : k < P.L.length
        · have hlt' : (k : Int) < (P.L.length : Int) := by omega
          obtain ⟨la', lc', hv, -, hp⟩ := H.out.ag.limbo.below (bel_two B1.out hbr)
          simp at hv
          obtain ⟨rfl, rfl⟩ := hv
          rcases hp with hp | ⟨bl, offl, rfl, hbl, hp⟩
          · rw [hp] at hlt; simp at hlt
          have cA := (PIn.at hp k hlt).1
          have cB := (PIn.at hp k hlt).2
          have HK1 := hidIt (HE1.out k hlt)
          have HNX := hidIt (fun (e : (goneAt P.L k).1 ≠ x) (j : Nat) (hj : j < k + 1) => show (goneAt P.L j).1 ≠ x from by
            by_cases e2 : j = k
            · subst e2; exact e
            · exact HR.out j (by omega))
          have hc2 := below_cell hbr hbw hcell
          have k2' := below_cell hbr hlw k2
          have hl1 : w.heap.size < wr.heap.size := by omega
          have hl2 : b < wr.heap.size := by omega
          clear hp HR
          generalize (goneAt P.L k).1 = z at cA HK1 HNX
          generalize (goneAt P.L k).2 = y at cB HK1
          by_cases hz : z = x
          · have HV := hidIt (HK1.out hz)
            subst hz
            by_cases hge : pin ≤ y
            · have HV2 := hidIt (show mayB P (i : Int) z = true from by rw [HV.out]; simp [hge])
              go_wp2
              go_quiet (fail)
              go_wp2
              go_ret
              exact ⟨ret_boolx (by rw [HI0.out]; exact HV2.out.symm), below_drewN ((bel_two B1.out hbr).alloc (by omega) _) _⟩
            · have HV2 := hidIt HV.out
              go_wp2
              go_quiet (fail)
              go_wp2
              go_ret
              exact ⟨ret_boolx (by rw [HI0.out]; exact HV2.out.symm), below_drewN ((bel_two B1.out hbr).alloc (by omega) _) _⟩
          · have hz2 : (z == x) = false := by simpa using hz
            have HN := hidIt (HNX.out hz)
            clear hz HNX HK1
            go_wp2
            go_roundw
            case rel => exact ⟨k + 1, by omega, by go_num, hidIt HN.out, bel_al hbr _⟩
            case measure => simp [intOf]; omega
        · have HV := hidIt (HE2.out (fun j hj => HR.out j (by omega)))
          have k4' := below_cell hbr hlw k4
          clear HR
          go_wp2_with (go_at_call 36; refine (spec_hasI _ P.lv x wr (by omega) (H.out.lv.below (bel_two B1.out hbr))).mono ?_; rintro e wr ⟨rfl, rfl⟩)
          go_ret
          exact ⟨ret_boolx (by rw [HI0.out]; exact HV.out.symm), bel_two B1.out hbr⟩

end Go.Proofs.Ytdcnakpkmgepgab

namespace Go.Proofs.Ytdcnakpkmgepgab
open Go.ChangeShapes Go.WideShapes Go.ChangeAt Go.RowKit
set_option linter.unusedVariables false

set_option maxHeartbeats 3200000 in
set_option maxRecDepth 100000 in
theorem walk_May (P : Pl) (f p l v : Value) (h x : Int) (hx : (Lit.int .i64 x).wf = true) (w : World) (r0 : PlIn w f p l v P) (n0 : P.fr.length ≤ maxLen) (n1 : P.ps.length ≤ maxLen) (n2 : P.L.length ≤ maxLen) (n3 : P.lv.length ≤ maxLen) (hwf : PlWf P) :
    Calls Try.prog 5 #[.agg #[f, .int .i64 P.a, p, l, v], .int .i64 h, .int .i64 x] w fun e w' => e = .returned (.bool true) ∧ Below w.heap.size w w' := by
  have RI := hidIt r0
  obtain ⟨xaa, xka, xba, xla, xca, xma, xda, xna, rfl, rfl, rfl, rfl⟩ := r0.form
  clear r0
  unfold maxLen at n0 n1 n2 n3
  by_cases hs : P.fr.length + P.ps.length + P.L.length + P.lv.length ≤ 1048576
  · have HF : Hid (PlFit P) := hidIt (show PlFit P from hs)
    have HS := hidIt (fun f p l v W (hA : PlIn W f p l v P) => spec_may W f p l v P h x hx hs hA)
    have HI := hidIt (fun f p l v W (hA : PlIn W f p l v P) => impl_may W f p l v P h x hx hs hwf hA)
    generalize mayB P h x = B at HS HI
    have s0 := hidIt ((Sv.start w).box5 (.slice xaa P.fr.length xka) (.int .i64 P.a) (.slice xba P.ps.length xla) (.slice xca P.L.length xma) (.slice xda P.lv.length xna) 27)
    go_enter Try.func5, Try.ntmps5
    go_wp2_with fail
    refine (sz_pool P.a _ _ _ _ P.fr.length _ P.ps.length _ P.L.length _ P.lv.length _ _ (by omega) (by omega) (by omega) (by omega)).mono ?_
    rintro e w1 ⟨⟨z, rfl, hz, -⟩, b1⟩
    have hz0 := hz hs
    clear hz
    have s1 := hidIt (s0.out.grow b1)
    have z1 := b1.size
    (try simp at z1)
    obtain ⟨c10, c11, c12, c13, c14⟩ := s1.out.get5 (b := w.heap.size) (x0 := (.slice xaa P.fr.length xka)) (x1 := (.int .i64 P.a)) (x2 := (.slice xba P.ps.length xla)) (x3 := (.slice xca P.L.length xma)) (x4 := (.slice xda P.lv.length xna)) (by simp) (by simp) (by simp) (by simp) (by simp)
    clear b1 s0
    go_wp2_with fail
    clear hz0 c10 c11 c12 c13 c14
    refine (to_pool _ _ _ _ _ P HF.out (RI.out.below s1.out.below)).mono ?_
    rintro e w2 ⟨f2, p2, l2, v2, rfl, r2, b2⟩
    have s2 := hidIt (s1.out.grow b2)
    have z2 := b2.size
    have R2 := hidIt (r2.toQ.pin (Nat.le_refl _))
    obtain ⟨xa2, xk2, xb2, xl2, xc2, xm2, xd2, xn2, rfl, rfl, rfl, rfl⟩ := r2.form
    clear r2 b2 s1
    go_wp2_with fail
    refine (HS.out _ _ _ _ _ R2.out).mono ?_
    rintro e w3 ⟨rfl, b3⟩
    have s3 := hidIt (s2.out.grow b3)
    have z3 := b3.size
    clear b3 s2 R2
    obtain ⟨c30, c31, c32, c33, c34⟩ := s3.out.get5 (b := w.heap.size) (x0 := (.slice xaa P.fr.length xka)) (x1 := (.int .i64 P.a)) (x2 := (.slice xba P.ps.length xla)) (x3 := (.slice xca P.L.length xma)) (x4 := (.slice xda P.lv.length xna)) (by simp) (by simp) (by simp) (by simp) (by simp)
    go_wp2_with fail
    clear c30 c31 c32 c33 c34
    refine (to_pool _ _ _ _ _ P HF.out (RI.out.below s3.out.below)).mono ?_
    rintro e w4 ⟨f4, p4, l4, v4, rfl, r4, b4⟩
    have s4 := hidIt ((s3.out.grow b4).row (Nat.le_refl _) (PlR.loc _ _ _ _ _ _ _) r4)
    obtain ⟨xa4, xk4, xb4, xl4, xc4, xm4, xd4, xn4, rfl, rfl, rfl, rfl⟩ := r4.form
    have z4 := b4.size
    (try simp at z4)
    clear r4 b4 s3
    have t4 := hidIt (s4.out.box5 (.slice xa4 P.fr.length xk4) (.int .i64 P.a) (.slice xb4 P.ps.length xl4) (.slice xc4 P.L.length xm4) (.slice xd4 P.lv.length xn4) 33)
    go_wp2_with fail
    refine (HI.out _ _ _ _ _ ((t4.out.at (.head _)).2.toQ.pin (t4.out.at (.head _)).1)).mono ?_
    rintro e w6 ⟨rfl, b6⟩
    have s6 := hidIt (t4.out.grow b6)
    have z6 := b6.size
    (try simp at z6)
    clear b6 t4 s4
    go_wp2_with fail
    obtain ⟨PP, p0, pd, pg, ps'⟩ := s6.out.pack
    have PD := hidIt pd
    have PG := hidIt pg
    have PS := hidIt ps'
    have PC := hidIt (fun W (h : PP W) => (⟨(ps' W h).get (by simp), (ps' W h).get (by simp), (ps' W h).get (by simp), (ps' W h).get (by simp), (ps' W h).get (by simp), (ps' W h).get (by simp), (ps' W h).get (by simp), (ps' W h).get (by simp), (ps' W h).get (by simp), (ps' W h).get (by simp)⟩ : W.cell? ⟨w.heap.size, 0, none⟩ = some (.slice xaa P.fr.length xka) ∧ W.cell? ⟨w.heap.size, 1, none⟩ = some (.int .i64 P.a) ∧ W.cell? ⟨w.heap.size, 2, none⟩ = some (.slice xba P.ps.length xla) ∧ W.cell? ⟨w.heap.size, 3, none⟩ = some (.slice xca P.L.length xma) ∧ W.cell? ⟨w.heap.size, 4, none⟩ = some (.slice xda P.lv.length xna) ∧ W.cell? ⟨w4.heap.size, 0, none⟩ = some (.slice xa4 P.fr.length xk4) ∧ W.cell? ⟨w4.heap.size, 1, none⟩ = some (.int .i64 P.a) ∧ W.cell? ⟨w4.heap.size, 2, none⟩ = some (.slice xb4 P.ps.length xl4) ∧ W.cell? ⟨w4.heap.size, 3, none⟩ = some (.slice xc4 P.L.length xm4) ∧ W.cell? ⟨w4.heap.size, 4, none⟩ = some (.slice xd4 P.lv.length xn4)))
    have h6 := and_mk PC.out p0
    clear pd pg ps' p0 s6
    go_region_held3 (fun W => PP W ∧ W.cell? ⟨w.heap.size, 0, none⟩ = some (.slice xaa P.fr.length xka) ∧ W.cell? ⟨w.heap.size, 1, none⟩ = some (.int .i64 P.a) ∧ W.cell? ⟨w.heap.size, 2, none⟩ = some (.slice xba P.ps.length xla) ∧ W.cell? ⟨w.heap.size, 3, none⟩ = some (.slice xca P.L.length xma) ∧ W.cell? ⟨w.heap.size, 4, none⟩ = some (.slice xda P.lv.length xna) ∧ W.cell? ⟨w4.heap.size, 0, none⟩ = some (.slice xa4 P.fr.length xk4) ∧ W.cell? ⟨w4.heap.size, 1, none⟩ = some (.int .i64 P.a) ∧ W.cell? ⟨w4.heap.size, 2, none⟩ = some (.slice xb4 P.ps.length xl4) ∧ W.cell? ⟨w4.heap.size, 3, none⟩ = some (.slice xc4 P.L.length xm4) ∧ W.cell? ⟨w4.heap.size, 4, none⟩ = some (.slice xd4 P.lv.length xn4))
      (first | exact and_mk PC.out (PD.out _ (And.left (by assumption))) | exact and_mk PC.out (PG.out _ _ (And.left (by assumption)) (by assumption)))
      (first | (go_at_call 8; refine (to_pool _ _ _ _ _ P HF.out (RI.out.below (PS.out _ (And.left (by assumption))).below)).mono ?_; rintro e wa ⟨fa', pa', la', va', rfl, ra, ba⟩; obtain ⟨xa7, xk7, xb7, xl7, xc7, xm7, xd7, xn7, rfl, rfl, rfl, rfl⟩ := ra.form) | (go_at_call 10; refine (eq_pool _ _ _ _ _ _ _ _ _ _ _ _ _ P HF.out ((PS.out _ (And.left (by assumption))).at (.head _)).1 (Nat.le_refl _) ((PS.out _ (And.left (by assumption))).at (.head _)).2.toQ ra.toQ).mono ?_; rintro e w7 ⟨rfl, b7⟩))
    rename_i h7
    have s7 := hidIt (PS.out _ h7.1)
    have z7 : w6.heap.size ≤ w7.heap.size := by have := b7.size; have := ba.size; simp at *; omega
    clear PD PG PC PS h6 h7 ra ba b7
    go_wp2
    go_ret
    exact ⟨rfl, s7.out.below⟩
  · go_enter Try.func5, Try.ntmps5
    go_wp2_with fail
    refine (sz_pool P.a _ _ _ _ P.fr.length _ P.ps.length _ P.L.length _ P.lv.length _ _ (by omega) (by omega) (by omega) (by omega)).mono ?_
    rintro e w1 ⟨⟨z, rfl, -, hz⟩, b1⟩
    obtain rfl := hz hs
    go_wp2
    go_ret
    exact ⟨rfl, ((Below.refl _ _).alloc (Nat.le_refl _) _).trans (b1.mono (by simp <;> omega))⟩

end Go.Proofs.Ytdcnakpkmgepgab
