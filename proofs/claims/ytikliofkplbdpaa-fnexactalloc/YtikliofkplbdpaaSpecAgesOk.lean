/- Whether epochs are well: the model's test. -/
import Derived.Test.YtikliofkplbdpaaRows
import Derived.WalkKit
import Derived.ProofKit
import Derived.OpenShut
import Derived.ShutString
import Derived.Test.YtikliofkplbdpaaImplAgesOk
import Derived.Test.YtikliofkplbdpaaStPlain
namespace Go.Proofs.Ytikliofkplbdpaa
open Go.ChangeShapes Go.WideShapes Go.ChangeAt Go.RowKit
set_option linter.unusedVariables false

theorem okB_no1 {a : Int} {ps : List Int} {L : List (Int × Int)} (h : ¬ (0 ≤ a ∧ a ≤ 4294967295) ∨ ps.length < 1 ∨ 8 < ps.length ∨ 100 < L.length) : okB a ps L = false := by
  rcases h with h | h | h | h
  · simp only [okB, decide_eq_false h, Bool.false_and]
  · have e : ¬ (1 ≤ ps.length ∧ ps.length ≤ 8) := by omega
    simp only [okB, decide_eq_false e, Bool.false_and, Bool.and_false]
  · have e : ¬ (1 ≤ ps.length ∧ ps.length ≤ 8) := by omega
    simp only [okB, decide_eq_false e, Bool.false_and, Bool.and_false]
  · have e : ¬ (L.length ≤ 100) := by omega
    simp only [okB, decide_eq_false e, Bool.false_and, Bool.and_false]
theorem okB_pins {a : Int} {ps : List Int} {L : List (Int × Int)} (h : ps.all (pinB a) = false) : okB a ps L = false := by
  simp only [okB, h, Bool.false_and, Bool.and_false]
theorem okB_limbo {a : Int} {ps : List Int} {L : List (Int × Int)} (h0 : 0 ≤ a ∧ a ≤ 4294967295) (h1 : 1 ≤ ps.length ∧ ps.length ≤ 8) (h2 : L.length ≤ 100) (h3 : ps.all (pinB a) = true) : okB a ps L = limB a L L.length := by
  simp only [okB, decide_eq_true h0, decide_eq_true h1, decide_eq_true h2, h3, Bool.true_and]

theorem spec_agesok_no (w : World) (a : Int) (pa la : Option Addr) (n c m d : Nat) (h : ¬ (0 ≤ a ∧ a ≤ 4294967295) ∨ n < 1 ∨ 8 < n ∨ 100 < m) :
    Calls Try.prog 32 #[.agg #[.int .i64 a, .slice pa n c, .slice la m d]] w fun e w' => e = .returned (.bool false) ∧ Below w.heap.size w w' := by
  by_cases h0 : 0 ≤ a ∧ a ≤ 4294967295
  · have e0 := decide_eq_true h0
    clear h0
    by_cases h1 : n < 1
    · have g1 : (n : Int) < 1 := by omega
      go_enter Try.func32, Try.ntmps32
      go_wp2_with (go_at_call 42; refine (spec_isnum a _).mono ?_; rintro e w1 ⟨rfl, rfl⟩; rw [e0])
      go_ret
      exact ⟨rfl, (Below.refl w.heap.size w).alloc (Nat.le_refl _) _⟩
    · have g1 : ¬ ((n : Int) < 1) := by omega
      by_cases h2 : 8 < n
      · have g2 : (8 : Int) < (n : Int) := by omega
        go_enter Try.func32, Try.ntmps32
        go_wp2_with (go_at_call 42; refine (spec_isnum a _).mono ?_; rintro e w1 ⟨rfl, rfl⟩; rw [e0])
        go_ret
        exact ⟨rfl, (Below.refl w.heap.size w).alloc (Nat.le_refl _) _⟩
      · have g2 : ¬ ((8 : Int) < (n : Int)) := by omega
        have g3 : (100 : Int) < (m : Int) := by
          have := of_decide_eq_true e0
          omega
        go_enter Try.func32, Try.ntmps32
        go_wp2_with (go_at_call 42; refine (spec_isnum a _).mono ?_; rintro e w1 ⟨rfl, rfl⟩; rw [e0])
        go_ret
        exact ⟨rfl, (Below.refl w.heap.size w).alloc (Nat.le_refl _) _⟩
  · have e0 := decide_eq_false h0
    clear h0 h
    go_enter Try.func32, Try.ntmps32
    go_wp2_with (go_at_call 42; refine (spec_isnum a _).mono ?_; rintro e w1 ⟨rfl, rfl⟩; rw [e0])
    go_ret
    exact ⟨rfl, (Below.refl w.heap.size w).alloc (Nat.le_refl _) _⟩

set_option maxHeartbeats 1600000 in
set_option maxRecDepth 100000 in
theorem spec_agesok_yes (w : World) (a : Int) (p l : Value) (ps : List Int) (L : List (Int × Int)) (h : AIn w p l ps L) (a0 : 0 ≤ a) (a1 : a ≤ 4294967295) (n1 : 1 ≤ ps.length) (n8 : ps.length ≤ 8) (m1 : L.length ≤ 100) :
    Calls Try.prog 32 #[.agg #[.int .i64 a, p, l]] w fun e w' => e = .returned (.bool (okB a ps L)) ∧ Below w.heap.size w w' := by
  have e0 := decide_eq_true (And.intro a0 a1)
  obtain ⟨pa, pc, la, lc, rfl, rfl, hcap⟩ := h.form
  have HB := hidIt ((Below.refl w.heap.size w).alloc (Nat.le_refl _) (.cells #[.int .i64 a, .slice pa ps.length pc, .slice la L.length lc] 31))
  have HL := hidIt (h.limbo.below HB.out)
  obtain ⟨pa', pc', hpv, hp⟩ := h.pins.below HB.out
  simp at hpv
  obtain ⟨rfl, rfl⟩ := hpv
  rcases hp with hp | ⟨b, off, rfl, hb, hp⟩
  · rw [hp] at n1; simp at n1
  have HP := hidIt hp
  have HPI := hidIt (okB_pins (a := a) (ps := ps) (L := L))
  have HLI := hidIt (okB_limbo (L := L) (And.intro a0 a1) (And.intro n1 n8) m1)
  have g1 : ¬ ((ps.length : Int) < 1) := by omega
  have g2 : ¬ ((8 : Int) < (ps.length : Int)) := by omega
  have g3 : ¬ ((100 : Int) < (L.length : Int)) := by omega
  clear h hp hb
  go_enter Try.func32, Try.ntmps32
  go_wp2_with (go_at_call 42; refine (spec_isnum a _).mono ?_; rintro e w1 ⟨rfl, rfl⟩; rw [e0])
  generalize hW : World.alloc w _ = W1 at HB HL HP
  have c0 : W1.cell? ⟨w.heap.size, 0, none⟩ = some (.int .i64 a) := by rw [← hW]; simp [go_sem]
  have c1 : W1.cell? ⟨w.heap.size, 1, none⟩ = some (.slice (some ⟨b, off, none⟩) ps.length pc) := by rw [← hW]; simp [go_sem]
  have c2 : W1.cell? ⟨w.heap.size, 2, none⟩ = some (.slice la L.length lc) := by rw [← hW]; simp [go_sem]
  have z1 : w.heap.size < W1.heap.size := by rw [← hW]; simp
  clear hW
  go_loop [32] (fun i => ∃ k : Nat, k ≤ ps.length ∧ i = .int .i64 k ∧ Hid (∀ j (hj : j < ps.length), j < k → pinB a ps[j] = true)) (fun i => ps.length - (intOf i).toNat)
  case atStart => exact ⟨0, Nat.zero_le _, rfl, fun j _ hj => by omega⟩
  case round =>
    obtain ⟨k, hk, rfl, HF⟩ := hrel
    by_cases hlt : k < ps.length
    · have c1 := HP.out k hlt
      have hlt' : (k : Int) < (ps.length : Int) := by omega
      have HS := hidIt (fun (h : pinB a ps[k] = false) => HPI.out (all_stop hlt h))
      have HG : Hid (pinB a ps[k] = true → ∀ j (hj : j < ps.length), j < k + 1 → pinB a ps[j] = true) := fun h j hj hjk => by
        by_cases e : j = k
        · subst e; exact h
        · exact HF.out j hj (by omega)
      generalize ps[k] = p at c1 HS HG
      by_cases e1 : p = -1
      · subst e1
        have hp := hidIt (HG.out (by simp [pinB]))
        clear HG HS
        go_wp2
        go_round
        case rel => exact ⟨k + 1, by omega, by go_num, hp.out⟩
        case measure => simp [intOf]; omega
      · by_cases e2 : p = a
        · subst e2
          have hp := hidIt (HG.out (by simp [pinB]))
          clear HG HS
          go_wp2
          go_round
          case rel => exact ⟨k + 1, by omega, by go_num, hp.out⟩
          case measure => simp [intOf]; omega
        · by_cases e3 : p = a - 1
          · have hp := hidIt (HG.out (by simp [pinB, e3]))
            clear HG HS
            have f0 : ¬ p < 0 := by omega
            subst e3
            go_wp2
            go_round
            case rel => exact ⟨k + 1, by omega, by go_num, hp.out⟩
            case measure => simp [intOf]; omega
          · have hp := hidIt (HS.out (by simp [pinB, e1, e2, e3]))
            clear HG HS
            have f1 : (p != -1) = true := by simpa using e1
            have f2 : (p != a) = true := by simpa using e2
            have f3 : (p != a - 1) = true := by simpa using e3
            clear e1 e2 e3
            by_cases f0 : p < 0
            · go_wp2
              go_ret
              exact ⟨ret_boolx (by rw [hp.out]), HB.out⟩
            · go_wp2
              go_ret
              exact ⟨ret_boolx (by rw [hp.out]), HB.out⟩
    · have HE := hidIt (HLI.out (all_full (f := pinB a) (fun j hj => HF.out j hj (by omega))))
      clear HF HP c1
      go_wp2
      go_loopw [59] (fun i wr => ∃ k : Nat, k ≤ L.length ∧ i = .int .i64 k ∧ Below W1.heap.size W1 wr ∧ Hid (limB a L k = true)) (fun i _ => L.length - (intOf i).toNat)
      case atStart => exact ⟨0, Nat.zero_le _, rfl, Below.refl _ _, rfl⟩
      case round =>
        rename World => wr
        obtain ⟨k, hk, rfl, hbw, HF⟩ := hrel
        by_cases hlt : k < L.length
        · have HLL := hidIt HL.out
          obtain ⟨la', lc', hlv, -, hl⟩ := HL.out
          simp at hlv
          obtain ⟨rfl, rfl⟩ := hlv
          rcases hl with hl | ⟨b2, off2, rfl, hb2, hl⟩
          · rw [hl] at hlt; simp at hlt
          have HA := hidIt (PIn.at hl)
          clear hl
          have d1 := below_cell hbw hb2 (HA.out k hlt).1
          have d2 := below_cell hbw hb2 (HA.out k hlt).2
          have hlt' : (k : Int) < (L.length : Int) := by omega
          have hkc : k ≤ lc := by omega
          have hkc' : (k : Int) ≤ (lc : Int) := by omega
          have hlast := limB_last a L k HF.out
          generalize hx : (goneAt L k).1 = x at d1
          generalize hy : (goneAt L k).2 = y at d2
          generalize hla : lastAt L k = q at hlast
          have HX := hidIt (And.intro hx (And.intro hy hla))
          clear hx hy hla
          have hz := hbw.size
          have zB : w.heap.size < wr.heap.size := by omega
          have k0 := below_cell hbw z1 c0
          have k2 := below_cell hbw z1 c2
          go_wp2_with fail
          generalize hW2 : World.alloc wr _ = W2
          have zW2 : W2.heap.size = wr.heap.size + 1 := by rw [← hW2]; simp
          have hY : Hid (Below W1.heap.size W1 W2) := (by rw [← hW2]; exact hbw.alloc hz _ : Below W1.heap.size W1 W2)
          have HZ := hidIt (HB.out.trans (hY.out.mono (by omega)))
          have H2 := hidIt (HLL.out.below hY.out)
          have p0 : W2.cell? ⟨w.heap.size, 0, none⟩ = some (.int .i64 a) := below_cell hY.out z1 c0
          have p2 : W2.cell? ⟨w.heap.size, 2, none⟩ = some (.slice (some ⟨b2, off2, none⟩) L.length lc) := below_cell hY.out z1 c2
          have p3 : W2.cell? ⟨wr.heap.size, 0, none⟩ = some (.int .i64 x) := by rw [← hW2]; simp [go_sem]
          have p4 : W2.cell? ⟨wr.heap.size, 1, none⟩ = some (.int .i64 y) := by rw [← hW2]; simp [go_sem]
          clear hW2 hbw d1 d2 k0 k2 c0 c2
          by_cases e1 : y < 0
          · have HN := hidIt (limB_stop a L k L.length (stepB_no (a := a) rfl HX.out.1 HX.out.2.1 HX.out.2.2 (.inr (.inl (by omega)))) hlt)
            have d1 := decide_eq_true e1
            clear e1
            go_quiet (fail)
            go_wp2
            go_ret
            exact ⟨ret_boolx (by rw [HE.out, HN.out]), below_drewN HZ.out _⟩
          · have d1 := decide_eq_false e1
            by_cases e2 : a < y
            · have HN := hidIt (limB_stop a L k L.length (stepB_no (a := a) rfl HX.out.1 HX.out.2.1 HX.out.2.2 (.inr (.inr e2))) hlt)
              have d2 := decide_eq_true e2
              clear e1 e2
              go_quiet (fail)
              go_wp2
              go_ret
              exact ⟨ret_boolx (by rw [HE.out, HN.out]), below_drewN HZ.out _⟩
            · have d2 := decide_eq_false e2
              rcases k with _ | k
              · obtain rfl : q = 0 := HX.out.2.2.symm
                have HN := hidIt (stepB_yes (a := a) (L := L) (k := 0) (T := false) (by simp [nodeB]) HX.out.1 HX.out.2.1 HX.out.2.2 rfl (by omega) (by omega))
                clear e1 e2
                go_quiet (first | (go_at_call 43; refine Calls.quiet_of_same (spec_node_none _ _ x _)))
                go_wp2
                go_roundw
                case rel => exact ⟨1, by omega, by go_num, below_drewN hY.out _, by show limB a L (0 + 1) = true; rw [limB, HF.out, HN.out]; rfl⟩
                case measure => simp [intOf]; omega
              · have HQ : Hid ((goneAt L k).2 = q) := HX.out.2.2
                have p5 : W2.cell? ⟨b2, off2 + k * 2 + 1, none⟩ = some (.int .i64 q) := below_cell hY.out hb2 (by rw [(HA.out k (by omega)).2, HQ.out])
                have hb3' : b2 < W2.heap.size := by have := hY.out.size; omega
                have hj : (k : Int) < (L.length : Int) := by omega
                have hj0 : (0 : Int) ≤ (k : Int) := by omega
                have hjw : IntKind.i64.wrap ((k : Int) + 1 - 1) = (k : Int) := by rw [show (k : Int) + 1 - 1 = k by omega]; exact wrap_small _ (by omega) (by omega)
                have hjl : (k : Int) + 1 ≤ (lc : Int) := by omega
                have hjm : (0 : Int) ≤ (k : Int) + 1 := by omega
                have hjx : IntKind.i64.wrap (k : Int) = (k : Int) := wrap_small _ (by omega) (by omega)
                have d3 : decide (0 < (k : Int) + 1) = true := decide_eq_true (by omega)
                by_cases e3 : y < q
                · have HN := hidIt (limB_stop a L (k + 1) L.length (stepB_no (a := a) rfl HX.out.1 HX.out.2.1 HX.out.2.2 (.inr (.inl e3))) hlt)
                  have d4 := decide_eq_true e3
                  clear e1 e2 e3
                  go_quiet (fail)
                  go_wp2
                  go_ret
                  exact ⟨ret_boolx (by rw [HE.out, HN.out]), below_drewN HZ.out _⟩
                · have d4 := decide_eq_false e3
                  have HO := hidIt (And.intro (Int.not_lt.1 e3) (Int.not_lt.1 e2))
                  clear e1 e2 e3
                  have PC := hidIt (fun W (h : Below W2.heap.size W2 W) => (⟨below_cell h (by omega) p0, below_cell h (by omega) p2, below_cell h (by omega) p3, below_cell h (by omega) p4, below_cell h (by omega) p5⟩ : W.cell? ⟨w.heap.size, 0, none⟩ = some (.int .i64 a) ∧ W.cell? ⟨w.heap.size, 2, none⟩ = some (.slice (some ⟨b2, off2, none⟩) L.length lc) ∧ W.cell? ⟨wr.heap.size, 0, none⟩ = some (.int .i64 x) ∧ W.cell? ⟨wr.heap.size, 1, none⟩ = some (.int .i64 y) ∧ W.cell? ⟨b2, off2 + k * 2 + 1, none⟩ = some (.int .i64 q)))
                  have h7 := and_mk PC.out (Below.refl _ W2)
                  go_region_held3 (fun W => Below W2.heap.size W2 W ∧ W.cell? ⟨w.heap.size, 0, none⟩ = some (.int .i64 a) ∧ W.cell? ⟨w.heap.size, 2, none⟩ = some (.slice (some ⟨b2, off2, none⟩) L.length lc) ∧ W.cell? ⟨wr.heap.size, 0, none⟩ = some (.int .i64 x) ∧ W.cell? ⟨wr.heap.size, 1, none⟩ = some (.int .i64 y) ∧ W.cell? ⟨b2, off2 + k * 2 + 1, none⟩ = some (.int .i64 q))
                    (first | exact and_mk PC.out (Below.drew (And.left (by assumption))) | exact and_mk PC.out (below_step (And.left (by assumption)) (by assumption)))
                    (first | (go_at_call 43; refine (spec_node _ _ (L.take (k + 1)) x (by simp; omega) ((H2.out.take (k + 1) hk).below (And.left (by assumption)))).mono ?_; rintro e wa ⟨rfl, ba⟩))
                  all_goals
                    rename_i hH
                    have hb3 := hH.1
                    clear hH h7 PC ba
                    generalize hT : nodeB (L.take (k + 1)) x = T
                    have HT := hidIt hT
                    clear hT
                    cases T with
                    | true =>
                      have HN := hidIt (limB_stop a L (k + 1) L.length (stepB_no (a := a) HT.out HX.out.1 HX.out.2.1 HX.out.2.2 (.inl rfl)) hlt)
                      go_wp2
                      go_ret
                      exact ⟨ret_boolx (by rw [HE.out, HN.out]), HZ.out.trans (hb3.mono (by omega))⟩
                    | false =>
                      have HN := hidIt (stepB_yes (a := a) HT.out HX.out.1 HX.out.2.1 HX.out.2.2 rfl (by have := HO.out; omega) (by have := HO.out; omega))
                      go_wp2
                      go_roundw
                      case rel => exact ⟨(k + 1) + 1, by omega, by go_num, hY.out.trans (hb3.mono (by omega)), by show limB a L ((k + 1) + 1) = true; rw [limB, HF.out, HN.out]; rfl⟩
                      case measure => simp [intOf]; omega
        · have HE2 : Hid (okB a ps L = true) := (by rw [HE.out]; have := HF.out; rwa [show k = L.length by omega] at this : okB a ps L = true)
          go_wp2
          go_ret
          exact ⟨ret_boolx (by rw [HE2.out]), below_step HB.out (hbw.mono (by omega))⟩

theorem spec_agesok (w : World) (a : Int) (p l : Value) (ps : List Int) (L : List (Int × Int)) (h : AIn w p l ps L) :
    Calls Try.prog 32 #[.agg #[.int .i64 a, p, l]] w fun e w' => e = .returned (.bool (okB a ps L)) ∧ Below w.heap.size w w' := by
  by_cases hc : ¬ (0 ≤ a ∧ a ≤ 4294967295) ∨ ps.length < 1 ∨ 8 < ps.length ∨ 100 < L.length
  · rw [okB_no1 hc]
    obtain ⟨pa, pc, la, lc, rfl, rfl, -⟩ := h.form
    exact spec_agesok_no w a pa la ps.length pc L.length lc hc
  · exact spec_agesok_yes w a p l ps L h (by omega) (by omega) (by omega) (by omega) (by omega)

end Go.Proofs.Ytikliofkplbdpaa
