/- Whether a ring's tickets are good: by the program. -/
import Derived.Test.YtmifnemjihffkaaRows
import Derived.WalkKit
import Derived.ProofKit
import Derived.OpenShut
import Derived.ShutString
import Derived.Test.YtmifnemjihffkaaRgTick
import Derived.Deep.QuietTactic
import Derived.BigQuiet
namespace Go.Proofs.Ytmifnemjihffkaa
open Go.ChangeShapes Go.WideShapes Go.ChangeAt Go.RowKit
set_option linter.unusedVariables false

theorem rg_turns {L S : List Fc} {kind : Int} (hp : S.Perm (took L kind)) (hs : turnLe S) (g : inTurns (took L kind)) : allAt S := turns_sorted (inTurns_perm hp g) hs
/- what the program asks of the sorted tickets -/
def rgS (P G : List Fc) (left : List Int) : Prop :=
  P.length = G.length + left.length ∧ (∀ k (h1 : k < G.length) (h2 : k < P.length), G[k].v = P[k].a) ∧ ∀ i (hi : i < left.length) (h2 : G.length + i < P.length), P[G.length + i].a = left[i]
theorem rg_iff {L P G : List Fc} {left : List Int} (p1 : P.Perm (took L 1)) (p2 : G.Perm (took L 2)) (a1 : allAt P) (a2 : allAt G) : rgN L left ↔ rgS P G left := by
  have l1 := p1.length_eq
  have l2 := p2.length_eq
  constructor
  · rintro ⟨-, -, h3, h4, h5⟩
    refine ⟨by omega, fun k h1 h2 => ?_, fun i hi h2 => ?_⟩
    · have := h4 k (by omega)
      rwa [turnOf_of p2 a2 k h1, turnOf_of p1 a1 k h2] at this
    · have := h5 i hi
      rwa [← l2, turnOf_of p1 a1 (G.length + i) h2] at this
  · rintro ⟨h3, h4, h5⟩
    refine ⟨inTurns_of p1 a1, inTurns_of p2 a2, by omega, fun k hk => ?_, fun i hi => ?_⟩
    · rw [turnOf_of p2 a2 k (by omega), turnOf_of p1 a1 k (by omega)]
      exact h4 k (by omega) (by omega)
    · rw [← l2, turnOf_of p1 a1 (G.length + i) (by omega)]
      exact h5 i hi (by omega)
theorem tick_rd {w w' : World} {v : Value} {T S : List Fc} (h : TickNew w w' v T S) : FactsIn w' v S := by
  obtain ⟨fp, ho, -⟩ := facts_of_owns h.2.2.1 (Nat.le_refl _) h.2.2.2
  exact ho.rd
set_option maxHeartbeats 800000 in
set_option maxRecDepth 100000 in
theorem impl_ringgood (v vl : Value) (L : List Fc) (left : List Int) (w : World) (hn : L.length ≤ 4194304) (hm : left.length ≤ 4194304) (h : FactsIn w v L) (hl : IntsIn w vl left) :
    Calls Try.prog 29 #[v, vl] w fun e w' => e = .returned (.bool (rgB L left)) ∧ Below w.heap.size w w' := by
  have H := hidIt h
  have HL := hidIt hl
  obtain ⟨a, c, rfl, -⟩ := h.form
  obtain ⟨al, cl, rfl, -⟩ := hl.form
  clear h hl
  have l1 : (took L 1).length ≤ L.length := List.length_filter_le _ _
  have l2 : (took L 2).length ≤ L.length := List.length_filter_le _ _
  go_enter Try.func29, Try.ntmps29
  go_wp2_with fail
  refine (impl_tickets _ L 1 _ hn H.out).mono ?_
  rintro e w1 ⟨v1, P, rfl, t1⟩
  have T1 := hidIt t1
  have b1 := hidIt t1.2.2.2
  obtain ⟨aP, cP, hv1⟩ := own_form t1.2.2.1
  have hcap : P.length ≤ cP := by
    obtain ⟨a', c', e', h', -⟩ := tick_rd t1
    rw [hv1] at e'
    simp at e'
    omega
  have n1 : P.length ≤ 4194304 := by have := t1.1.length_eq; omega
  subst hv1
  clear t1
  go_wp2_with fail
  refine (impl_tickets _ L 2 _ hn (H.out.below b1.out)).mono ?_
  rintro e w2 ⟨v2, G, rfl, t2⟩
  have T2 := hidIt t2
  have b2 := hidIt (below_step b1.out t2.2.2.2)
  have RP := hidIt ((tick_rd T1.out).below t2.2.2.2)
  have RG := hidIt (tick_rd t2)
  have RL := hidIt (HL.out.below b2.out)
  obtain ⟨aG, cG, hv2⟩ := own_form t2.2.2.1
  have n2 : G.length ≤ 4194304 := by have := t2.1.length_eq; omega
  subst hv2
  clear t2
  go_wp2_with fail
  refine (impl_inturn _ P _ n1 RP.out).mono ?_
  rintro e w3 ⟨he, b3⟩
  have b3' := hidIt (below_step b2.out b3)
  have B3 := hidIt b3
  clear b3
  rcases he with ⟨hP, rfl⟩ | ⟨hP, rfl⟩
  · go_wp2_with fail
    refine (impl_inturn _ G _ n2 (RG.out.below B3.out)).mono ?_
    rintro e w4 ⟨he, b4⟩
    have B4 := hidIt (below_step B3.out b4)
    have b4' := hidIt (below_step b2.out B4.out)
    clear b4 b3' B3
    rcases he with ⟨hG, rfl⟩ | ⟨hG, rfl⟩
    · have HI := hidIt (rg_iff (left := left) T1.out.1 T2.out.1 hP hG)
      clear hP hG
      by_cases hlen : P.length = G.length + left.length
      · have hz : ((P.length : Int) != (G.length : Int) + (left.length : Int)) = false := by simp; omega
        go_wp2
        have HLEN := hidIt hlen
        have hcap2 : G.length + left.length ≤ cP := by omega
        go_loopg [35] G.length (fun gk s35 wr => ∃ k : Nat, k ≤ G.length ∧ gk = G.length - k ∧ s35 = .int .i64 k ∧ Below w2.heap.size w2 wr ∧ Hid (∀ i (h1 : i < G.length) (h2 : i < P.length), i < k → G[i].v = P[i].a))
        case atStart => exact ⟨0, Nat.zero_le _, rfl, rfl, B4.out, hidIt (fun i _ _ h => by omega)⟩
        case round =>
          clear B4 b4'
          rename World => wr
          obtain ⟨k, hk, hgk, rfl, hbi, HJ⟩ := hrel
          have HG := hidIt hgk
          clear hgk
          have hbw := hidIt (below_step b2.out hbi)
          by_cases hlt : k < G.length
          · have hlt' : (k : Int) < (G.length : Int) := by omega
            have hlp : k < P.length := by omega
            have hlp' : (k : Int) < (G.length : Int) + (left.length : Int) := by omega
            have RG2 := RG.out
            have RP2 := RP.out
            obtain ⟨gb, goff, rfl, hgb, hgc⟩ := fact_cell RG2 k hlt
            obtain ⟨pb, poff, rfl, hpb, hpc⟩ := fact_cell RP2 k hlp
            obtain ⟨m0, m1, m2, m3, m4, m5, m6, m7⟩ := hgc.of (fun q => hbi.cell (p := ⟨gb, q, none⟩) hgb)
            obtain ⟨q0, q1, q2, q3, q4, q5, q6, q7⟩ := hpc.of (fun q => hbi.cell (p := ⟨pb, q, none⟩) hpb)
            have hpz : pb < wr.heap.size := Nat.lt_of_lt_of_le hpb hbi.size
            clear hgc hpc RG2 RP2 q0 q1 q3 q4 q5 q6 q7
            have HC := hidIt (fun (e : G[k].v = P[k].a) => (fun i (h1 : i < G.length) (h2 : i < P.length) (h3 : i < k + 1) => (by
              by_cases e2 : i = k
              · subst e2; exact e
              · exact HJ.out i h1 h2 (by omega) : G[i].v = P[i].a)))
            have HC2 := hidIt (fun (e : rgN L left) => (HI.out.1 e).2.1 k hlt hlp)
            generalize G[k] = g at m0 m1 m2 m3 m4 m5 m6 m7 HC HC2
            generalize P[k] = p at q2 HC HC2
            clear hlen hlp
            by_cases hx : g.v = p.a
            · have HX := hidIt (HC.out hx)
              have hx1 : (g.v != p.a) = false := by simp [hx]
              clear hx
              go_wp2
              go_quiet (fail)
              go_wp2
              go_roundg (G.length - (k + 1))
              case measure => rw [HG.out]; omega
              case rel => exact ⟨k + 1, by omega, rfl, by go_num, below_drewN (hbi.alloc hbi.size _) _, hidIt HX.out⟩
            · have HX := hidIt (show ¬ rgN L left from fun g' => hx (HC2.out g'))
              have hx1 : (g.v != p.a) = true := by simp [hx]
              clear hx
              go_wp2
              go_quiet (fail)
              go_wp2
              go_ret
              exact ⟨ret_boolx (rgB_no HX.out).symm, below_drewN (hbw.out.alloc hbw.out.size _) _⟩
          · have hke : k = G.length := by omega
            subst hke
            have HJ2 := hidIt (fun i (h1 : i < G.length) (h2 : i < P.length) => HJ.out i h1 h2 h1)
            by_cases h0 : left.length = 0
            · obtain rfl : left = [] := List.length_eq_zero_iff.1 h0
              clear hlen
              have HY := hidIt (HI.out.2 ⟨HLEN.out, HJ2.out, fun i hi => absurd hi (by simp)⟩)
              go_wp2
              all_goals
                go_loopg [54] 0 (fun gk s54 wi => gk = 0 ∧ s54 = .int .i64 0 ∧ Below w.heap.size w wi)
                case atStart => exact ⟨rfl, rfl, hbw.out⟩
                case round =>
                  rename World => wi
                  obtain ⟨hgk0, rfl, hbz⟩ := hrel
                  clear hgk0
                  go_wp2
                  go_ret
                  exact ⟨ret_boolx (rgB_yes HY.out).symm, hbz⟩
            · have RP2 := RP.out
              obtain ⟨pb, poff, rfl, hpb, -⟩ := fact_cell RP2 G.length (by omega)
              clear RP2 hlen
              have h0' : 0 < left.length := by omega
              have hcg : G.length < cP := by omega
              have hz5 : (G.length : Int) ≤ (G.length : Int) + (left.length : Int) := by omega
              clear h0
              go_wp2
              go_loopg [54] left.length (fun gk s54 wi => ∃ k : Nat, k ≤ left.length ∧ gk = left.length - k ∧ s54 = .int .i64 k ∧ Below w2.heap.size w2 wi ∧ Hid (∀ i (hi : i < left.length) (h2 : G.length + i < P.length), i < k → P[G.length + i].a = left[i]))
              case atStart => exact ⟨0, Nat.zero_le _, rfl, rfl, hbi, hidIt (fun i _ _ h => by omega)⟩
              case round =>
                clear hbi hbw HG
                rename World => wi
                obtain ⟨k, hk, hgk, rfl, hbi, HK⟩ := hrel
                have HG := hidIt hgk
                clear hgk
                have hbw := hidIt (below_step b2.out hbi)
                by_cases hlt : k < left.length
                · have hlt' : (k : Int) < (left.length : Int) := by omega
                  have hlp : G.length + k < P.length := by have := HLEN.out; omega
                  have RL2 := RL.out
                  obtain ⟨b2', o2, he, -, hpc⟩ := fact_cell RP.out (G.length + k) hlp
                  simp at he
                  obtain ⟨rfl, rfl⟩ := he
                  rw [show poff + (G.length + k) * 8 = poff + G.length * 8 + k * 8 by omega] at hpc
                  obtain ⟨q0, q1, q2, q3, q4, q5, q6, q7⟩ := hpc.of (fun q => hbi.cell (p := ⟨pb, q, none⟩) hpb)
                  obtain ⟨lb, loff, rfl, -, hlb, hcl⟩ := ints_cell RL2 k hlt
                  have hc3 := below_cell hbi hlb hcl
                  have hlz : lb < wi.heap.size := Nat.lt_of_lt_of_le hlb hbi.size
                  clear hcl hpc RL2
                  have HC := hidIt (fun (e : P[G.length + k].a = left[k]) => (fun i (h1 : i < left.length) (h2 : G.length + i < P.length) (h3 : i < k + 1) => (by
                    by_cases e2 : i = k
                    · subst e2; exact e
                    · exact HK.out i h1 h2 (by omega) : P[G.length + i].a = left[i])))
                  have HC2 := hidIt (fun (e : rgN L left) => (HI.out.1 e).2.2 k hlt hlp)
                  generalize P[G.length + k] = p at q0 q1 q2 q3 q4 q5 q6 q7 HC HC2
                  generalize left[k] = y at hc3 HC HC2
                  by_cases hx : p.a = y
                  · have HX := hidIt (HC.out hx)
                    have hx1 : (p.a != y) = false := by simp [hx]
                    clear hx hlp
                    go_wp2
                    go_quiet (fail)
                    go_wp2
                    go_roundg (left.length - (k + 1))
                    case measure => rw [HG.out]; omega
                    case rel => exact ⟨k + 1, by omega, rfl, by go_num, below_drewN (hbi.alloc hbi.size _) _, hidIt HX.out⟩
                  · have HX := hidIt (show ¬ rgN L left from fun g' => hx (HC2.out g'))
                    have hx1 : (p.a != y) = true := by simp [hx]
                    clear hx hlp
                    go_wp2
                    go_quiet (fail)
                    go_wp2
                    go_ret
                    exact ⟨ret_boolx (rgB_no HX.out).symm, below_drewN (hbw.out.alloc hbw.out.size _) _⟩
                · have hke : k = left.length := by omega
                  subst hke
                  have HY := hidIt (HI.out.2 ⟨HLEN.out, HJ2.out, fun i hi h2 => HK.out i hi h2 hi⟩)
                  go_wp2
                  go_ret
                  exact ⟨ret_boolx (rgB_yes HY.out).symm, hbw.out⟩
      · have HNO := hidIt (show ¬ rgN L left from fun g => hlen (HI.out.1 g).1)
        have hz : ((P.length : Int) != (G.length : Int) + (left.length : Int)) = true := by simp; omega
        clear hlen
        go_wp2
        go_ret
        exact ⟨ret_boolx (rgB_no HNO.out).symm, b4'.out⟩
    · have HNO := hidIt (show ¬ rgN L left from fun g => hG (rg_turns T2.out.1 T2.out.2.1 g.2.1))
      clear hP hG
      go_wp2
      go_ret
      exact ⟨ret_boolx (rgB_no HNO.out).symm, b4'.out⟩
  · have HNO := hidIt (show ¬ rgN L left from fun g => hP (rg_turns T1.out.1 T1.out.2.1 g.1))
    clear hP
    go_wp2
    go_ret
    exact ⟨ret_boolx (rgB_no HNO.out).symm, b3'.out⟩

end Go.Proofs.Ytmifnemjihffkaa
