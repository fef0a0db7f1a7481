/- Whether a ring's tickets are good: by the model. -/
import Derived.Test.YtmifnemjihffkaaRows
import Derived.WalkKit
import Derived.ProofKit
import Derived.OpenShut
import Derived.ShutString
import Derived.Test.YtmifnemjihffkaaRgTurns
import Derived.Deep.QuietTactic
import Derived.BigQuiet
namespace Go.Proofs.Ytmifnemjihffkaa
open Go.ChangeShapes Go.WideShapes Go.ChangeAt Go.RowKit
set_option linter.unusedVariables false

def rgCk (L : List Fc) (left : List Int) (i : Nat) : Prop :=
  (i < (took L 2).length → (tkF L 2 (i : Int)).v = (tkF L 1 (i : Int)).a) ∧ ∀ q (hq : q < left.length), i = (took L 2).length + q → (tkF L 1 (i : Int)).a = left[q]
theorem rg_of {L : List Fc} {left : List Int} (h1 : inTurns (took L 1)) (h2 : inTurns (took L 2)) (hl : (took L 1).length = (took L 2).length + left.length) (h : ∀ i, i < (took L 2).length + left.length → rgCk L left i) : rgN L left :=
  ⟨h1, h2, hl, fun k hk => (h k (by omega)).1 hk, fun i hi => (h _ (by omega)).2 i hi rfl⟩
theorem rg_ck {L : List Fc} {left : List Int} (g : rgN L left) (i : Nat) : rgCk L left i :=
  ⟨fun hi => g.2.2.2.1 i hi, fun q hq e => by subst e; exact g.2.2.2.2 q hq⟩
set_option maxHeartbeats 3200000 in
set_option maxRecDepth 100000 in
theorem spec_ringgood (v vl : Value) (L : List Fc) (left : List Int) (w : World) (hn : L.length ≤ 4194304) (hm : left.length ≤ 4194304) (h : FactsIn w v L) (hl : IntsIn w vl left) :
    Calls Try.prog 28 #[v, vl] w fun e w' => e = .returned (.bool (rgB L left)) ∧ Below w.heap.size w w' := by
  have H := hidIt h
  have HL := hidIt hl
  obtain ⟨a, c, rfl, -⟩ := h.form
  obtain ⟨al, cl, rfl, -⟩ := hl.form
  clear h hl
  have l1 : (took L 1).length ≤ L.length := List.length_filter_le _ _
  have l2 : (took L 2).length ≤ L.length := List.length_filter_le _ _
  go_enter Try.func28, Try.ntmps28
  go_wp2_with fail
  refine (spec_turns _ L 1 _ hn H.out).mono ?_
  rintro e w1 ⟨he, b1⟩
  have hb1 := hidIt b1
  clear b1
  rcases he with ⟨hP, rfl⟩ | ⟨hP, rfl⟩
  · go_wp2_with fail
    refine (spec_turns _ L 2 _ hn (H.out.below hb1.out)).mono ?_
    rintro e w2 ⟨he, b2⟩
    have hb2 := hidIt (below_step hb1.out b2)
    clear b2 hb1
    rcases he with ⟨hG, rfl⟩ | ⟨hG, rfl⟩
    · have HP := hidIt hP
      have HGG := hidIt hG
      clear hP hG
      by_cases hlen : (took L 1).length = (took L 2).length + left.length
      · have HLEN := hidIt hlen
        rw [hlen]
        clear hlen
        have hz1 : (0 : Int) ≤ ((took L 2).length : Int) + (left.length : Int) := by omega
        have hz2 : ¬ (((took L 2).length : Int) + (left.length : Int) < ((took L 2).length : Int)) := by omega
        have hz4 : ((left.length : Int) != ((took L 2).length : Int) + (left.length : Int) - ((took L 2).length : Int)) = false := by rw [show ((took L 2).length : Int) + (left.length : Int) - ((took L 2).length : Int) = (left.length : Int) by omega]; simp
        go_wp2
        clear hz1 hz2 hz4
        go_loopg [7] ((took L 2).length + left.length) (fun gk s7 wr => ∃ k : Nat, k ≤ (took L 2).length + left.length ∧ gk = (took L 2).length + left.length - k ∧ s7 = .int .i64 k ∧ Below w.heap.size w wr ∧ Hid (∀ i, i < k → rgCk L left i))
        case atStart => exact ⟨0, Nat.zero_le _, rfl, rfl, hb2.out, hidIt (fun i hi => by omega)⟩
        case round =>
          clear hb2
          rename World => wr
          obtain ⟨k, hk, hgk, rfl, hbw, HI⟩ := hrel
          have HG := hidIt hgk
          clear hgk
          by_cases hlt : k < (took L 2).length + left.length
          · have hlt' : (k : Int) < ((took L 2).length : Int) + (left.length : Int) := by omega
            go_wp2_with fail
            refine (spec_turn _ L 1 (k : Int) _ hn (H.out.below hbw)).mono ?_
            rintro e w3 ⟨rfl, b3⟩
            have hb3 := below_step hbw b3
            clear b3 hbw
            have XP := hidIt (show Bx (w3.alloc (.cells (fx (tkF L 1 (k : Int))) 46)) w3.heap.size (fx (tkF L 1 (k : Int))) from Bx.new _ _ _)
            by_cases hkg : k < (took L 2).length
            · have hkg' : ¬ (((took L 2).length : Int) ≤ (k : Int)) := by omega
              go_wp2_with fail
              refine (spec_turn _ L 2 (k : Int) _ hn (H.out.below (hb3.alloc hb3.size _))).mono ?_
              rintro e w4 ⟨rfl, b4⟩
              have hb4 := below_step (hb3.alloc hb3.size _) b4
              have X4 := XP.out.below b4
              have HC := hidIt (show (tkF L 2 (k : Int)).v = (tkF L 1 (k : Int)).a → rgCk L left k from fun e => ⟨fun _ => e, fun q _ e2 => by omega⟩)
              have HC2 := hidIt (show rgCk L left k → (tkF L 2 (k : Int)).v = (tkF L 1 (k : Int)).a from fun e => e.1 hkg)
              clear b4 hb3 XP
              generalize tkF L 2 (k : Int) = g at *
              generalize tkF L 1 (k : Int) = p at *
              obtain ⟨p0, p1, p2, p3, p4, p5, p6, p7⟩ := X4.fact
              have hl4 := X4.1
              by_cases hx : g.v = p.a
              · have HX := hidIt (HC.out hx)
                have hx1 : (g.v != p.a) = false := by simp [hx]
                clear hx
                go_wp2
                go_roundg ((took L 2).length + left.length - (k + 1))
                case measure => rw [HG.out]; omega
                case rel => exact ⟨k + 1, by omega, rfl, by go_num, hb4.alloc hb4.size _, hidIt (fun i hi => by
                  by_cases e : i = k
                  · subst e; exact HX.out
                  · exact HI.out i (by omega))⟩
              · have HX := hidIt (show ¬ rgN L left from fun g' => hx (HC2.out (rg_ck g' k)))
                have hx1 : (g.v != p.a) = true := by simp [hx]
                clear hx
                go_wp2
                go_ret
                exact ⟨ret_boolx (rgB_no HX.out).symm, hb4.alloc hb4.size _⟩
            · obtain ⟨i, rfl⟩ : ∃ i, k = (took L 2).length + i := ⟨k - (took L 2).length, by omega⟩
              have hil : i < left.length := by omega
              obtain ⟨lb, loff, rfl, -, hlb, hcl⟩ := ints_cell HL.out i hil
              have hc3 := below_cell hb3 hlb hcl
              have hlb3 : lb < w3.heap.size := Nat.lt_of_lt_of_le hlb hb3.size
              have HC := hidIt (show left[i] = (tkF L 1 (((took L 2).length + i : Nat) : Int)).a → rgCk L left ((took L 2).length + i) from fun e => ⟨fun h => by omega, fun q hq e2 => by
                obtain rfl : q = i := by omega
                exact e.symm⟩)
              have HC2 := hidIt (show rgCk L left ((took L 2).length + i) → left[i] = (tkF L 1 (((took L 2).length + i : Nat) : Int)).a from fun e => (e.2 i hil rfl).symm)
              have hil' : (i : Int) < (left.length : Int) := by omega
              clear hcl XP
              generalize left[i] = y at *
              generalize tkF L 1 (((took L 2).length + i : Nat) : Int) = p at *
              have hbz : Below w.heap.size w (w3.alloc (.cells (fx p) 46)) := hb3.alloc hb3.size _
              by_cases hx : y = p.a
              · have HX := hidIt (HC.out hx)
                have hx1 : (y != p.a) = false := by simp [hx]
                have HY := hidIt hx
                clear hx
                go_wp2
                go_quiet (fail)
                go_wp2
                go_roundg ((took L 2).length + left.length - ((took L 2).length + i + 1))
                case measure => rw [HG.out]; omega
                case rel => exact ⟨(took L 2).length + i + 1, by omega, rfl, by go_num, below_drewN hbz _, hidIt (fun q hq => by
                  by_cases e : q = (took L 2).length + i
                  · subst e; exact HX.out
                  · exact HI.out q (by omega))⟩
              · have HX := hidIt (show ¬ rgN L left from fun g' => hx (HC2.out (rg_ck g' _)))
                have hx1 : (y != p.a) = true := by simp [hx]
                clear hx
                go_wp2
                go_quiet (fail)
                go_wp2
                go_ret
                exact ⟨ret_boolx (rgB_no HX.out).symm, below_drewN hbz _⟩
          · have hke : k = (took L 2).length + left.length := by omega
            subst hke
            go_wp2
            go_ret
            exact ⟨ret_boolx (rgB_yes (rg_of HP.out HGG.out HLEN.out HI.out)).symm, hbw⟩
      · have HLEN := hidIt (show ¬ rgN L left from fun g => hlen g.2.2.1)
        clear HP HGG
        by_cases hgt : (took L 1).length < (took L 2).length
        · have hz : ((took L 1).length : Int) < ((took L 2).length : Int) := by omega
          clear hlen
          go_wp2
          go_ret
          exact ⟨ret_boolx (rgB_no HLEN.out).symm, hb2.out⟩
        · have hz : ¬ (((took L 1).length : Int) < ((took L 2).length : Int)) := by omega
          have hz3 : ((left.length : Int) != ((took L 1).length : Int) - ((took L 2).length : Int)) = true := by simp; omega
          clear hlen hgt
          go_wp2
          go_ret
          exact ⟨ret_boolx (rgB_no HLEN.out).symm, hb2.out⟩
    · have HNO := hidIt (show ¬ rgN L left from fun g => hG g.2.1)
      clear hP hG
      go_wp2
      go_ret
      exact ⟨ret_boolx (rgB_no HNO.out).symm, hb2.out⟩
  · have HNO := hidIt (show ¬ rgN L left from fun g => hP g.1)
    clear hP
    go_wp2_with fail
    refine (spec_turns _ L 2 _ hn (H.out.below hb1.out)).mono ?_
    rintro e w2 ⟨he, b2⟩
    have hb2 := hidIt (below_step hb1.out b2)
    clear b2 hb1
    rcases he with ⟨-, rfl⟩ | ⟨-, rfl⟩
    · go_wp2
      go_ret
      exact ⟨ret_boolx (rgB_no HNO.out).symm, hb2.out⟩
    · go_wp2
      go_ret
      exact ⟨ret_boolx (rgB_no HNO.out).symm, hb2.out⟩

end Go.Proofs.Ytmifnemjihffkaa
