/- Whether the turns of a kind are 0, 1 and so on: by the model. -/
import Derived.Test.YtmifnemjihffkaaRows
import Derived.WalkKit
import Derived.ProofKit
import Derived.OpenShut
import Derived.ShutString
import Derived.Test.YtmifnemjihffkaaRgTurn
namespace Go.Proofs.Ytmifnemjihffkaa
open Go.ChangeShapes Go.WideShapes Go.ChangeAt Go.RowKit
set_option linter.unusedVariables false

set_option maxHeartbeats 1600000 in
set_option maxRecDepth 100000 in
theorem spec_turns (v : Value) (L : List Fc) (kind : Int) (w : World) (hn : L.length ≤ 4194304) (h : FactsIn w v L) :
    Calls Try.prog 46 #[v, .int .i64 kind] w fun e w' => (inTurns (took L kind) ∧ e = .returned (.int .i64 ((took L kind).length : Nat)) ∨ ¬ inTurns (took L kind) ∧ e = .returned (.int .i64 (-1))) ∧ Below w.heap.size w w' := by
  have H := hidIt h
  obtain ⟨a, c, rfl, -⟩ := h.form
  clear h
  go_enter Try.func46, Try.ntmps46
  go_wp2
  go_loopg [5, 13] L.length (fun gk s5 s13 wr => ∃ k : Nat, k ≤ L.length ∧ gk = L.length - k ∧ s13 = .int .i64 k ∧ s5 = .int .i64 (((took (L.take k) kind).length : Nat) : Int) ∧ Below w.heap.size w wr)
  case atStart => exact ⟨0, Nat.zero_le _, rfl, rfl, rfl, Below.refl _ _⟩
  case round =>
    rename World => wr
    obtain ⟨k, hk, hgk, rfl, rfl, hbw⟩ := hrel
    have HG := hidIt hgk
    clear hgk
    have hle := took_len L kind k
    by_cases hlt : k < L.length
    · have hlt' : (k : Int) < (L.length : Int) := by omega
      obtain ⟨b, off, rfl, hb, hc⟩ := fact_cell H.out k hlt
      obtain ⟨m0, m1, m2, m3, m4, m5, m6, m7⟩ := hc.of (fun q => hbw.cell (p := ⟨b, q, none⟩) hb)
      clear hc
      have HT := hidIt (took_step L kind k hlt)
      generalize L[k] = f at *
      generalize took (L.take k) kind = T at *
      obtain ⟨fth, fk, fa, fr, fv, ft, fb, fe⟩ := f
      simp only at m0 m1 m2 m3 m4 m5 m6 m7
      by_cases hkr : fk = kind ∧ fr = 1
      · obtain ⟨hk1, hr1⟩ := hkr
        subst hk1
        subst hr1
        have HT2 := hidIt (show ((took (L.take (k + 1)) fk).length : Int) = (T.length : Int) + 1 by rw [HT.out, tookB_yes (f := ⟨fth, fk, fa, 1, fv, ft, fb, fe⟩) rfl rfl]; simp)
        have hU : (T.length : Int) + 1 ≤ 4194305 := by omega
        go_wp2
        go_roundg (L.length - (k + 1))
        case measure => rw [HG.out]; omega
        case rel => exact ⟨k + 1, by omega, rfl, by go_num, by rw [HT2.out], hbw.alloc hbw.size _⟩
      · have HT2 := hidIt (show took (L.take (k + 1)) kind = T by rw [HT.out, tookB_no (f := ⟨fth, fk, fa, fr, fv, ft, fb, fe⟩) hkr]; simp)
        by_cases hk1 : fk = kind
        · have hr1 : ¬ fr = 1 := fun e => hkr ⟨hk1, e⟩
          subst hk1
          clear hkr
          go_wp2
          go_roundg (L.length - (k + 1))
          case measure => rw [HG.out]; omega
          case rel => exact ⟨k + 1, by omega, rfl, by go_num, by rw [HT2.out], hbw.alloc hbw.size _⟩
        · clear hkr
          go_wp2
          go_roundg (L.length - (k + 1))
          case measure => rw [HG.out]; omega
          case rel => exact ⟨k + 1, by omega, rfl, by go_num, by rw [HT2.out], hbw.alloc hbw.size _⟩
    · have hke : k = L.length := by omega
      subst hke
      have HE := hidIt (show L.take L.length = L from List.take_length)
      rw [HE.out] at hle ⊢
      clear HG
      go_wp2
      go_loopg [8] (took L kind).length (fun gk s8 wi => ∃ j : Nat, j ≤ (took L kind).length ∧ gk = (took L kind).length - j ∧ s8 = .int .i64 j ∧ Below w.heap.size w wi ∧ Hid (∀ i : Nat, i < j → (onTurn (took L kind) (i : Int)).length = 1))
      case atStart => exact ⟨0, Nat.zero_le _, rfl, rfl, hbw, hidIt (fun i hi => by omega)⟩
      case round =>
        clear hbw
        rename World => wi
        obtain ⟨j, hj, hgj, rfl, hbi, HI⟩ := hrel
        have HJ := hidIt hgj
        clear hgj
        by_cases hjl : j < (took L kind).length
        · have hjl' : (j : Int) < ((took L kind).length : Int) := by omega
          go_wp2_with fail
          refine (spec_turn _ L kind (j : Int) _ hn (H.out.below hbi)).mono ?_
          rintro e w2 ⟨rfl, b2⟩
          have hb2 := below_step hbi b2
          clear b2 hbi
          by_cases h1 : (onTurn (took L kind) (j : Int)).length = 1
          · have H1 := hidIt h1
            rw [h1]
            clear h1
            go_wp2
            go_roundg ((took L kind).length - (j + 1))
            case measure => rw [HJ.out]; omega
            case rel => exact ⟨j + 1, by omega, rfl, by go_num, hb2.alloc hb2.size _, hidIt (fun i hi => by
              by_cases e : i = j
              · subst e; exact H1.out
              · exact HI.out i (by omega))⟩
          · have h1' : ¬ (((onTurn (took L kind) (j : Int)).length : Nat) : Int) = 1 := by omega
            have H1 := hidIt h1
            clear h1
            generalize (((onTurn (took L kind) (j : Int)).length : Nat) : Int) = z at *
            go_wp2
            go_ret
            exact ⟨.inr ⟨fun g => H1.out (g j hjl), rfl⟩, hb2.alloc hb2.size _⟩
        · have hje : j = (took L kind).length := by omega
          subst hje
          go_wp2
          go_ret
          exact ⟨.inl ⟨fun i hi => HI.out i hi, rfl⟩, hbi⟩

end Go.Proofs.Ytmifnemjihffkaa
