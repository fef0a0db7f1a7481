/- Tickets of a kind, sorted by their turns: by the program. -/
import Derived.Test.YtmifnemjihffkaaRows
import Derived.WalkKit
import Derived.ProofKit
import Derived.OpenShut
import Derived.ShutString
import Derived.Test.YtmifnemjihffkaaRgTurn
import Derived.Test.YtmifnemjihffkaaSortFact
import Derived.Deep.LoopGhost
namespace Go.Proofs.Ytmifnemjihffkaa
open Go.ChangeShapes Go.WideShapes Go.ChangeAt Go.RowKit
set_option linter.unusedVariables false

def turnLe (S : List Fc) : Prop := ∀ i j (hij : i < j) (hj : j < S.length), (S[i]'(by omega)).t ≤ S[j].t
def TickNew (w w' : World) (v : Value) (T S : List Fc) : Prop := S.Perm T ∧ turnLe S ∧ w'.ownsRow w.heap.size 46 8 v S.length (eights S) ∧ Below w.heap.size w w'
set_option maxHeartbeats 1600000 in
set_option maxRecDepth 100000 in
theorem impl_tickets (v : Value) (L : List Fc) (kind : Int) (w : World) (hn : L.length ≤ 4194304) (h : FactsIn w v L) :
    Calls Try.prog 48 #[v, .int .i64 kind] w fun e w' => ∃ v' S, e = .returned v' ∧ TickNew w w' v' (took L kind) S := by
  obtain ⟨i0, hi0, hz0, hz1, hz2⟩ := info_parts infoFact
  have H := hidIt h
  obtain ⟨a, c, rfl, -⟩ := h.form
  clear h
  go_enter Try.func48, Try.ntmps48
  go_wp2
  go_loopg [5, 10] L.length (fun gk s5 s10 wr => ∃ k : Nat, k ≤ L.length ∧ gk = L.length - k ∧ s10 = .int .i64 k ∧ wr.ownsRow w.heap.size 46 8 s5 (took (L.take k) kind).length (eights (took (L.take k) kind)) ∧ Below w.heap.size w wr)
  case atStart => exact ⟨0, Nat.zero_le _, rfl, rfl, own_nil _ _ _ _, Below.refl _ _⟩
  case round =>
    rename World => wr
    obtain ⟨k, hk, hgk, rfl, hown, hbw⟩ := hrel
    have HG := hidIt hgk
    clear hgk
    have hle := took_len L kind k
    obtain ⟨av, cv, hv⟩ := own_form hown
    by_cases hlt : k < L.length
    · have hlt' : (k : Int) < (L.length : Int) := by omega
      obtain ⟨b, off, rfl, hb, hc⟩ := fact_cell H.out k hlt
      obtain ⟨m0, m1, m2, m3, m4, m5, m6, m7⟩ := hc.of (fun q => hbw.cell (p := ⟨b, q, none⟩) hb)
      clear hc
      have HT := hidIt (took_step L kind k hlt)
      generalize L[k] = f at *
      generalize took (L.take k) kind = T at *
      subst hv
      obtain ⟨fth, fk, fa, fr, fv, ft, fb, fe⟩ := f
      simp only at m0 m1 m2 m3 m4 m5 m6 m7
      by_cases hkr : fk = kind ∧ fr = 1
      · obtain ⟨hk1, hr1⟩ := hkr
        subst hk1
        subst hr1
        have HT2 := hidIt (show took (L.take (k + 1)) fk = T ++ [⟨fth, fk, fa, 1, fv, ft, fb, fe⟩] by rw [HT.out, tookB_yes (f := ⟨fth, fk, fa, 1, fv, ft, fb, fe⟩) rfl rfl]; simp)
        have hz := hbw.size
        go_wp2_with (at_builtin; go_loud (refine wpList_append_lies _ rfl _ _ 29 rfl w.heap.size 46 i0 (.agg #[.int .i64 factZero.th, .int .i64 factZero.k, .int .i64 factZero.a, .int .i64 factZero.r, .int .i64 factZero.v, .int .i64 factZero.t, .int .i64 factZero.b, .int .i64 factZero.e]) 8 64 Try.underlying29 hi0 hz0 hz1 hz2 rfl (by omega) (.slice av T.length cv) T.length (eights T) rfl ((hown.alloc _).alloc _) _ 1 1 (eight ⟨fth, fk, fa, 1, fv, ft, fb, fe⟩) rfl rfl (World.news_of_block (at_new (by simp))) (eight_oneCell _) (by omega) (by unfold maxLen; omega) (by omega) (by simp; omega) _ rfl ?_); intro g cap w6 ho hgr hat hgl)
        have hb6 : Below w.heap.size w w6 := ((hbw.alloc hz _).alloc (by simp; omega) _).grown hgr (by simp; omega) (fun q hq => (hown.lt q hq).1)
        have HO := hidIt ho
        clear ho hgr hat hgl hown
        go_wp2
        go_roundg (L.length - (k + 1))
        case measure => rw [HG.out]; omega
        case rel => exact ⟨k + 1, by omega, rfl, by go_num, by rw [HT2.out, List.length_append, eights_app, eights_one]; exact HO.out, hb6⟩
      · have HT2 := hidIt (show took (L.take (k + 1)) kind = T by rw [HT.out, tookB_no (f := ⟨fth, fk, fa, fr, fv, ft, fb, fe⟩) hkr]; simp)
        by_cases hk1 : fk = kind
        · have hr1 : ¬ fr = 1 := fun e => hkr ⟨hk1, e⟩
          subst hk1
          clear hkr
          go_wp2
          go_roundg (L.length - (k + 1))
          case measure => rw [HG.out]; omega
          case rel => exact ⟨k + 1, by omega, rfl, by go_num, by rw [HT2.out]; exact hown.alloc _, hbw.alloc hbw.size _⟩
        · clear hkr
          go_wp2
          go_roundg (L.length - (k + 1))
          case measure => rw [HG.out]; omega
          case rel => exact ⟨k + 1, by omega, rfl, by go_num, by rw [HT2.out]; exact hown.alloc _, hbw.alloc hbw.size _⟩
    · have hke : k = L.length := by omega
      subst hke
      rw [show L.take L.length = L from List.take_length] at hown hle hv
      clear HG
      by_cases h0 : (took L kind).length = 0
      · have hT : took L kind = [] := List.length_eq_zero_iff.1 h0
        rw [h0] at hv
        have HO := hidIt hown
        clear hown hle
        subst hv
        go_wp2_with fail
        refine (sort_empty av cv wr).mono ?_
        rintro e w2 ⟨rfl, rfl⟩
        go_wp2
        go_ret
        exact ⟨_, took L kind, rfl, List.Perm.refl _, fun i j hij hj => by rw [hT] at hj; simp at hj, HO.out, hbw⟩
      · rcases own_cells2 hown with ⟨-, h1, -⟩ | ⟨g, cap, hg, -⟩
        · exact absurd h1 h0
        · have HO := hidIt hown
          rw [hg] at HO hown
          have hgl := hown.lt g rfl
          rw [hg] at hv
          obtain ⟨rfl, rfl⟩ : some ⟨g, 0, none⟩ = av ∧ cap = cv := by simp at hv; exact hv
          have HS := hidIt (sort_facts g cap w.heap.size (took L kind) wr (by omega) hown)
          have hz := hbw.size
          subst hg
          clear hown hle
          go_wp2_with fail
          refine HS.out.mono ?_
          rintro e w2 ⟨rfl, S, hp, hs, ho, hgr⟩
          have hb2 : Below w.heap.size w w2 := hbw.grown hgr hz (fun q hq => by simp at hq; omega)
          have HA := hidIt (show TickNew w w2 (.slice (some ⟨g, 0, none⟩) (took L kind).length cap) (took L kind) S from ⟨hp, hs, by rw [hp.length_eq]; exact ho, hb2⟩)
          clear hp hs ho hgr hb2
          go_wp2
          go_ret
          exact ⟨_, S, rfl, HA.out⟩
def allAt (S : List Fc) : Prop := ∀ k (hk : k < S.length), S[k].t = (k : Int)
set_option maxHeartbeats 1600000 in
set_option maxRecDepth 100000 in
theorem impl_inturn (v : Value) (S : List Fc) (w : World) (hn : S.length ≤ 4194304) (h : FactsIn w v S) :
    Calls Try.prog 49 #[v] w fun e w' => (allAt S ∧ e = .returned (.bool true) ∨ ¬ allAt S ∧ e = .returned (.bool false)) ∧ Below w.heap.size w w' := by
  have H := hidIt h
  obtain ⟨a, c, rfl, -⟩ := h.form
  clear h
  go_enter Try.func49, Try.ntmps49
  go_wp2
  go_loopg [7] S.length (fun gk s7 wr => ∃ k : Nat, k ≤ S.length ∧ gk = S.length - k ∧ s7 = .int .i64 k ∧ Below w.heap.size w wr ∧ Hid (∀ i (hi : i < S.length), i < k → S[i].t = (i : Int)))
  case atStart => exact ⟨0, Nat.zero_le _, rfl, rfl, Below.refl _ _, hidIt (fun i hi h => by omega)⟩
  case round =>
    rename World => wr
    obtain ⟨k, hk, hgk, rfl, hbw, HI⟩ := hrel
    have HG := hidIt hgk
    clear hgk
    by_cases hlt : k < S.length
    · have hlt' : (k : Int) < (S.length : Int) := by omega
      obtain ⟨b, off, rfl, hb, hc⟩ := fact_cell H.out k hlt
      obtain ⟨m0, m1, m2, m3, m4, m5, m6, m7⟩ := hc.of (fun q => hbw.cell (p := ⟨b, q, none⟩) hb)
      clear hc
      by_cases hx : S[k].t = (k : Int)
      · have HX := hidIt hx
        have hx1 : (S[k].t != (k : Int)) = false := by simp [hx]
        rw [hx] at m5
        clear hx
        generalize S[k] = f at m0 m1 m2 m3 m4 m6 m7
        clear hx1
        go_wp2
        go_roundg (S.length - (k + 1))
        case measure => rw [HG.out]; omega
        case rel => exact ⟨k + 1, by omega, rfl, by go_num, hbw.alloc hbw.size _, hidIt (fun i hi h => by
          by_cases e : i = k
          · subst e; exact HX.out
          · exact HI.out i hi (by omega))⟩
      · have HX := hidIt (show ¬ allAt S from fun g => hx (g k hlt))
        have hx1 : (S[k].t != (k : Int)) = true := by simp [hx]
        clear hx
        generalize S[k] = f at *
        go_wp2
        go_ret
        exact ⟨.inr ⟨HX.out, rfl⟩, hbw.alloc hbw.size _⟩
    · have hke : k = S.length := by omega
      subst hke
      go_wp2
      go_ret
      exact ⟨.inl ⟨fun i hi => HI.out i hi hi, rfl⟩, hbw⟩

end Go.Proofs.Ytmifnemjihffkaa
