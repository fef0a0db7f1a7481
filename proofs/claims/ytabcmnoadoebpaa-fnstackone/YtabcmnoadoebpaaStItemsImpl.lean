/- The places of a stack from the top on, by the program. -/
import Derived.Test.YtabcmnoadoebpaaRows
import Derived.WalkKit
import Derived.ProofKit
import Derived.OpenShut
import Derived.ShutString
import Derived.Test.YtabcmnoadoebpaaStackImpl2
import Derived.Test.YtabcmnoadoebpaaStPlain
import Derived.Deep.AppendLies
import Derived.Deep.RegionHeld3
namespace Go.Proofs.Ytabcmnoadoebpaa
open Go.ChangeShapes Go.WideShapes Go.ChangeAt Go.RowKit
set_option linter.unusedVariables false

def CapOk (v : Value) : Prop := match v with | .slice _ n c => n ≤ c | _ => True
theorem capOk_own {w : World} {base : Nat} {e : TypeId} {v : Value} {n : Nat} {xs : List Value} (h : w.ownsRow base e 1 v n xs) : CapOk v := by
  rcases own_cells h with ⟨rfl, -, -⟩ | ⟨g, cap, rfl, -, -, h3, -⟩
  · exact Nat.le_refl 0
  · exact h3
theorem impl_stitems_no (n : Int) (a : Option Addr) (m c : Nat) (w : World) (h : ¬ (szB n = true ∧ (m : Int) = 1 + n)) :
    Calls Try.prog 11 #[.int .i64 n, .agg #[.slice a m c]] w fun e w' => ∃ v', e = .returned v' ∧ CapOk v' ∧ Row w' w.heap.size w'.heap.size v' (ints []) ∧ Below w.heap.size w w' := by
  have hs : stkB n m = false := by
    unfold stkB
    rw [Bool.and_eq_false_iff, decide_eq_false_iff_not]
    by_cases hz : szB n = true
    · exact .inr fun e => h ⟨hz, e⟩
    · exact .inl (by simpa using hz)
  clear h
  go_enter Try.func11, Try.ntmps11
  go_wp2_with fail
  refine (impl_isstack n _ _ c _).mono ?_
  rintro e w1 ⟨rfl, b1⟩
  rw [hs]
  go_wp2
  go_ret
  exact ⟨_, rfl, Nat.le_refl 0, ⟨_, _, rfl, .inl rfl⟩, ((Below.refl _ _).alloc (Nat.le_refl _) _).trans (b1.mono (by simp))⟩
theorem below_dr {W X : World} (h : Below W.heap.size W X) : Below W.heap.size W X.drew := h.drew
theorem wrap_sub1 (x : Int) (h1 : -9223372036854775808 ≤ x) (h2 : x ≤ 9223372036854775807) (N : Nat) (hN : N ≤ 16) : (1 ≤ x ∧ x ≤ (N : Int)) ∨ plcB N (wrap64 (x - 1)) = false ∧ ¬ (1 ≤ x ∧ x ≤ (N : Int)) := by
  by_cases h : 1 ≤ x ∧ x ≤ (N : Int)
  · exact .inl h
  · refine .inr ⟨decide_eq_false ?_, h⟩
    unfold wrap64
    omega

set_option maxHeartbeats 1600000 in
set_option maxRecDepth 100000 in
theorem impl_stitems_yes (N lo hi : Nat) (v : Value) (xs R : List Int) (w : World) (h1 : 1 ≤ N) (h2 : N ≤ 16) (hl : xs.length = N + 1) (hwf : ∀ z ∈ xs, -9223372036854775808 ≤ z ∧ z ≤ 9223372036854775807) (hh : hi ≤ w.heap.size) (r : Row w lo hi v (ints xs))
    (hR : R = if unB (xs.getD 0 0) = true then stGo xs N (N + 1) (unI (xs.getD 0 0)) [] else []) :
    Calls Try.prog 11 #[.int .i64 (N : Int), .agg #[v]] w fun e w' => ∃ v', e = .returned v' ∧ CapOk v' ∧ Row w' w.heap.size w'.heap.size v' (ints R) ∧ Below w.heap.size w w' := by
  obtain ⟨i0, hi0, hz0, hz1, hz2⟩ := info_parts info3
  have hs : stkB N (N + 1) = true := by
    have : szB N = true := decide_eq_true ⟨by omega, by omega⟩
    unfold stkB
    rw [this]
    simp
    omega
  have HS := hidIt hs
  have HRow := hidIt r
  obtain ⟨g, c, rfl, g1, g2, -, -⟩ := r.ofSome (by omega)
  have hbd : ∀ j, j < N + 1 → -9223372036854775808 ≤ xs.getD j 0 ∧ xs.getD j 0 ≤ 9223372036854775807 := fun j hj => by
    have := hwf xs[j] (List.getElem_mem (by omega))
    simpa [show j < xs.length by omega] using this
  have HW := hidIt hbd
  have e0 : cellL xs 0 = xs.getD 0 0 := by unfold cellL; rw [if_pos ⟨by omega, by omega⟩]; rfl
  have E0 := hidIt e0
  obtain ⟨b1, b2⟩ := hbd 0 (by omega)
  generalize xs.getD 0 0 = x0 at b1 b2 hR E0
  have HR := hidIt hR
  have hgz : g < w.heap.size := by omega
  have HL := hidIt hl
  rw [hl] at HRow ⊢
  clear hR hwf hs r hbd hl e0
  go_enter Try.func11, Try.ntmps11
  go_wp2_with fail
  refine (impl_isstack N _ _ c _).mono ?_
  rintro e w1 ⟨rfl, b1'⟩
  rw [HS.out]
  have z1 := b1'.size
  simp at z1
  have c1 : w1.cell? ⟨w.heap.size, 0, none⟩ = some (.slice (some ⟨g, 0, none⟩) (N + 1) c) := below_cell b1' (by simp) (by simp [go_sem])
  have B1 := hidIt (((Below.refl _ w).alloc (Nat.le_refl _) _).trans (b1'.mono (by simp)))
  clear b1'
  go_wp2_with fail
  refine (impl_cellof lo hi _ xs 0 _ (by rw [HL.out]; omega) (by omega) (HRow.out.below (B1.out.mono hh))).mono ?_
  rintro e w2 ⟨rfl, b2'⟩
  rw [E0.out]
  have z2 := b2'.size
  have c2 : w2.cell? ⟨w.heap.size, 0, none⟩ = some (.slice (some ⟨g, 0, none⟩) (N + 1) c) := below_cell b2' (by omega) c1
  have B2 := hidIt (B1.out.trans (b2'.mono (by omega)))
  clear b2' c1 B1
  go_wp2_with fail
  refine (impl_unpack x0 _ b1 b2).mono ?_
  rintro e w2 ⟨rfl, rfl⟩
  by_cases hu : unB x0 = true
  · have hr : R = stGo xs N (N + 1) (unI x0) [] := by rw [HR.out, if_pos hu]
    have HR2 := hidIt hr
    have hub := un_bd x0
    rw [hu]
    clear hr HR hu
    go_wp2
    go_loopw [6, 8] (fun i v wr => ∃ (x : Int) (out : List Int) (f : Nat), i = .int .i64 x ∧ -9223372036854775808 ≤ x ∧ x ≤ 9223372036854775807 ∧ out.length + f = N + 1 ∧ 1 ≤ f ∧ w.heap.size < wr.heap.size ∧ wr.cell? ⟨w.heap.size, 0, none⟩ = some (.slice (some ⟨g, 0, none⟩) (N + 1) c) ∧ wr.ownsRow (w.heap.size + 1) 3 1 v out.length (ints out) ∧ Below w.heap.size w wr ∧ Hid (R = stGo xs N f x out ∧ out.Nodup ∧ ∀ y ∈ out, 0 ≤ y ∧ y < (N : Int))) (fun _ v _ => N + 1 - sliceLen v)
    case atStart => exact ⟨unI x0, [], N + 1, rfl, by omega, by omega, by simp, by omega, by omega, c2, World.ownsRow_nil _ _ _ _, B2.out, ⟨HR2.out, by simp, by simp⟩⟩
    case round =>
      obtain ⟨x, out, f, rfl, x1, x2, hf, hf1, hzr, q1, hown, hnx, HI⟩ := hrel
      obtain ⟨f', rfl⟩ : ∃ f', f = f' + 1 := ⟨f - 1, by omega⟩
      have hsz := hnx.size
      have HO := hidIt (Row.of_owns hown)
      obtain ⟨av, cv, hv⟩ := HO.out.form
      by_cases hx0 : x = 0
      · have hR0 : R = out := by rw [HI.out.1, hx0, stGo_end]
        have HE := hidIt hR0
        have hb : (x != 0) = false := by simp [hx0]
        clear hx0 hR0
        go_wp2
        go_ret
        refine ⟨_, rfl, capOk_own hown, ?_, hnx⟩
        rw [HE.out]
        exact HO.out.lo (by omega)
      · have hb : (x != 0) = true := by simpa using hx0
        by_cases hin : 1 ≤ x ∧ x ≤ (N : Int)
        · obtain ⟨p, rfl⟩ : ∃ p : Nat, x = (p : Int) + 1 := ⟨(x - 1).toNat, by omega⟩
          have hin' : plcB N p = true := decide_eq_true (by omega)
          have HN := hidIt hin'
          have m2 : p < N := by omega
          by_cases hm : (p : Int) ∈ out
          · have hR0 : R = [] := by rw [HI.out.1, stGo_bad _ _ _ _ _ hx0 (by simp [hm])]
            have hh : hasN out p = true := decide_eq_true hm
            have HH := hidIt hh
            have HE := hidIt hR0
            clear hR0 hm hh hin' hx0 hin
            subst hv
            go_wp2_with fail
            refine (impl_isplace N p _).mono ?_
            rintro e wr ⟨rfl, rfl⟩
            rw [HN.out]
            go_wp2_with fail
            refine (impl_contains _ _ _ out p _ (by omega) HO.out).mono ?_
            rintro e wr ⟨rfl, rfl⟩
            rw [HH.out]
            go_wp2
            go_ret
            exact ⟨.slice none 0 0, rfl, Nat.le_refl 0, by rw [HE.out]; exact ⟨none, 0, rfl, .inl rfl⟩, hnx⟩
          · have hh : hasN out p = false := decide_eq_false hm
            have HH := hidIt hh
            have HS := hidIt (HI.out.1.trans (stGo_step xs N f' ((p : Int) + 1) out hx0 ⟨hin, by simpa using hm⟩))
            have HM := hidIt hm
            have HND := hidIt HI.out.2
            obtain ⟨w1', w2'⟩ := HW.out (p + 1) (by omega)
            have e1 : cellL xs (1 + (p : Int)) = xs.getD (p + 1) 0 := by
              unfold cellL
              rw [if_pos ⟨by omega, by rw [HL.out]; omega⟩, show (1 + (p : Int)).toNat = p + 1 by omega]
            obtain ⟨y, hy⟩ : ∃ y, xs.getD (p + 1) 0 = y := ⟨_, rfl⟩
            rw [hy] at w1' w2' e1
            have HY := hidIt hy
            have EY := hidIt e1
            have hol : out.length ≤ N := by omega
            clear hm hh hin' hx0 HI hy hin e1
            subst hv
            go_wp2_with fail
            refine (impl_isplace N p _).mono ?_
            rintro e wr ⟨rfl, rfl⟩
            rw [HN.out]
            go_wp2_with fail
            refine (impl_contains _ _ _ out p _ (by omega) HO.out).mono ?_
            rintro e wr ⟨rfl, rfl⟩
            rw [HH.out]
            go_wp2_with (at_builtin; refine wpList_append_own _ rfl (.tmp 36) (.tmp 38) 24 rfl (w.heap.size + 1) 3 i0 (.int .i64 0) 1 8 Try.underlying24 hi0 hz0 hz1 hz2 rfl (by decide) _ _ _ rfl (hown.alloc _) ⟨wr.heap.size, 0, none⟩ 1 1 [.int .i64 (p : Int)] rfl rfl ?c1 ?c2 ?c3 ?c4 ?c5 ?_)
            case c1 => exact cell_one_new _ _ _
            case c2 => intro u hu; simp at hu; subst hu; rfl
            case c3 => unfold maxLen; omega
            case c4 => omega
            case c5 => simp; omega
            intro v' w1x hown' hgrow _
            have hb1 : Below w.heap.size w w1x := (hnx.alloc hnx.size _).grown hgrow (by simp; omega) (fun q hq => by have := (hown.lt q hq).1; omega)
            have hzz := hgrow.size
            simp at hzz
            have q1' : w1x.cell? ⟨w.heap.size, 0, none⟩ = some (.slice (some ⟨g, 0, none⟩) (N + 1) c) := by
              rw [hgrow.cell_far ⟨w.heap.size, 0, none⟩ (by simp; omega) (fun e => absurd (hown.lt _ e.symm).1 (by show ¬ (w.heap.size + 1 ≤ w.heap.size); omega)), World.cell?_alloc_lt _ _ _ (by simp; omega)]
              exact q1
            have HF := hidIt (show sliceLen v' = out.length + 1 by
              obtain ⟨a', c', e⟩ := (Row.form (xs := out ++ [(p : Int)]) (Row.of_owns (by simpa using hown')))
              rw [e]; simp [sliceLen])
            have HO' := hidIt hown'
            have hwz : w.heap.size < w1x.heap.size := by omega
            have OO := hidIt (fun (W : World) (h : Below w1x.heap.size w1x W) => (⟨h, below_cell h hwz q1'⟩ : Below w1x.heap.size w1x W ∧ W.cell? ⟨w.heap.size, 0, none⟩ = some (.slice (some ⟨g, 0, none⟩) (N + 1) c)))
            have RB := hidIt (fun (W : World) (h : Below w1x.heap.size w1x W) => (⟨by have := h.size; omega, HRow.out.below ((hb1.trans (h.mono (by omega))).mono hh)⟩ : hi ≤ W.heap.size ∧ Row W lo hi (.slice (some ⟨g, 0, none⟩) (N + 1) c) (ints xs)))
            have h6 := OO.out _ (Below.refl _ w1x)
            have HB1 := hidIt hb1
            clear hgrow hown q1 hown' hb1 q1' hnx
            go_wp2_with fail
            go_region_held3 (fun w' => Below w1x.heap.size w1x w' ∧ w'.cell? ⟨w.heap.size, 0, none⟩ = some (.slice (some ⟨g, 0, none⟩) (N + 1) c))
              (first | exact OO.out _ (below_dr (And.left (by assumption))) | exact OO.out _ (below_step (And.left (by assumption)) (by assumption)))
              (first | (go_at_call 41; refine (impl_placecell _ _ (by omega) (by omega)).mono ?_; rintro e wp ⟨rfl, rfl⟩) | (go_at_call 38; refine (impl_cellof lo hi _ xs _ _ (by rw [HL.out]; omega) (RB.out _ (And.left (by assumption))).1 (RB.out _ (And.left (by assumption))).2).mono ?_; rintro e wc ⟨rfl, bc⟩; rw [EY.out]))
            rename_i h7
            have HB2 := hidIt (HB1.out.trans (h7.1.mono (by omega)))
            have HO2 := hidIt (own_below HO'.out h7.1)
            have q2 := h7.2
            have zc := h7.1.size
            clear h7 h6 OO RB HO' bc
            go_wp2
            go_roundw
            case rel =>
              have hnd : (out ++ [(p : Int)]).Nodup := by
                rw [List.nodup_append]
                exact ⟨HND.out.1, by simp, fun a ha b hb => by simp at hb; subst hb; exact fun e => HM.out (e ▸ ha)⟩
              have hal : ∀ z ∈ out ++ [(p : Int)], 0 ≤ z ∧ z < (N : Int) := fun z hz => by
                rcases List.mem_append.1 hz with h | h
                · exact HND.out.2 z h
                · simp at h; omega
              refine ⟨y, out ++ [(p : Int)], f', rfl, w1', w2', by simp; omega, ?_, by omega, q2, by simpa using HO2.out, HB2.out, ⟨?_, hnd, hal⟩⟩
              · have := few N _ hnd hal
                simp at this
                omega
              · rw [HS.out, ← HY.out, show ((p : Int) + 1).toNat = p + 1 by omega, show (p : Int) + 1 - 1 = p by omega]
            case measure => rw [HF.out]; simp only [sliceLen]; omega
        · obtain ⟨y, hy, hp⟩ : ∃ y, wrap64 (x - 1) = y ∧ plcB N y = false := by
            rcases wrap_sub1 x x1 x2 N h2 with h | h
            · exact absurd h hin
            · exact ⟨_, rfl, h.1⟩
          have HN := hidIt hp
          have hR0 : R = [] := by rw [HI.out.1, stGo_bad _ _ _ _ _ hx0 (fun h => hin h.1)]
          have HE := hidIt hR0
          clear hR0 hin hx0 hp
          go_wp2_with fail
          refine (impl_isplace N y _).mono ?_
          rintro e wr ⟨rfl, rfl⟩
          rw [HN.out]
          go_wp2
          go_ret
          exact ⟨.slice none 0 0, rfl, Nat.le_refl 0, by rw [HE.out]; exact ⟨none, 0, rfl, .inl rfl⟩, hnx⟩
  · have hr : R = [] := by rw [HR.out, if_neg hu]
    have hu : unB x0 = false := by simpa using hu
    rw [hu]
    clear HR
    subst hr
    go_wp2
    go_ret
    exact ⟨_, rfl, Nat.le_refl 0, ⟨_, _, rfl, .inl rfl⟩, B2.out⟩
theorem impl_stitems_cap (n : Int) (lo hi : Nat) (v : Value) (xs : List Int) (w : World) (hn : xs.length ≤ 4194304) (hwf : ∀ z ∈ xs, -9223372036854775808 ≤ z ∧ z ≤ 9223372036854775807) (hh : hi ≤ w.heap.size) (r : Row w lo hi v (ints xs)) :
    Calls Try.prog 11 #[.int .i64 n, .agg #[v]] w fun e w' => ∃ v', e = .returned v' ∧ CapOk v' ∧ Row w' w.heap.size w'.heap.size v' (ints (stItems n xs)) ∧ Below w.heap.size w w' := by
  by_cases h : szB n = true ∧ (xs.length : Int) = 1 + n
  · have hb : 1 ≤ n ∧ n ≤ 16 := of_decide_eq_true h.1
    obtain ⟨N, rfl⟩ : ∃ i : Nat, n = i := ⟨n.toNat, by omega⟩
    exact impl_stitems_yes N lo hi v xs _ w (by omega) (by omega) (by omega) hwf hh r (by unfold stItems; rw [if_pos h]; simp)
  · have e : stItems n xs = [] := by unfold stItems; rw [if_neg h]
    rw [e]
    obtain ⟨a, c, rfl⟩ := r.form
    exact impl_stitems_no n a xs.length c w h
theorem impl_stitems (n : Int) (lo hi : Nat) (v : Value) (xs : List Int) (w : World) (hn : xs.length ≤ 4194304) (hwf : ∀ z ∈ xs, -9223372036854775808 ≤ z ∧ z ≤ 9223372036854775807) (hh : hi ≤ w.heap.size) (r : Row w lo hi v (ints xs)) :
    Calls Try.prog 11 #[.int .i64 n, .agg #[v]] w fun e w' => ∃ v', e = .returned v' ∧ Row w' w.heap.size w'.heap.size v' (ints (stItems n xs)) ∧ Below w.heap.size w w' := by
  refine (impl_stitems_cap n lo hi v xs w hn hwf hh r).mono ?_
  rintro e w' ⟨v', rfl, -, r', b'⟩
  exact ⟨v', rfl, r', b'⟩

end Go.Proofs.Ytabcmnoadoebpaa
