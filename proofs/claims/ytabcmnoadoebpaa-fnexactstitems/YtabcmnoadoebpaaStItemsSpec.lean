/- The places of a stack from the top on, by the model. -/
import Derived.Test.YtabcmnoadoebpaaRows
import Derived.WalkKit
import Derived.ProofKit
import Derived.OpenShut
import Derived.ShutString
import Derived.Test.YtabcmnoadoebpaaStItemsPlain
import Derived.Test.YtabcmnoadoebpaaStackSpec1
import Derived.Test.YtabcmnoadoebpaaCellRow
import Derived.Deep.AppendLies
namespace Go.Proofs.Ytabcmnoadoebpaa
open Go.ChangeShapes Go.WideShapes Go.ChangeAt Go.RowKit
set_option linter.unusedVariables false

theorem spec_has_zero (a : Option Addr) (c : Nat) (y : Int) (w : World) :
    Calls Try.prog 63 #[.slice a 0 c, .int .i64 y] w fun e w' => e = .returned (.bool false) ∧ w' = w := by
  go_enter Try.func63, Try.ntmps63
  go_wp2
  go_loop [9] (fun i => i = .int .i64 0) (fun _ => 0)
  case atStart => rfl
  case round =>
    subst hrel
    go_wp2
    go_ret
    exact ⟨rfl, rfl⟩
theorem take_hit {xs : List Int} {y : Int} {k : Nat} (hk : k < xs.length) (h : xs[k] = y) : hasN xs y = true := decide_eq_true (h ▸ List.getElem_mem hk)
theorem take_end {xs : List Int} {y : Int} {k : Nat} (hk : ¬ k < xs.length) (h : ¬ y ∈ xs.take k) : hasN xs y = false := by
  rw [List.take_of_length_le (by omega)] at h
  exact decide_eq_false h
theorem take_miss {xs : List Int} {y : Int} {k : Nat} (hk : k < xs.length) (h : ¬ xs[k] = y) (h2 : ¬ y ∈ xs.take k) : ¬ y ∈ xs.take (k + 1) := by
  rw [List.take_succ_eq_append_getElem hk]
  simp only [List.mem_append, List.mem_singleton]
  rintro (h3 | h3)
  · exact h2 h3
  · exact h h3.symm
set_option maxHeartbeats 400000 in
set_option maxRecDepth 100000 in
theorem spec_has_some (g c : Nat) (xs : List Int) (y : Int) (w : World) (hn : xs.length ≤ 4194304) (hA : ∀ j (hj : j < xs.length), w.cell? ⟨g, j, none⟩ = some (.int .i64 xs[j])) :
    Calls Try.prog 63 #[.slice (some ⟨g, 0, none⟩) xs.length c, .int .i64 y] w fun e w' => e = .returned (.bool (hasN xs y)) ∧ w' = w := by
  have HA := hidIt hA
  clear hA
  go_enter Try.func63, Try.ntmps63
  go_wp2
  go_loop [6, 9] (fun _ i => ∃ k : Nat, k ≤ xs.length ∧ i = .int .i64 k ∧ Hid (¬ y ∈ xs.take k)) (fun _ i => xs.length - (intOf i).toNat)
  case atStart => exact ⟨0, Nat.zero_le _, rfl, by show ¬ y ∈ xs.take 0; simp⟩
  case round =>
    obtain ⟨k, hk, rfl, HT⟩ := hrel
    by_cases hlt : k < xs.length
    · have cA := HA.out k hlt
      have hlt' : (k : Int) < (xs.length : Int) := by omega
      obtain ⟨x, hx⟩ : ∃ x, xs[k] = x := ⟨_, rfl⟩
      rw [hx] at cA
      have HX := hidIt hx
      clear hx
      by_cases he : x = y
      · have HE := hidIt he
        have hb : (x == y) = true := by simpa using he
        clear he
        go_wp2
        go_ret
        exact ⟨ret_boolx (take_hit hlt (HX.out.trans HE.out)).symm, rfl⟩
      · have HE := hidIt he
        have hb : (x == y) = false := by simpa using he
        clear he
        go_wp2
        go_round
        case rel => exact ⟨k + 1, by omega, by go_num, take_miss hlt (by rw [HX.out]; exact HE.out) HT.out⟩
        case measure => simp [intOf]; omega
    · go_wp2
      go_ret
      exact ⟨ret_boolx (take_end hlt HT.out).symm, rfl⟩
theorem spec_has (lo hi : Nat) (v : Value) (xs : List Int) (y : Int) (w : World) (hn : xs.length ≤ 4194304) (r : Row w lo hi v (ints xs)) :
    Calls Try.prog 63 #[v, .int .i64 y] w fun e w' => e = .returned (.bool (hasN xs y)) ∧ w' = w := by
  by_cases h0 : 0 < xs.length
  · obtain ⟨g, c, rfl, -, -, g3, -⟩ := r.ofSome h0
    exact spec_has_some g c xs y w hn g3
  · obtain rfl : xs = [] := List.length_eq_zero_iff.1 (by omega)
    obtain ⟨a, c, rfl⟩ := r.form
    exact spec_has_zero a c y w
theorem spec_stitems_no (n : Int) (a : Option Addr) (m c : Nat) (w : World) (hm : m ≤ 4194304) (h : ¬ (szB n = true ∧ (m : Int) = 1 + n)) :
    Calls Try.prog 29 #[.int .i64 n, .agg #[.slice a m c]] w fun e w' => ∃ v', e = .returned v' ∧ Row w' w.heap.size w'.heap.size v' (ints []) ∧ Below w.heap.size w w' := by
  by_cases hz : szB n = true
  · have hb : 1 ≤ n ∧ n ≤ 16 := of_decide_eq_true hz
    obtain ⟨n1, n2⟩ := hb
    have hne : ((m : Int) != 1 + n) = true := by simp; intro e; exact h ⟨hz, e⟩
    have HZ := hidIt hz
    clear h hz
    go_enter Try.func29, Try.ntmps29
    go_wp2_with (go_at_call 45; refine (spec_size n _).mono ?_; rintro e w1 ⟨rfl, rfl⟩; rw [HZ.out])
    go_ret
    exact ⟨_, rfl, ⟨_, _, rfl, .inl rfl⟩, ((Below.refl _ _).alloc (Nat.le_refl _) _).alloc (by simp) _⟩
  · have hz : szB n = false := by simpa using hz
    clear h
    go_enter Try.func29, Try.ntmps29
    go_wp2_with (go_at_call 45; refine (spec_size n _).mono ?_; rintro e w1 ⟨rfl, rfl⟩; rw [hz])
    go_ret
    exact ⟨_, rfl, ⟨_, _, rfl, .inl rfl⟩, ((Below.refl _ _).alloc (Nat.le_refl _) _).alloc (by simp) _⟩

set_option maxHeartbeats 1600000 in
set_option maxRecDepth 100000 in
theorem spec_stitems_yes (N lo hi : Nat) (v : Value) (xs R : List Int) (w : World) (h1 : 1 ≤ N) (h2 : N ≤ 16) (hl : xs.length = N + 1) (hwf : ∀ z ∈ xs, -9223372036854775808 ≤ z ∧ z ≤ 9223372036854775807) (hh : hi ≤ w.heap.size) (r : Row w lo hi v (ints xs))
    (hR : R = if unB (xs.getD 0 0) = true then stGo xs N (N + 1) (unI (xs.getD 0 0)) [] else []) :
    Calls Try.prog 29 #[.int .i64 (N : Int), .agg #[v]] w fun e w' => ∃ v', e = .returned v' ∧ Row w' w.heap.size w'.heap.size v' (ints R) ∧ Below w.heap.size w w' := by
  obtain ⟨i0, hi0, hz0, hz1, hz2⟩ := info_parts info3
  have hz : szB N = true := decide_eq_true ⟨by omega, by omega⟩
  have HZ := hidIt hz
  obtain ⟨g, c, rfl, g1, g2, g3, -⟩ := r.ofSome (by omega)
  have hcell : ∀ j, j < N + 1 → w.cell? ⟨g, j, none⟩ = some (.int .i64 (xs.getD j 0)) := fun j hj => by rw [g3 j (by omega)]; simp [show j < xs.length by omega]
  have hbd : ∀ j, j < N + 1 → -9223372036854775808 ≤ xs.getD j 0 ∧ xs.getD j 0 ≤ 9223372036854775807 := fun j hj => by
    have := hwf xs[j] (List.getElem_mem (by omega))
    simpa [show j < xs.length by omega] using this
  have HG := hidIt hcell
  have HW := hidIt hbd
  have c0 := hcell 0 (by omega)
  obtain ⟨b1, b2⟩ := hbd 0 (by omega)
  generalize xs.getD 0 0 = x0 at c0 b1 b2 hR
  have HR := hidIt hR
  have hgz : g < w.heap.size := by omega
  rw [hl]
  clear hR hwf hz g3 r hcell hbd hl
  have hpos : (0 : Int) < ((N + 1 : Nat) : Int) := by omega
  go_enter Try.func29, Try.ntmps29
  go_wp2_with fail
  refine (spec_size N _).mono ?_
  rintro e w1 ⟨rfl, rfl⟩
  rw [HZ.out]
  have hne : (((N + 1 : Nat) : Int) != 1 + (N : Int)) = false := by simp; omega
  go_wp2_with fail
  refine (spec_unpack x0 _ b1 b2).mono ?_
  rintro e w1 ⟨rfl, rfl⟩
  clear hne c0
  by_cases hu : unB x0 = true
  · have hr : R = stGo xs N (N + 1) (unI x0) [] := by rw [HR.out, if_pos hu]
    have HR2 := hidIt hr
    have hub := un_bd x0
    rw [hu]
    clear hr HR hu
    go_wp2
    go_loopw [5, 7] (fun v i wr => ∃ (x : Int) (out : List Int) (f : Nat), i = .int .i64 x ∧ -9223372036854775808 ≤ x ∧ x ≤ 9223372036854775807 ∧ out.length + f = N + 1 ∧ 1 ≤ f ∧ w.heap.size < wr.heap.size ∧ wr.cell? ⟨w.heap.size, 0, none⟩ = some (.slice (some ⟨g, 0, none⟩) (N + 1) c) ∧ wr.ownsRow (w.heap.size + 1) 3 1 v out.length (ints out) ∧ Below w.heap.size w wr ∧ Hid (R = stGo xs N f x out ∧ out.Nodup ∧ ∀ y ∈ out, 0 ≤ y ∧ y < (N : Int))) (fun v _ _ => N + 1 - sliceLen v)
    case atStart => exact ⟨unI x0, [], N + 1, rfl, by omega, by omega, by simp, by omega, by simp <;> omega, by simp [go_sem], by have := World.ownsRow_made (base := w.heap.size + 1) (e := 3) (size := 1) (w.alloc (.cells #[.slice (some ⟨g, 0, none⟩) (N + 1) c] 26)) #[] 0 (by simp) (by unfold maxLen; omega) (by simp); simpa using this, ((Below.refl _ _).alloc (Nat.le_refl _) _).alloc (by simp) _, ⟨HR2.out, by simp, by simp⟩⟩
    case round =>
      obtain ⟨x, out, f, rfl, x1, x2, hf, hf1, hzr, q1, hown, hnx, HI⟩ := hrel
      obtain ⟨f', rfl⟩ : ∃ f', f = f' + 1 := ⟨f - 1, by omega⟩
      have hsz := hnx.size
      have HO := hidIt (Row.of_owns hown)
      obtain ⟨av, cv, hv⟩ := HO.out.form
      by_cases hx0 : x = 0
      · have hR0 : R = out := by rw [HI.out.1, hx0, stGo_end]
        have HE := hidIt hR0
        have hb : (x != 0) = false := by simp [hx0]
        clear hx0 hR0
        go_wp2
        go_ret
        refine ⟨_, rfl, ?_, hnx⟩
        rw [HE.out]
        exact HO.out.lo (by omega)
      · have hb : (x != 0) = true := by simpa using hx0
        by_cases hin : 1 ≤ x ∧ x ≤ (N : Int)
        · have hin' : inB x 1 N = true := decide_eq_true hin
          have HN := hidIt hin'
          obtain ⟨m1, m2⟩ := hin
          by_cases hm : (x - 1) ∈ out
          · have hR0 : R = [] := by rw [HI.out.1, stGo_bad _ _ _ _ _ hx0 (by simp [hm])]
            have hh : hasN out (x - 1) = true := decide_eq_true hm
            have HH := hidIt hh
            have HE := hidIt hR0
            clear hR0 hm hh hin' hx0
            subst hv
            go_wp2_with fail
            refine (spec_in x 1 N _).mono ?_
            rintro e wr ⟨rfl, rfl⟩
            rw [HN.out]
            go_wp2_with fail
            refine (spec_has _ _ _ out (x - 1) _ (by omega) HO.out).mono ?_
            rintro e wr ⟨rfl, rfl⟩
            rw [HH.out]
            go_wp2
            go_ret
            exact ⟨.slice none 0 0, rfl, by rw [HE.out]; exact ⟨none, 0, rfl, .inl rfl⟩, hnx⟩
          · have hh : hasN out (x - 1) = false := decide_eq_false hm
            have HH := hidIt hh
            obtain ⟨j, rfl⟩ : ∃ j : Nat, x = j := ⟨x.toNat, by omega⟩
            have HS := hidIt (HI.out.1.trans (stGo_step xs N f' j out hx0 ⟨⟨m1, m2⟩, hm⟩))
            have HM := hidIt hm
            have HND := hidIt HI.out.2
            have cj : wr.cell? ⟨g, j, none⟩ = some (.int .i64 (xs.getD j 0)) := below_cell hnx hgz (HG.out j (by omega))
            obtain ⟨w1, w2⟩ := HW.out j (by omega)
            obtain ⟨y, hy⟩ : ∃ y, xs.getD j 0 = y := ⟨_, rfl⟩
            rw [hy] at cj w1 w2
            have HY := hidIt hy
            have hj1 : (j : Int) < ((N + 1 : Nat) : Int) := by omega
            have hgr : g < wr.heap.size := by omega
            have hol : out.length ≤ N := by omega
            clear hm hh hin' hx0 HI hy
            subst hv
            go_wp2_with fail
            refine (spec_in j 1 N _).mono ?_
            rintro e wr ⟨rfl, rfl⟩
            rw [HN.out]
            go_wp2_with fail
            refine (spec_has _ _ _ out ((j : Int) - 1) _ (by omega) HO.out).mono ?_
            rintro e wr ⟨rfl, rfl⟩
            rw [HH.out]
            go_wp2_with (at_builtin; refine wpList_append_own _ rfl (.tmp 46) (.tmp 49) 24 rfl (w.heap.size + 1) 3 i0 (.int .i64 0) 1 8 Try.underlying24 hi0 hz0 hz1 hz2 rfl (by decide) _ _ _ rfl (hown.alloc _) ⟨wr.heap.size, 0, none⟩ 1 1 [.int .i64 ((j : Int) - 1)] rfl rfl ?c1 ?c2 ?c3 ?c4 ?c5 ?_)
            case c1 => exact cell_one_new _ _ _
            case c2 => intro u hu; simp at hu; subst hu; rfl
            case c3 => unfold maxLen; omega
            case c4 => omega
            case c5 => simp; omega
            intro v' w1' hown' hgrow _
            have hb1 : Below w.heap.size w w1' := (hnx.alloc hnx.size _).grown hgrow (by simp; omega) (fun q hq => by have := (hown.lt q hq).1; omega)
            have hzz := hgrow.size
            simp at hzz
            have q1' : w1'.cell? ⟨w.heap.size, 0, none⟩ = some (.slice (some ⟨g, 0, none⟩) (N + 1) c) := by
              rw [hgrow.cell_far ⟨w.heap.size, 0, none⟩ (by simp; omega) (fun e => absurd (hown.lt _ e.symm).1 (by show ¬ (w.heap.size + 1 ≤ w.heap.size); omega)), World.cell?_alloc_lt _ _ _ (by simp; omega)]
              exact q1
            have cj' : w1'.cell? ⟨g, j, none⟩ = some (.int .i64 y) := by
              rw [hgrow.cell_far ⟨g, j, none⟩ (by simp; omega) (fun e => absurd (hown.lt _ e.symm).1 (by show ¬ (w.heap.size + 1 ≤ g); omega)), World.cell?_alloc_lt _ _ _ (by simp; omega)]
              exact cj
            have HF := hidIt (show sliceLen v' = out.length + 1 by
              obtain ⟨a', c', e⟩ := (Row.form (xs := out ++ [(j : Int) - 1]) (Row.of_owns (by simpa using hown')))
              rw [e]; simp [sliceLen])
            clear hgrow hown cj q1
            go_wp2
            go_roundw
            case rel =>
              refine ⟨y, out ++ [(j : Int) - 1], f', rfl, w1, w2, by simp; omega, ?_, by omega, q1', by simpa using hown', hb1, ⟨?_, ?_, ?_⟩⟩
              · have hnd : (out ++ [(j : Int) - 1]).Nodup := by
                  rw [List.nodup_append]
                  exact ⟨HND.out.1, by simp, fun a ha b hb => by simp at hb; subst hb; exact fun e => HM.out (e ▸ ha)⟩
                have := few N _ hnd (fun z hz => by
                  rcases List.mem_append.1 hz with h | h
                  · exact HND.out.2 z h
                  · simp at h; omega)
                simp at this
                omega
              · rw [HS.out, ← HY.out]; simp
              · rw [List.nodup_append]
                exact ⟨HND.out.1, by simp, fun a ha b hb => by simp at hb; subst hb; exact fun e => HM.out (e ▸ ha)⟩
              · intro z hz
                rcases List.mem_append.1 hz with h | h
                · exact HND.out.2 z h
                · simp at h; omega
            case measure => rw [HF.out]; simp only [sliceLen]; omega
        · have hin' : inB x 1 N = false := decide_eq_false hin
          have HN := hidIt hin'
          have hR0 : R = [] := by rw [HI.out.1, stGo_bad _ _ _ _ _ hx0 (fun h => hin h.1)]
          have HE := hidIt hR0
          clear hR0 hin hin' hx0
          go_wp2_with fail
          refine (spec_in x 1 N _).mono ?_
          rintro e wr ⟨rfl, rfl⟩
          rw [HN.out]
          go_wp2
          go_ret
          exact ⟨.slice none 0 0, rfl, by rw [HE.out]; exact ⟨none, 0, rfl, .inl rfl⟩, hnx⟩
  · have hr : R = [] := by rw [HR.out, if_neg hu]
    have hu : unB x0 = false := by simpa using hu
    rw [hu]
    clear HR
    subst hr
    go_wp2
    go_ret
    exact ⟨_, rfl, ⟨_, _, rfl, .inl rfl⟩, ((Below.refl _ _).alloc (Nat.le_refl _) _).alloc (by simp) _⟩
theorem spec_stitems (n : Int) (lo hi : Nat) (v : Value) (xs : List Int) (w : World) (hn : xs.length ≤ 4194304) (hwf : ∀ z ∈ xs, -9223372036854775808 ≤ z ∧ z ≤ 9223372036854775807) (hh : hi ≤ w.heap.size) (r : Row w lo hi v (ints xs)) :
    Calls Try.prog 29 #[.int .i64 n, .agg #[v]] w fun e w' => ∃ v', e = .returned v' ∧ Row w' w.heap.size w'.heap.size v' (ints (stItems n xs)) ∧ Below w.heap.size w w' := by
  by_cases h : szB n = true ∧ (xs.length : Int) = 1 + n
  · have hb : 1 ≤ n ∧ n ≤ 16 := of_decide_eq_true h.1
    obtain ⟨N, rfl⟩ : ∃ i : Nat, n = i := ⟨n.toNat, by omega⟩
    exact spec_stitems_yes N lo hi v xs _ w (by omega) (by omega) (by omega) hwf hh r (by unfold stItems; rw [if_pos h]; simp)
  · have e : stItems n xs = [] := by unfold stItems; rw [if_neg h]
    rw [e]
    obtain ⟨a, c, rfl⟩ := r.form
    exact spec_stitems_no n a xs.length c w hn h

end Go.Proofs.Ytabcmnoadoebpaa
