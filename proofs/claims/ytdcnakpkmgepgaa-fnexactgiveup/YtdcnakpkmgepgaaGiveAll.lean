/- Contracts of functions of the program and of its model, and plain lemmas: several texts in one. -/
import Derived.Test.YtdcnakpkmgepgaaRows
import Derived.WalkKit
import Derived.ProofKit
import Derived.OpenShut
import Derived.ShutString
import Derived.Test.YtdcnakpkmgepgaaRBaseB
import Derived.Test.YtdcnakpkmgepgaaRBaseA
import Derived.Deep.LoopGhost
import Derived.Deep.RegionHeld3
import Derived.Maps.RangeWalk
import Derived.Sort.OwnSortedInts
import Derived.Test.YtdcnakpkmgepgaaRBaseC
import Derived.Shelf.Slices.In.SortNone

namespace Go.Proofs.Ytdcnakpkmgepgaa
open Go.ChangeShapes Go.WideShapes Go.ChangeAt Go.RowKit
set_option linter.unusedVariables false

theorem plOk_both : True := trivial

end Go.Proofs.Ytdcnakpkmgepgaa

namespace Go.Proofs.Ytdcnakpkmgepgaa
open Go.ChangeShapes Go.WideShapes Go.ChangeAt Go.RowKit
set_option linter.unusedVariables false

def mayIn (P : Pl) (x pin : Int) : Bool := match stF P x with
  | some q => if q.1 = 2 then true else if q.1 = 3 then decide (pin ≤ q.2) else false
  | none => false
def pinAt (P : Pl) (h : Int) : Int := P.ps.getD h.toNat 0
def mayB (P : Pl) (h x : Int) : Bool := plOkB P && decide (0 ≤ h ∧ h < (P.ps.length : Int)) && (pinAt P h != -1) && mayIn P x (pinAt P h)
theorem may_no1 {P : Pl} {h x : Int} (e : plOkB P = false) : mayB P h x = false := by simp [mayB, e]
theorem may_no2 {P : Pl} {h x : Int} (e : ¬ (0 ≤ h ∧ h < (P.ps.length : Int))) : mayB P h x = false := by simp only [mayB, decide_eq_false e, Bool.and_false, Bool.false_and]
theorem may_no3 {P : Pl} {h x : Int} (e : pinAt P h = -1) : mayB P h x = false := by simp [mayB, e]
theorem may_is {P : Pl} {h x : Int} (e1 : plOkB P = true) (e2 : 0 ≤ h ∧ h < (P.ps.length : Int)) (e3 : pinAt P h ≠ -1) : mayB P h x = mayIn P x (pinAt P h) := by
  simp only [mayB, e1, decide_eq_true e2, Bool.true_and]
  simp [e3]
theorem stU_nodup {P : Pl} (h : plOkB P = true) : ((stU P).map (·.1)).Nodup := by
  rw [stU_keys]
  exact (places_nodup (plOk_parts h).2.2.2).1
theorem st_limbo {P : Pl} (h : plOkB P = true) (j : Nat) (hj : j < P.L.length) : stF P (goneAt P.L j).1 = some (3, (goneAt P.L j).2) := by
  refine putAll_nodup _ _ (stU_nodup h) _ _ ?_
  simp only [stU, List.mem_append, List.mem_map]
  exact .inr (.inr ⟨P.L[j], List.getElem_mem hj, by rw [goneAt_eq P.L j hj]⟩)
theorem st_live {P : Pl} (h : plOkB P = true) (x : Int) (hx : x ∈ P.lv) : stF P x = some (2, 0) := by
  refine putAll_nodup _ _ (stU_nodup h) _ _ ?_
  simp only [stU, List.mem_append, List.mem_map]
  exact .inr (.inl ⟨x, hx, rfl⟩)
theorem st_free {P : Pl} (h : plOkB P = true) (x : Int) (hx : x ∈ P.fr) : stF P x = some (1, 0) := by
  refine putAll_nodup _ _ (stU_nodup h) _ _ ?_
  simp only [stU, List.mem_append, List.mem_map]
  exact .inl ⟨x, hx, rfl⟩
theorem st_cases {P : Pl} (h : plOkB P = true) (x : Int) (h1 : ∀ j, j < P.L.length → (goneAt P.L j).1 ≠ x) (h2 : ¬ x ∈ P.lv) : stF P x = none ∨ stF P x = some (1, 0) := by
  by_cases hf : x ∈ P.fr
  · exact .inr (st_free h x hf)
  · refine .inl (stF_none P x ?_)
    simp only [allOf, nodesL, List.mem_append, List.mem_map, not_or]
    refine ⟨hf, h2, ?_⟩
    rintro ⟨q, hq, rfl⟩
    obtain ⟨j, hj, rfl⟩ := List.mem_iff_getElem.1 hq
    exact h1 j hj (by rw [goneAt_eq P.L j hj])
theorem mayIn_limbo {P : Pl} (h : plOkB P = true) (j : Nat) (hj : j < P.L.length) (pin : Int) : mayIn P (goneAt P.L j).1 pin = decide (pin ≤ (goneAt P.L j).2) := by
  unfold mayIn
  rw [st_limbo h j hj]
  simp
theorem mayIn_rest {P : Pl} (h : plOkB P = true) (x pin : Int) (h1 : ∀ j, j < P.L.length → (goneAt P.L j).1 ≠ x) : mayIn P x pin = hasN P.lv x := by
  unfold mayIn hasN
  by_cases h2 : x ∈ P.lv
  · rw [st_live h x h2]; simp [h2]
  · rcases st_cases h x h1 h2 with e | e <;> (rw [e]; simp [h2])
theorem spec_hasI (v : Value) (xs : List Int) (y : Int) (w : World) (hn : xs.length ≤ 4194304) (h : IntsIn w v xs) :
    Calls Try.prog 33 #[v, .int .i64 y] w fun e w' => e = .returned (.bool (hasN xs y)) ∧ w' = w := by
  obtain ⟨⟨a, c, rfl, h⟩, -⟩ := h
  rcases h with rfl | ⟨b, off, rfl, hb, hc⟩
  · exact spec_has_zero a c y w
  have HA := hidIt hc
  clear hc
  go_enter Try.func33, Try.ntmps33
  go_wp2
  go_loop [6, 9] (fun _ i => ∃ k : Nat, k ≤ xs.length ∧ i = .int .i64 k ∧ Hid (¬ y ∈ xs.take k)) (fun _ i => xs.length - (intOf i).toNat)
  case atStart => exact ⟨0, Nat.zero_le _, rfl, by show ¬ y ∈ xs.take 0; simp⟩
  case round =>
    obtain ⟨k, hk, rfl, HT⟩ := hrel
    by_cases hlt : k < xs.length
    · have cA := HA.out k hlt
      have hlt' : (k : Int) < (xs.length : Int) := by omega
      obtain ⟨x, hx⟩ : ∃ x, xs[k] = x := ⟨_, rfl⟩
      rw [hx] at cA
      have HX := hidIt hx
      clear hx
      by_cases he : x = y
      · have HE := hidIt he
        have hb : (x == y) = true := by simpa using he
        clear he
        go_wp2
        go_ret
        exact ⟨ret_boolx (take_hit hlt (HX.out.trans HE.out)).symm, rfl⟩
      · have HE := hidIt he
        have hb : (x == y) = false := by simpa using he
        clear he
        go_wp2
        go_round
        case rel => exact ⟨k + 1, by omega, by go_num, take_miss hlt (by rw [HX.out]; exact HE.out) HT.out⟩
        case measure => simp [intOf]; omega
    · go_wp2
      go_ret
      exact ⟨ret_boolx (take_end hlt HT.out).symm, rfl⟩
theorem pin_cell {w : World} {a : Option Addr} {c : Nat} {P : Pl} (h : InRow w (.slice a P.ps.length c) P.ps) {h0 : Int} (e : 0 ≤ h0 ∧ h0 < (P.ps.length : Int)) : ∃ b off i, a = some ⟨b, off, none⟩ ∧ h0 = ((i : Nat) : Int) ∧ i < P.ps.length ∧ w.cell? ⟨b, off + i, none⟩ = some (.int .i64 (pinAt P h0)) ∧ b < w.heap.size := by
  obtain ⟨a', c', hv, hp⟩ := h
  simp at hv
  obtain ⟨rfl, rfl⟩ := hv
  obtain ⟨i, rfl⟩ : ∃ i : Nat, h0 = i := ⟨h0.toNat, by omega⟩
  have hi : i < P.ps.length := by omega
  rcases hp with hp | ⟨b, off, rfl, hb, hp⟩
  · rw [hp] at hi; simp at hi
  · refine ⟨b, off, i, rfl, rfl, hi, ?_, hb⟩
    rw [hp i hi]
    simp [pinAt, hi]

end Go.Proofs.Ytdcnakpkmgepgaa

namespace Go.Proofs.Ytdcnakpkmgepgaa
open Go.ChangeShapes Go.WideShapes Go.ChangeAt Go.RowKit
set_option linter.unusedVariables false

def butL (xs : List Int) (x : Int) : List Int := xs.filter fun y => decide (y ≠ x)
theorem butL_len (xs : List Int) (x : Int) : (butL xs x).length ≤ xs.length := List.length_filter_le _ _
theorem butL_step (xs : List Int) (x : Int) (k : Nat) (hk : k < xs.length) : butL (xs.take (k + 1)) x = butL (xs.take k) x ++ (if xs[k] = x then [] else [xs[k]]) := by
  unfold butL
  rw [List.take_succ_eq_append_getElem hk, List.filter_append]
  by_cases h : xs[k] = x <;> simp [h]
theorem butL_all (xs : List Int) (x : Int) : butL (xs.take xs.length) x = butL xs x := by rw [List.take_length]
set_option maxHeartbeats 400000 in
set_option maxRecDepth 100000 in
theorem spec_but (w : World) (v : Value) (xs : List Int) (x : Int) (hn : xs.length ≤ 4194304) (h : IntsIn w v xs) :
    Calls Try.prog 51 #[v, .int .i64 x] w fun e w' => ∃ v', e = .returned v' ∧ w'.ownsRow w.heap.size 3 1 v' (butL xs x).length (ints (butL xs x)) ∧ Below w.heap.size w w' := by
  obtain ⟨i0, hi0, hz0, hz1, hz2⟩ := info_parts info3
  have H := hidIt h
  obtain ⟨va, vc, rfl, -⟩ := h.form
  clear h
  go_enter Try.func51, Try.ntmps51
  go_wp2_with fail
  generalize hW : World.alloc w _ = W0
  have bW : Below w.heap.size w W0 := by rw [← hW]; exact (Below.refl _ _).alloc (Nat.le_refl _) _
  have o0 : W0.ownsRow w.heap.size 3 1 (.slice (some ⟨w.heap.size, 0, none⟩) 0 0) 0 [] := by rw [← hW]; exact own_new rfl (Nat.le_refl _)
  have BW := hidIt bW
  have O0 := hidIt o0
  clear hW bW o0
  go_wp2_with fail
  go_loopw [5, 11] (fun v i wr => ∃ k : Nat, k ≤ xs.length ∧ i = .int .i64 k ∧ Hid (wr.ownsRow w.heap.size 3 1 v (butL (xs.take k) x).length (ints (butL (xs.take k) x))) ∧ Below w.heap.size w wr) (fun v i _ => xs.length - (intOf i).toNat)
  case atStart => exact ⟨0, Nat.zero_le _, rfl, hidIt (by simpa [butL] using O0.out), BW.out⟩
  case round =>
    rename World => wr
    obtain ⟨k, hk, rfl, HO, hbw⟩ := hrel
    by_cases hlt : k < xs.length
    · have hlt' : (k : Int) < (xs.length : Int) := by omega
      obtain ⟨⟨va', vc', hv, hp⟩, -⟩ := H.out.below hbw
      simp at hv
      obtain ⟨rfl, rfl⟩ := hv
      rcases hp with hp | ⟨b, off, rfl, hb, hp⟩
      · rw [hp] at hlt; simp at hlt
      have cA := hp k hlt
      have HS := hidIt (butL_step xs x k hlt)
      have HL := hidIt (Nat.le_trans (butL_len (xs.take k) x) (by simp; omega) : (butL (xs.take k) x).length ≤ k)
      clear hp
      generalize xs[k] = y at cA HS
      obtain ⟨av, cv, hv⟩ := own_form HO.out
      subst hv
      have zz := hbw.size
      by_cases hyx : y = x
      · have hne : (decide (y = x)) = true := by simpa using hyx
        have HN := hidIt (show butL (xs.take (k + 1)) x = butL (xs.take k) x from by rw [HS.out, if_pos hyx, List.append_nil])
        clear HS
        go_wp2
        go_roundw
        case rel => exact ⟨k + 1, by omega, by go_num, hidIt (by rw [HN.out]; exact HO.out), hbw⟩
        case measure => simp [intOf]; omega
      · have HN := hidIt (show butL (xs.take (k + 1)) x = butL (xs.take k) x ++ [y] from by rw [HS.out, if_neg hyx])
        clear HS
        go_wp2_with (at_builtin; refine wpList_append_own _ rfl _ _ 22 rfl w.heap.size 3 i0 (.int .i64 0) 1 8 Try.underlying22 hi0 hz0 hz1 hz2 rfl (by decide) _ _ _ rfl (HO.out.alloc _) ⟨wr.heap.size, 0, none⟩ 1 1 [.int .i64 y] rfl rfl ?c1 ?c2 ?c3 ?c4 ?c5 ?_)
        case c1 => have := cell_one_new wr (.int .i64 y) 3; simpa using this
        case c2 => intro u hu; simp at hu; subst hu; rfl
        case c3 => have := HL.out; unfold maxLen; omega
        case c4 => have := HL.out; omega
        case c5 => simp; omega
        intro v' w1' hown' hgrow _
        have hb1 : Below w.heap.size w w1' := (hbw.alloc hbw.size _).grown hgrow (by simp; omega) (fun j hj => by have := (HO.out.lt j hj).1; omega)
        have hzz := hgrow.size
        simp at hzz
        clear hgrow
        go_wp2
        go_roundw
        case rel => exact ⟨k + 1, by omega, by go_num, hidIt (by rw [HN.out]; simpa using hown'), hb1⟩
        case measure => simp [intOf]; omega
    · obtain rfl : k = xs.length := by omega
      have hO := HO.out
      rw [butL_all] at hO
      have HN := hidIt hO
      clear hO
      obtain ⟨av, cv, hv⟩ := own_form HN.out
      subst hv
      clear HO
      go_wp2
      go_ret
      exact ⟨_, rfl, HN.out, hbw⟩
def wStep (n : Int) (s : Bool × List Int) (y : Int) : Bool × List Int := (s.1 || decide (n < y), (if !s.1 && decide (n < y) then s.2 ++ [n] else s.2) ++ [y])
def withS (n : Int) (xs : List Int) : Bool × List Int := xs.foldl (wStep n) (false, [])
def withL (xs : List Int) (n : Int) : List Int := if (withS n xs).1 then (withS n xs).2 else (withS n xs).2 ++ [n]
theorem withS_step (xs : List Int) (n : Int) (k : Nat) (hk : k < xs.length) : withS n (xs.take (k + 1)) = wStep n (withS n (xs.take k)) xs[k] := by
  unfold withS
  rw [List.take_succ_eq_append_getElem hk, List.foldl_append]
  rfl
theorem wFold_len (n : Int) (xs : List Int) : ∀ s : Bool × List Int, (xs.foldl (wStep n) s).2.length ≤ s.2.length + 2 * xs.length := by
  induction xs with
  | nil => intro s; simp
  | cons y ys ih =>
    intro s
    have h1 := ih (wStep n s y)
    have h2 : (wStep n s y).2.length ≤ s.2.length + 2 := by unfold wStep; split <;> simp
    simp only [List.foldl_cons, List.length_cons]
    omega
theorem withS_len (n : Int) (xs : List Int) : (withS n xs).2.length ≤ 2 * xs.length := by have := wFold_len n xs (false, []); simpa [withS] using this
theorem withS_all (xs : List Int) (n : Int) : withS n (xs.take xs.length) = withS n xs := by rw [List.take_length]
set_option maxHeartbeats 400000 in
set_option maxRecDepth 100000 in
theorem spec_withNum (w : World) (v : Value) (xs : List Int) (x : Int) (hn : xs.length ≤ 4194304) (h : IntsIn w v xs) :
    Calls Try.prog 45 #[v, .int .i64 x] w fun e w' => ∃ v', e = .returned v' ∧ w'.ownsRow w.heap.size 3 1 v' (withL xs x).length (ints (withL xs x)) ∧ Below w.heap.size w w' := by
  obtain ⟨i0, hi0, hz0, hz1, hz2⟩ := info_parts info3
  have H := hidIt h
  obtain ⟨va, vc, rfl, -⟩ := h.form
  clear h
  go_enter Try.func45, Try.ntmps45
  go_wp2_with fail
  generalize hW : World.alloc w _ = W0
  have bW : Below w.heap.size w W0 := by rw [← hW]; exact (Below.refl _ _).alloc (Nat.le_refl _) _
  have o0 : W0.ownsRow w.heap.size 3 1 (.slice (some ⟨w.heap.size, 0, none⟩) 0 0) 0 [] := by rw [← hW]; exact own_new rfl (Nat.le_refl _)
  have BW := hidIt bW
  have O0 := hidIt o0
  clear hW bW o0
  go_wp2_with fail
  go_loopw [5, 6, 12] (fun v d i wr => ∃ k : Nat, k ≤ xs.length ∧ i = .int .i64 k ∧ d = .bool (withS x (xs.take k)).1 ∧ Hid (wr.ownsRow w.heap.size 3 1 v (withS x (xs.take k)).2.length (ints (withS x (xs.take k)).2)) ∧ Below w.heap.size w wr) (fun v d i _ => xs.length - (intOf i).toNat)
  case atStart => exact ⟨0, Nat.zero_le _, rfl, rfl, hidIt (by simpa [withS] using O0.out), BW.out⟩
  case round =>
    rename World => wr
    obtain ⟨k, hk, rfl, rfl, HO, hbw⟩ := hrel
    have HL := hidIt (Nat.le_trans (withS_len x (xs.take k)) (by simp; omega) : (withS x (xs.take k)).2.length ≤ 2 * k)
    by_cases hlt : k < xs.length
    · have hlt' : (k : Int) < (xs.length : Int) := by omega
      obtain ⟨⟨va', vc', hv, hp⟩, -⟩ := H.out.below hbw
      simp at hv
      obtain ⟨rfl, rfl⟩ := hv
      rcases hp with hp | ⟨b, off, rfl, hb, hp⟩
      · rw [hp] at hlt; simp at hlt
      have cA := hp k hlt
      have HS := hidIt (withS_step xs x k hlt)
      clear hp
      generalize xs[k] = y at cA HS
      generalize hd : withS x (xs.take k) = S at HS HO HL
      obtain ⟨d, out⟩ := S
      have HD := hidIt hd
      clear hd
      simp only at HO HL
      obtain ⟨av, cv, hv⟩ := own_form HO.out
      subst hv
      have zz := hbw.size
      rcases d with _ | _
      · by_cases hxy : x < y
        · have HN := hidIt (show withS x (xs.take (k + 1)) = (true, out ++ [x] ++ [y]) from by rw [HS.out]; simp [wStep, hxy])
          clear HS
          go_wp2_with (at_builtin; refine wpList_append_own _ rfl _ _ 22 rfl w.heap.size 3 i0 (.int .i64 0) 1 8 Try.underlying22 hi0 hz0 hz1 hz2 rfl (by decide) _ _ _ rfl (HO.out.alloc _) ⟨wr.heap.size, 0, none⟩ 1 1 [.int .i64 x] rfl rfl ?k11 ?k12 ?k13 ?k14 ?k15 ?_)
          case k11 => have := cell_one_new wr (.int .i64 x) 3; simpa using this
          case k12 => intro u hu; simp at hu; subst hu; rfl
          case k13 => have := HL.out; unfold maxLen; simp; omega
          case k14 => have := HL.out; simp; omega
          case k15 => simp; omega
          intro v1 w1 hown1 hgrow _
          have hb1 : Below w.heap.size w w1 := (hbw.alloc hbw.size _).grown hgrow (by simp; omega) (fun j hj => by have := (HO.out.lt j hj).1; omega)
          have hq1 := hb1.size
          clear hgrow
          have HO1 := hidIt (show w1.ownsRow w.heap.size 3 1 v1 (out ++ [x]).length (ints (out ++ [x])) from by simpa using hown1)
          clear hown1
          go_wp2_with (at_builtin; refine wpList_append_own _ rfl _ _ 22 rfl w.heap.size 3 i0 (.int .i64 0) 1 8 Try.underlying22 hi0 hz0 hz1 hz2 rfl (by decide) _ _ _ rfl (HO1.out.alloc _) ⟨w1.heap.size, 0, none⟩ 1 1 [.int .i64 y] rfl rfl ?k21 ?k22 ?k23 ?k24 ?k25 ?_)
          case k21 => have := cell_one_new w1 (.int .i64 y) 3; simpa using this
          case k22 => intro u hu; simp at hu; subst hu; rfl
          case k23 => have := HL.out; unfold maxLen; simp; omega
          case k24 => have := HL.out; simp; omega
          case k25 => simp; omega
          intro v2 w2 hown2 hgrow _
          have hb2 : Below w.heap.size w w2 := (hb1.alloc hb1.size _).grown hgrow (by simp; omega) (fun j hj => by have := (HO1.out.lt j hj).1; omega)
          have hq2 := hb2.size
          clear hgrow
          go_wp2
          go_roundw
          case rel => exact ⟨k + 1, by omega, by go_num, by rw [HN.out], hidIt (by rw [HN.out]; simpa using hown2), hb2⟩
          case measure => simp [intOf]; omega
        · have HN := hidIt (show withS x (xs.take (k + 1)) = (false, out ++ [y]) from by rw [HS.out]; simp [wStep, hxy])
          clear HS
          go_wp2_with (at_builtin; refine wpList_append_own _ rfl _ _ 22 rfl w.heap.size 3 i0 (.int .i64 0) 1 8 Try.underlying22 hi0 hz0 hz1 hz2 rfl (by decide) _ _ _ rfl (HO.out.alloc _) ⟨wr.heap.size, 0, none⟩ 1 1 [.int .i64 y] rfl rfl ?k31 ?k32 ?k33 ?k34 ?k35 ?_)
          case k32 => first | rfl | (intro u hu; simp at hu; subst hu; rfl)
          case k33 => have := HL.out; unfold maxLen at *; (first | omega | (simp; omega))
          case k34 => have := HL.out; (first | omega | (simp; omega))
          case k35 => (first | omega | (simp; omega))
          intro v1 w1 hown1 hgrow _
          have hb1 : Below w.heap.size w w1 := (hbw.alloc hbw.size _).grown hgrow (by simp; omega) (fun j hj => by have := (HO.out.lt j hj).1; omega)
          have hq1 := hb1.size
          clear hgrow
          go_wp2
          go_roundw
          case rel => exact ⟨k + 1, by omega, by go_num, by rw [HN.out], hidIt (by rw [HN.out]; simpa using hown1), hb1⟩
          case measure => simp [intOf]; omega
      · have HN := hidIt (show withS x (xs.take (k + 1)) = (true, out ++ [y]) from by rw [HS.out]; simp [wStep])
        clear HS
        go_wp2_with (at_builtin; refine wpList_append_own _ rfl _ _ 22 rfl w.heap.size 3 i0 (.int .i64 0) 1 8 Try.underlying22 hi0 hz0 hz1 hz2 rfl (by decide) _ _ _ rfl (HO.out.alloc _) ⟨wr.heap.size, 0, none⟩ 1 1 [.int .i64 y] rfl rfl ?k41 ?k42 ?k43 ?k44 ?k45 ?_)
        case k41 => have := cell_one_new wr (.int .i64 y) 3; simpa using this
        case k42 => intro u hu; simp at hu; subst hu; rfl
        case k43 => have := HL.out; unfold maxLen; simp; omega
        case k44 => have := HL.out; simp; omega
        case k45 => simp; omega
        intro v1 w1 hown1 hgrow _
        have hb1 : Below w.heap.size w w1 := (hbw.alloc hbw.size _).grown hgrow (by simp; omega) (fun j hj => by have := (HO.out.lt j hj).1; omega)
        have hq1 := hb1.size
        clear hgrow
        go_wp2
        go_roundw
        case rel => exact ⟨k + 1, by omega, by go_num, by rw [HN.out], hidIt (by rw [HN.out]; simpa using hown1), hb1⟩
        case measure => simp [intOf]; omega
    · obtain rfl : k = xs.length := by omega
      have hO := HO.out
      have hL := HL.out
      rw [withS_all] at hO hL
      rw [withS_all]
      have hW : withL xs x = if (withS x xs).1 then (withS x xs).2 else (withS x xs).2 ++ [x] := rfl
      clear HO HL
      generalize withS x xs = S at hO hL hW ⊢
      obtain ⟨d, out⟩ := S
      simp only at hO hL hW
      have HW := hidIt hW
      clear hW
      have HO := hidIt hO
      have HL := hidIt hL
      obtain ⟨av, cv, hv⟩ := own_form hO
      subst hv
      clear hO hL
      have zz := hbw.size
      rcases d with _ | _
      · have HN := hidIt (show withL xs x = out ++ [x] from (by have hw := HW.out; simpa using hw))
        clear HW
        go_wp2_with (at_builtin; refine wpList_append_own _ rfl _ _ 22 rfl w.heap.size 3 i0 (.int .i64 0) 1 8 Try.underlying22 hi0 hz0 hz1 hz2 rfl (by decide) _ _ _ rfl (HO.out.alloc _) ⟨wr.heap.size, 0, none⟩ 1 1 [.int .i64 x] rfl rfl ?k51 ?k52 ?k53 ?k54 ?k55 ?_)
        case k51 => have := cell_one_new wr (.int .i64 x) 3; simpa using this
        case k52 => intro u hu; simp at hu; subst hu; rfl
        case k53 => have := HL.out; unfold maxLen; simp; omega
        case k54 => have := HL.out; simp; omega
        case k55 => simp; omega
        intro v1 w1 hown1 hgrow _
        have hb1 : Below w.heap.size w w1 := (hbw.alloc hbw.size _).grown hgrow (by simp; omega) (fun j hj => by have := (HO.out.lt j hj).1; omega)
        have hq1 := hb1.size
        clear hgrow
        go_wp2
        go_ret
        exact ⟨_, rfl, by rw [HN.out]; simpa using hown1, hb1⟩
      · have HN := hidIt (show withL xs x = out from (by have hw := HW.out; simpa using hw))
        clear HW
        go_wp2
        go_ret
        exact ⟨_, rfl, by rw [HN.out]; exact HO.out, hbw⟩

end Go.Proofs.Ytdcnakpkmgepgaa

namespace Go.Proofs.Ytdcnakpkmgepgaa
open Go.ChangeShapes Go.WideShapes Go.ChangeAt Go.RowKit
set_option linter.unusedVariables false

open Go.Maps (Keyed)
open Go.Sort Go.RowKit
theorem rises_pair {S : List Int} (h : RisesP S) : S.Pairwise (fun x y => x < y) := by
  have key : ∀ d i, ∀ hj : i + d + 1 < S.length, S[i]'(by omega) < S[i + d + 1] := by
    intro d
    induction d with
    | zero => intro i hj; exact h (i + 1) (by omega) hj
    | succ d ih =>
      intro i hj
      have h1 := ih i (by omega)
      have h2 := h (i + (d + 1) + 1) (by omega) hj
      have e : S[i + (d + 1) + 1 - 1]'(by omega) = S[i + d + 1]'(by omega) := by congr 1
      rw [e] at h2
      omega
  rw [List.pairwise_iff_getElem]
  intro i j hi hj hij
  have := key (j - i - 1) i (by omega)
  have e : S[i + (j - i - 1) + 1]'(by omega) = S[j] := by congr 1; omega
  rw [e] at this
  exact this
theorem rises_nodup {S : List Int} (h : RisesP S) : S.Nodup := (rises_pair h).imp (fun hxy => by omega)
theorem sorted_of {out S : List Int} (hn : out.Nodup) (hS : RisesP S) (h : ∀ z, z ∈ out ↔ z ∈ S) : out.mergeSort (fun x y => decide (x ≤ y)) = S := by
  refine List.Perm.eq_of_pairwise (le := fun a b => decide (a ≤ b) = true) (fun a b _ _ h1 h2 => by simp at h1 h2; omega) (List.pairwise_mergeSort (fun a b c h1 h2 => by simp at *; omega) (fun a b => by simp; omega) out) ((rises_pair hS).imp (fun hxy => by simp; omega)) ((List.mergeSort_perm _ _).trans ((List.perm_ext_iff_of_nodup hn (rises_nodup hS)).2 h))
theorem kept_row {W W' : World} {r : Nat} {e : TypeId} {v : Value} {n size : Nat} {xs : List Value} (h : W.ownsRow (r + 1) e size v n xs) (hg : W.grownBy W' (some r)) : W'.ownsRow (r + 1) e size v n xs := by
  refine h.kept hg ?_
  cases hv : v.ownBlock with
  | none => exact .inl rfl
  | some k => exact .inr (fun e => by have := (h.lt k hv).1; cases e; omega)
/- what is collected so far -/
structure Gath (g : Int → Option (Int × Int)) (left : Lit → Bool) (out : List Int) : Prop where
  nd : out.Nodup
  mem : ∀ z, z ∈ out ↔ ((∃ t, g z = some (2, t)) ∧ left (keyI z) = false)
theorem keyI_same (x z : Int) : (keyI z).sameKey (keyI x) = decide (z = x) := by
  by_cases h : z = x
  · subst h; simp [keyI, Lit.sameKey]
  · simp [keyI, Lit.sameKey, h]
theorem Gath.no {g : Int → Option (Int × Int)} {left : Lit → Bool} {out : List Int} (h : Gath g left out) (x : Int) (q : Int × Int) (hg : g x = some q) (hq : q.1 ≠ 2) : Gath g (fun z => left z && !z.sameKey (keyI x)) out := by
  refine ⟨h.nd, fun z => ?_⟩
  rw [h.mem z]
  simp only [keyI_same]
  by_cases hz : z = x
  · subst hz
    simp [hg]
    rintro t rfl
    exact absurd rfl hq
  · simp [hz]
theorem Gath.yes {g : Int → Option (Int × Int)} {left : Lit → Bool} {out : List Int} (h : Gath g left out) (x t : Int) (hg : g x = some (2, t)) (hl : left (keyI x) = true) : Gath g (fun z => left z && !z.sameKey (keyI x)) (out ++ [x]) := by
  have hx : x ∉ out := fun hx => by have := ((h.mem x).1 hx).2; rw [hl] at this; cases this
  refine ⟨?_, fun z => ?_⟩
  · rw [List.nodup_append]
    exact ⟨h.nd, by simp, fun a ha b hb e => hx (by simp at hb; rw [← hb, ← e]; exact ha)⟩
  · simp only [List.mem_append, List.mem_singleton, keyI_same]
    by_cases hz : z = x
    · subst hz; simp [hg]
    · rw [h.mem z]; simp [hz]
theorem nodup_len {out S : List Int} (hn : out.Nodup) (h : ∀ z ∈ out, z ∈ S) : out.length ≤ S.length := by
  induction out generalizing S with
  | nil => simp
  | cons x xs ih =>
    have hx := h x (by simp)
    have := ih (S := S.erase x) (List.nodup_cons.1 hn).2 (fun z hz => (List.mem_erase_of_ne (fun e => (List.nodup_cons.1 hn).1 (by rw [← e]; exact hz))).2 (h z (by simp [hz])))
    rw [List.length_erase_of_mem hx] at this
    have h0 := List.length_pos_of_mem hx
    simp only [List.length_cons]
    omega
set_option maxHeartbeats 400000 in
set_option maxRecDepth 100000 in
theorem impl_living (w : World) (b n : Nat) (g : Int → Option (Int × Int)) (S : List Int) (hS : RisesP S) (hn : S.length ≤ 1048576) (hg : ∀ z, z ∈ S ↔ ∃ t, g z = some (2, t)) (h : MapF w b n g) :
    Calls Try.prog 49 #[.map (some b)] w fun e w' => ∃ v', e = .returned v' ∧ w'.ownsRow w.heap.size 3 1 v' S.length (ints S) ∧ Below w.heap.size w w' := by
  obtain ⟨i0, hi0, hz0, hz1, hz2⟩ := info_parts info3
  obtain ⟨R, D, hR, hown, hT⟩ := h
  have HR := hidIt hR
  have HT := hidIt hT
  have HG := hidIt hg
  have hbl := hown.lt
  go_enter Try.func49, Try.ntmps49
  go_wp2_with (first | (at_range; refine wpList_range_own _ rfl _ 58 rfl 3 61 mapLaw Try.underlying58 R b n D rfl hown ?_; intro w0 hrg0 hg0 hs0) | go_in)
  go_frame
  have hb0 : Below w.heap.size w w0 := bel_grown (Below.refl _ _) hg0 (by simp)
  go_loopw [3] (fun v wr => ∃ left cnt out, Hid (wr.ranges Try.prog 3 R b w.heap.size n D left cnt) ∧ Hid (wr.ownsRow (w.heap.size + 1) 3 1 v out.length (ints out)) ∧ Hid (Gath g left out) ∧ Below w.heap.size w wr) (fun _ wr => wr.rangeLeft b w.heap.size)
  case atStart => exact ⟨_, _, [], hidIt hrg0, hidIt (World.ownsRow_nil _ _ _ _), hidIt ⟨List.nodup_nil, fun z => by
    simp only [List.not_mem_nil, false_iff, not_and]
    rintro ⟨t, ht⟩
    have := hT z
    rw [ht] at this
    rw [this.1]; simp⟩, hb0⟩
  case round =>
    rename World => wr
    obtain ⟨left, cnt, out, HRG, HO, HGA, hbw⟩ := hrel
    clear hrg0 hown
    go_wp2_with (first | (at_next; refine wpList_next_ranges _ rfl _ rfl 3 mapLaw R (Value.int .i64) stVal (fun key kl hkey => by obtain ⟨x, rfl, _⟩ := Maps.keyOf_int_inv Try.underlying3 hkey; exact ⟨x, rfl⟩) (fun v y hv => by obtain ⟨q, hq, _⟩ := HR.out.inv v y hv; exact ⟨q, hq⟩) b w.heap.size n D left cnt rfl HRG.out ?_ ?_) | go_in)
    · intro hc0 hl0
      have hmem : ∀ z, z ∈ out ↔ z ∈ S := fun z => by rw [HGA.out.mem z, HG.out z]; simp [hl0]
      have HM := hidIt (sorted_of HGA.out.nd hS hmem)
      have hlen : out.length = S.length := by rw [← HM.out]; simp
      have HLEN := hidIt hlen
      clear hlen hmem
      rcases HO.out.2 with ⟨hv, h0⟩ | ⟨q, cap, cur, hv, hq, hcur, hcap1, hcap2, hcur1, hcur2⟩
      · have hS0 : S = [] := List.eq_nil_of_length_eq_zero (by rw [← HLEN.out]; exact h0)
        subst hS0
        subst hv
        go_wp2_with (first | (go_at_call 71; refine (Any.slices_Sort_int_none Try.lays189 none 0 _).mono ?_; rintro e w' ⟨rfl, rfl⟩) | fail)
        go_wp2
        go_ret
        exact ⟨_, rfl, World.ownsRow_nil _ _ _ _, hbw⟩
      · subst hv
        have hqs : q < wr.heap.size := by
          rcases Nat.lt_or_ge q wr.heap.size with h | h
          · exact h
          · rw [Array.getElem?_eq_none h] at hcur; cases hcur
        have hsz : out.length < 4611686018427387904 := by rw [HLEN.out]; omega
        have HH := hidIt (holds_of_blockI (ss := out) hcur (by simpa [ints] using hcur2))
        have hb2 : wr.heap.size = wr.heap.size := rfl
        clear hb2
        have HC := hidIt (And.intro hcur (And.intro hcap1 (And.intro hcap2 hcur1)))
        clear hcur hcap1 hcap2 hcur1 hcur2
        have HSR := hidIt (Try.slices_Sort_int q 0 cap out wr HH.out hqs hsz)
        go_wp2_with (first | (go_at_call 71; refine (HSR.out).mono ?_; rintro e w' ⟨rfl, nn, os, rfl⟩) | fail)
        rw [HM.out]
        have hown' := ownsRow_sortedI (n := nn) (os := os) (base := w.heap.size) (ts := S) (ss := out) HLEN.out.symm (by omega) HC.out.1 HC.out.2.1 HC.out.2.2.1 HC.out.2.2.2
        have hb' : Below w.heap.size w (grow (putRow (Value.int .i64) (Sort.ahead wr nn) q 0 S.toArray) os) := bel_grown hbw (grownBy_sortedI S.toArray) (fun j hj => by cases hj; omega)
        rw [HLEN.out] at hown' ⊢
        go_wp2
        go_ret
        exact ⟨_, rfl, hown', hb'⟩
    · intro x c1 c2 kl y1 y2 w1 cnt1 hkx hlx hRy hat hrg1 hlt hg1 hs1 hen
      obtain ⟨x', ex, rfl, hwx⟩ := Maps.keyOf_int_inv Try.underlying3 hkx
      cases ex
      obtain ⟨q, hq, hy⟩ := HR.out.inv _ _ hRy
      obtain ⟨rfl, rfl⟩ := Prod.mk.inj hy
      have hqq := stVal_inj hq
      subst hqq
      have hgx : g x = some (c1, c2) := by
        have hx := HT.out x
        cases hgx : g x with
        | none =>
          rw [hgx] at hx
          rw [show Maps.has D (keyI x) = true from Maps.has_true_of_atKey hat] at hx
          cases hx
        | some p =>
          rw [hgx] at hx
          rw [stLit_inj ((hx.2 (.lit (.bool false))).symm.trans (hat (.lit (.bool false))))]
      have hltr := HRG.out.lt
      have hbw1 : Below w.heap.size w w1 := bel_grown hbw hg1 (fun j hj => by cases hj; omega)
      have ho1 := kept_row HO.out hg1
      have HO1 := hidIt ho1
      have HRG1 := hidIt hrg1
      have HM1 := hidIt (show wr.rangeLeft b w.heap.size = cnt from HRG.out.left_eq)
      obtain ⟨av, cv, hv⟩ := own_form ho1
      subst hv
      clear ho1 hrg1 HRG HO hg1 hRy hat hkx hq hy
      simp only [stVal] at hen ⊢
      have hz1' := hbw1.size
      by_cases hc : c1 = 2
      · have HGN := hidIt (HGA.out.yes x c2 (by rw [hgx, hc]) hlx)
        have HLE := hidIt (show out.length ≤ S.length from nodup_len HGA.out.nd (fun z hz => by obtain ⟨h1, -⟩ := (HGA.out.mem z).1 hz; exact (HG.out z).2 h1))
        clear HGA hgx
        have hsz1 := hs1
        go_wp2_with (at_builtin; refine wpList_append_own _ rfl _ _ 22 rfl (w.heap.size + 1) 3 i0 (.int .i64 0) 1 8 Try.underlying22 hi0 hz0 hz1 hz2 rfl (by decide) _ _ _ rfl ((HO1.out.alloc _).alloc _) ⟨wr.heap.size + 1, 0, none⟩ 1 1 [.int .i64 x] rfl rfl ?l1 ?l2 ?l3 ?l4 ?l5 ?_)
        case l1 => have := cell_one_new (w1.alloc (.cells #[.int .i64 2, .int .i64 c2] 61)) (.int .i64 x) 3; simpa [hsz1] using this
        case l2 => intro u hu; simp at hu; subst hu; rfl
        case l3 => have := HLE.out; unfold maxLen; omega
        case l4 => have := HLE.out; omega
        case l5 => simp; omega
        intro v' w2 hown' hgrow _
        have hb2 : Below w.heap.size w w2 := ((hbw1.alloc hbw1.size _).alloc (by simp; omega) _).grown hgrow (by simp; omega) (fun j hj => by have := (HO1.out.lt j hj).1; omega)
        have hrow : ∀ j, some j = (Value.slice av out.length cv).ownBlock → w.heap.size < j := fun j hj => by have := (HO1.out.lt j hj.symm).1; omega
        have hr2 := ((HRG1.out.alloc (.cells #[.int .i64 2, .int .i64 c2] 61)).alloc (.cells #[.int .i64 x] 3)).kept hgrow (fun e => by have := hrow b e; omega) (fun e => by have := hrow _ e; omega)
        have HR2 := hidIt hr2
        clear hgrow hr2
        go_wp2_with fail
        first
          | (refine ⟨⟨_, _, _, HR2, hidIt (by simpa using hown'), HGN, hb2⟩, ?_⟩
             rw [HR2.out.left_eq, HM1.out]; exact hlt)
          | trace_state
      · have HGN := hidIt (HGA.out.no x (c1, c2) hgx hc)
        clear HGA hgx
        go_wp2_with fail
        have HR2 := hidIt (HRG1.out.alloc (.cells #[.int .i64 c1, .int .i64 c2] 61))
        refine ⟨⟨_, _, _, HR2, hidIt (HO1.out.alloc _), HGN, bel_al hbw1 _⟩, ?_⟩
        rw [HR2.out.left_eq, HM1.out]
        exact hlt

end Go.Proofs.Ytdcnakpkmgepgaa

namespace Go.Proofs.Ytdcnakpkmgepgaa
open Go.ChangeShapes Go.WideShapes Go.ChangeAt Go.RowKit
set_option linter.unusedVariables false

theorem pair_rises {S : List Int} (h : S.Pairwise (fun x y => x < y)) : RisesP S := by
  intro j h0 hj
  exact (List.pairwise_iff_getElem.1 h) (j - 1) j (by omega) hj (by omega)
theorem but_rises {S : List Int} (h : RisesP S) (x : Int) : RisesP (butL S x) := pair_rises ((rises_pair h).filter _)
theorem but_mem (S : List Int) (x z : Int) : z ∈ butL S x ↔ z ∈ S ∧ z ≠ x := by simp [butL, List.mem_filter]
def insN (n : Int) : List Int → List Int
  | [] => [n]
  | y :: ys => if n < y then n :: y :: ys else y :: insN n ys
theorem wFold_done (n : Int) (xs : List Int) : ∀ o, xs.foldl (wStep n) (true, o) = (true, o ++ xs) := by
  induction xs with
  | nil => intro o; simp
  | cons y ys ih => intro o; simp [wStep, ih]
theorem wFold_ins (n : Int) (xs : List Int) : ∀ o, (if (xs.foldl (wStep n) (false, o)).1 then (xs.foldl (wStep n) (false, o)).2 else (xs.foldl (wStep n) (false, o)).2 ++ [n]) = o ++ insN n xs := by
  induction xs with
  | nil => intro o; simp [insN]
  | cons y ys ih =>
    intro o
    by_cases h : n < y
    · simp [wStep, h, insN, wFold_done]
    · have := ih (o ++ [y])
      simpa [wStep, h, insN] using this
theorem with_ins (xs : List Int) (n : Int) : withL xs n = insN n xs := by
  have := wFold_ins n xs []
  rw [List.nil_append] at this
  exact this
theorem ins_mem (n z : Int) (xs : List Int) : z ∈ insN n xs ↔ z = n ∨ z ∈ xs := by
  induction xs with
  | nil => simp [insN]
  | cons y ys ih =>
    unfold insN
    split
    · simp
    · simp only [List.mem_cons, ih]
      constructor
      · rintro (h | h | h) <;> simp [h]
      · rintro (h | h | h) <;> simp [h]
theorem ins_pair (n : Int) (xs : List Int) (h : xs.Pairwise (fun x y => x < y)) (hn : ¬ n ∈ xs) : (insN n xs).Pairwise (fun x y => x < y) := by
  induction xs with
  | nil => simp [insN]
  | cons y ys ih =>
    obtain ⟨h1, h2⟩ := List.pairwise_cons.1 h
    unfold insN
    split
    · rename_i hy
      refine List.pairwise_cons.2 ⟨fun z hz => ?_, h⟩
      rcases List.mem_cons.1 hz with rfl | hz
      · exact hy
      · have := h1 z hz; omega
    · rename_i hy
      have hne : n ≠ y := fun e => hn (by simp [e])
      refine List.pairwise_cons.2 ⟨fun z hz => ?_, ih h2 (fun e => hn (by simp [e]))⟩
      rcases (ins_mem n z ys).1 hz with rfl | hz
      · omega
      · exact h1 z hz
theorem with_rises {S : List Int} (h : RisesP S) {x : Int} (hx : ¬ x ∈ S) : RisesP (withL S x) := by rw [with_ins]; exact pair_rises (ins_pair x S (rises_pair h) hx)
theorem with_mem (S : List Int) (x z : Int) : z ∈ withL S x ↔ z = x ∨ z ∈ S := by rw [with_ins]; exact ins_mem x z S
theorem ins_len (n : Int) (xs : List Int) : (insN n xs).length = xs.length + 1 := by
  induction xs with
  | nil => rfl
  | cons y ys ih => unfold insN; split <;> simp [ih]
theorem with_len (S : List Int) (x : Int) : (withL S x).length = S.length + 1 := by rw [with_ins]; exact ins_len x S
theorem st_two {P : Pl} (h : plOkB P = true) (z : Int) : (∃ t, stF P z = some (2, t)) ↔ z ∈ P.lv := by
  constructor
  · rintro ⟨t, ht⟩
    by_cases h2 : z ∈ P.lv
    · exact h2
    · exfalso
      by_cases h1 : ∀ j, j < P.L.length → (goneAt P.L j).1 ≠ z
      · rcases st_cases h z h1 h2 with e | e <;> rw [ht] at e <;> simp at e
      · obtain ⟨j, hj⟩ := Classical.not_forall.1 h1
        obtain ⟨hj1, hj2⟩ := Classical.not_imp.1 hj
        have hj3 := Classical.not_not.1 hj2
        have e := st_limbo h j hj1
        rw [hj3, ht] at e
        simp at e
  · intro hz
    exact ⟨0, st_live h z hz⟩
theorem but_live {P : Pl} (h : plOkB P = true) (x z : Int) : z ∈ butL P.lv x ↔ ∃ t, delF (stF P) x z = some (2, t) := by
  rw [but_mem]
  unfold delF
  by_cases hz : z = x
  · simp [hz]
  · simp only [hz, if_false, st_two h z]
    simp
    exact fun _ => hz
theorem with_live {P : Pl} (h : plOkB P = true) (x z : Int) : z ∈ withL P.lv x ↔ ∃ t, updF (stF P) x (2, 0) z = some (2, t) := by
  rw [with_mem]
  unfold updF
  by_cases hz : z = x
  · simp [hz]
  · simp only [hz, if_false, st_two h z, false_or]
def plGiveK (P : Pl) (x : Int) : Bool := plOkB P && hasN P.lv x
def plGiveB (P : Pl) (x : Int) : Bool := plGiveK P x && retOk P.a P.ps P.L x
def plGive (P : Pl) (x : Int) : Pl := if plGiveB P x = true then ⟨P.fr, P.a, P.ps, P.L ++ [(x, P.a)], butL P.lv x⟩ else plZero
theorem give_no {P : Pl} {x : Int} (h : plGiveB P x = false) : plGive P x = plZero := by simp [plGive, h]
theorem give_yes {P : Pl} {x : Int} (h : plGiveB P x = true) : plGive P x = ⟨P.fr, P.a, P.ps, P.L ++ [(x, P.a)], butL P.lv x⟩ := by simp [plGive, h]
theorem but_less {xs : List Int} {x : Int} (h : x ∈ xs) : (butL xs x).length + 1 ≤ xs.length := by
  induction xs with
  | nil => simp at h
  | cons y ys ih =>
    unfold butL at ih ⊢
    by_cases hy : y = x
    · subst hy
      have := List.length_filter_le (fun z => decide (z ≠ y)) ys
      simp
      exact List.length_filter_le _ _
    · have hx : x ∈ ys := by
        rcases List.mem_cons.1 h with e | e
        · exact absurd e.symm hy
        · exact e
      have := ih hx
      rw [List.filter_cons_of_pos (by simp [hy])]
      simp only [List.length_cons]
      omega

end Go.Proofs.Ytdcnakpkmgepgaa

namespace Go.Proofs.Ytdcnakpkmgepgaa
open Go.ChangeShapes Go.WideShapes Go.ChangeAt Go.RowKit
set_option linter.unusedVariables false

set_option maxHeartbeats 400000 in
set_option maxRecDepth 100000 in
theorem spec_giveup (w : World) (f p l v : Value) (P : Pl) (x : Int) (hf : PlFit P) (hA : PlIn w f p l v P) :
    Calls Try.prog 20 #[.agg #[f, .int .i64 P.a, p, l, v], .int .i64 x] w (PlS1 (plGive P x) (plGiveB P x) w) := by
  have H := hidIt hA
  have HF := hidIt hf
  obtain ⟨fa, fc, pa, pc, la, lc, va, vc, rfl, rfl, rfl, rfl⟩ := hA.form
  clear hA
  have hfit : P.lv.length ≤ 1048576 := by unfold PlFit at hf; omega
  have HRET := hidIt (fun (p l : Value) W (hA : AIn W p l P.ps P.L) => spec_retire W P.a p l P.ps P.L x hA)
  have hGB : plGiveB P x = (plGiveK P x && retOk P.a P.ps P.L x) := rfl
  have hGP : plGiveB P x = true → plGive P x = ⟨P.fr, P.a, P.ps, P.L ++ [(x, P.a)], butL P.lv x⟩ ∧ retL (retOk P.a P.ps P.L x) P.L x P.a = P.L ++ [(x, P.a)] ∧ retP (retOk P.a P.ps P.L x) P.ps = P.ps ∧ setA (retOk P.a P.ps P.L x) P.a = P.a := by
    intro e
    have hr : retOk P.a P.ps P.L x = true := by rw [hGB] at e; simp only [Bool.and_eq_true] at e; exact e.2
    rw [hr]
    exact ⟨give_yes e, rfl, rfl, rfl⟩
  generalize setA (retOk P.a P.ps P.L x) P.a = A at HRET hGP ⊢
  generalize retP (retOk P.a P.ps P.L x) P.ps = PS at HRET hGP ⊢
  generalize retL (retOk P.a P.ps P.L x) P.L x P.a = LS at HRET hGP ⊢
  generalize retOk P.a P.ps P.L x = B at HRET hGB ⊢
  have HGB := hidIt hGB
  have HGP := hidIt hGP
  clear hGB hGP
  go_enter Try.func20, Try.ntmps20
  go_wp2_with fail
  generalize hW : World.alloc (World.alloc w _) _ = W0
  have X := bx2 w #[.slice fa P.fr.length fc, .int .i64 P.a, .slice pa P.ps.length pc, .slice la P.L.length lc, .slice va P.lv.length vc] #[.slice none 0 0, .int .i64 0, .slice none 0 0, .slice none 0 0, .slice none 0 0] 34 34
  rw [hW] at X
  clear hW
  obtain ⟨X0, X1, bW, zW⟩ := X
  refine (spec_poolok W0 _ _ _ _ P HF.out (H.out.below bW)).mono ?_
  rintro e w1 ⟨rfl, b1⟩
  have z1 := b1.size
  have H0 := hidIt (X0.below b1)
  have H1 := hidIt (X1.below b1)
  have B1 := hidIt (bel_two bW b1)
  clear X0 X1 bW b1
  have q0 := H1.out.2.1 0
  have q1 := H1.out.2.1 1
  have q2 := H1.out.2.1 2
  have q3 := H1.out.2.1 3
  have q4 := H1.out.2.1 4
  have qf := H1.out.2.2
  simp at q0 q1 q2 q3 q4
  have hl1 := H1.out.1
  cases hp : plOkB P with
  | false =>
    have HN := hidIt (show plGiveB P x = false from by rw [HGB.out]; unfold plGiveK; rw [hp]; rfl)
    go_wp2
    exact bodyPost_ret (v := .tuple #[.agg #[.slice none 0 0, .int .i64 0, .slice none 0 0, .slice none 0 0, .slice none 0 0], .bool false]) (by simp [results, Try.results20, go_sem, q0, q1, q2, q3, q4]) rfl (by rw [give_no HN.out, HN.out]; exact PlS1.none ⟨rfl, bel_set5 B1.out (by omega)⟩)
  | true =>
    have HOK := hidIt hp
    have HKK := hidIt (show plGiveK P x = hasN P.lv x from by unfold plGiveK; rw [hp]; rfl)
    have k0 := H0.out.2.1 0
    have k1 := H0.out.2.1 1
    have k2 := H0.out.2.1 2
    have k3 := H0.out.2.1 3
    have k4 := H0.out.2.1 4
    simp at k0 k1 k2 k3 k4
    go_wp2_with fail
    refine (spec_hasI _ P.lv x w1 (by omega) (H.out.below B1.out).lv).mono ?_
    rintro e w1' ⟨rfl, e1⟩
    subst e1
    cases hh : hasN P.lv x with
    | false =>
      have HN := hidIt (show plGiveB P x = false from by rw [HGB.out, HKK.out, hh]; rfl)
      go_wp2
      exact bodyPost_ret (v := .tuple #[.agg #[.slice none 0 0, .int .i64 0, .slice none 0 0, .slice none 0 0, .slice none 0 0], .bool false]) (by simp [results, Try.results20, go_sem, q0, q1, q2, q3, q4]) rfl (by rw [give_no HN.out, HN.out]; exact PlS1.none ⟨rfl, bel_set5 B1.out (by omega)⟩)
    | true =>
      have HHV := hidIt hh
      go_wp2_with fail
      clear q0 q1 q2 q3 q4 qf k0 k1 k2 k3 k4
      refine (spec_copypool w1' _ _ _ _ P HF.out (ok_pins HOK.out) (H.out.below B1.out)).mono ?_
      rintro e w2 ⟨f2, p2, l2, v2, rfl, rq, b2⟩
      obtain ⟨ya, yb, yc, yd, ye, yf, yg, yh, rfl, rfl, rfl, rfl⟩ := rq.form
      have z2 := b2.size
      have G0 := hidIt (H0.out.below b2)
      have G1 := hidIt (H1.out.below b2)
      have B2 := hidIt (bel_two B1.out b2)
      have RQ := hidIt rq
      clear rq b2 H0 H1 B1
      have k1 := G0.out.2.1 1
      have k2 := G0.out.2.1 2
      have k3 := G0.out.2.1 3
      simp at k1 k2 k3
      have hl0 := G0.out.1
      go_wp2_with fail
      generalize hW : World.alloc w2 _ = W3
      have X3 := hidIt (show Bx W3 w2.heap.size #[.slice ya P.fr.length yb, .int .i64 P.a, .slice yc P.ps.length yd, .slice ye P.L.length yf, .slice yg P.lv.length yh] from by rw [← hW]; exact Bx.new w2 _ _)
      have zW3 : W3.heap.size = w2.heap.size + 1 := by rw [← hW]; simp
      have b3 := hidIt (show Below w2.heap.size w2 W3 from by rw [← hW]; exact (Below.refl _ _).alloc (Nat.le_refl _) _)
      clear hW k1 k2 k3
      refine (HRET.out _ _ W3 (H.out.below (bel_two B2.out b3.out)).ag).mono ?_
      rintro e w4 ⟨p4, l4, rfl, ar, b4⟩
      obtain ⟨xa, xb, xc, xd, rfl, rfl, -⟩ := ar.form
      have z4 := b4.size
      have X4 := hidIt (X3.out.below b4)
      have J1 := hidIt ((G1.out.below b3.out).below b4)
      have B4 := hidIt (bel_two (bel_two B2.out b3.out) b4)
      have A4 := hidIt ar
      have R4 := hidIt ((RQ.out.below b3.out).below (b4.mono (by omega)))
      clear X3 b3 ar b4 RQ G0 G1 B2
      have q0 := J1.out.2.1 0
      have q1 := J1.out.2.1 1
      have q2 := J1.out.2.1 2
      have q3 := J1.out.2.1 3
      have q4 := J1.out.2.1 4
      have qf := J1.out.2.2
      simp at q0 q1 q2 q3 q4
      have hlq := J1.out.1
      cases B with
      | false =>
        have HN := hidIt (show plGiveB P x = false from by rw [HGB.out]; simp)
        go_wp2
        exact bodyPost_ret (v := .tuple #[.agg #[.slice none 0 0, .int .i64 0, .slice none 0 0, .slice none 0 0, .slice none 0 0], .bool false]) (by simp [results, Try.results20, go_sem, q0, q1, q2, q3, q4, hlq]) rfl (by rw [give_no HN.out, HN.out]; exact PlS1.none ⟨rfl, (bel_set5 B4.out (by omega)).alloc (by simp; omega) _⟩)
      | true =>
        have HN := hidIt (show plGiveB P x = true from by rw [HGB.out, HKK.out, HHV.out]; rfl)
        have k0 := X4.out.2.1 0
        have k1 := X4.out.2.1 1
        have k2 := X4.out.2.1 2
        have k3 := X4.out.2.1 3
        have k4 := X4.out.2.1 4
        have kf := X4.out.2.2
        simp at k0 k1 k2 k3 k4
        have hlk := X4.out.1
        clear q0 q1 q2 q3 q4 qf
        go_wp2_with fail
        generalize hW : World.alloc _ _ = W5
        have X5 := hidIt (show Bx W5 w2.heap.size #[.slice ya P.fr.length yb, .int .i64 A, .slice xa PS.length xb, .slice xc LS.length xd, .slice yg P.lv.length yh] from by rw [← hW]; exact (((X4.out.set (i := 1) (.int .i64 A) (by simp)).set (i := 2) (.slice xa PS.length xb) (by simp)).set (i := 3) (.slice xc LS.length xd) (by simp)).alloc _)
        have E5 : ∀ k, k < w4.heap.size → k ≠ w2.heap.size → W5.heap[k]? = w4.heap[k]? := fun k h1 h2 => by
          rw [← hW]
          exact (((Below.refl _ _).alloc (Nat.le_refl _) _).block k (by simpa using h1)).trans ((Below.heap_setCell _ _ _ _ h2).trans ((Below.heap_setCell _ _ _ _ h2).trans (Below.heap_setCell _ _ _ _ h2)))
        have z5 : W5.heap.size = w4.heap.size + 1 := by rw [← hW]; simp
        have B5 := hidIt (show Below w.heap.size w W5 from by rw [← hW]; exact (((B4.out.setCell (by simp; omega) _).setCell (by simp; omega) _).setCell (by simp; omega) _).alloc (by simp; omega) _)
        have R5 := hidIt (PlQ.loc _ _ _ _ _ _ _ w4 W5 R4.out (fun k k1 k2 => E5 k (by omega) (by omega)))
        have A5 := hidIt (AR.loc _ _ _ _ _ _ w4 W5 A4.out (fun k k1 k2 => E5 k (by omega) (by omega)))
        have J5 := hidIt (show Bx W5 (w.heap.size + 1) _ from by rw [← hW]; exact (((J1.out.other _ (by omega)).other _ (by omega)).other _ (by omega)).alloc _)
        clear hW k0 k1 k2 k3 k4 kf E5 X4 J1 A4 R4 B4
        refine (spec_but W5 _ P.lv x (by omega) (R5.out.lv.inr (by omega))).mono ?_
        rintro e w6 ⟨v6, rfl, ho, b6⟩
        have z6 := b6.size
        have Q6 := hidIt (Row.of_owns ho)
        obtain ⟨qa, qc, rfl⟩ := own_form ho
        have X6 := hidIt (X5.out.below b6)
        have J6 := hidIt (J5.out.below b6)
        have B6 := hidIt (bel_two B5.out b6)
        have R6 := hidIt (R5.out.below (b6.mono (by omega)))
        have A6 := hidIt (A5.out.below (b6.mono (by omega)))
        clear b6 ho X5 J5 B5 R5 A5
        have k0 := X6.out.2.1 0
        have k1 := X6.out.2.1 1
        have k2 := X6.out.2.1 2
        have k3 := X6.out.2.1 3
        have k4 := X6.out.2.1 4
        have kf := X6.out.2.2
        have q0 := J6.out.2.1 0
        have q1 := J6.out.2.1 1
        have q2 := J6.out.2.1 2
        have q3 := J6.out.2.1 3
        have q4 := J6.out.2.1 4
        have qf := J6.out.2.2
        simp at k0 k1 k2 k3 k4 q0 q1 q2 q3 q4
        have hlk6 := X6.out.1
        have hlq6 := J6.out.1
        have hne : w2.heap.size ≠ w.heap.size + 1 := by omega
        have hne2 : w.heap.size + 1 ≠ w2.heap.size := by omega
        go_wp2
        have E : ∀ k, k ≠ w.heap.size + 1 → k ≠ w2.heap.size → ((((((w6.setCell ⟨w2.heap.size, 4, none⟩ (.slice qa (butL P.lv x).length qc)).setCell ⟨w.heap.size + 1, 0, none⟩ (.slice ya P.fr.length yb)).setCell ⟨w.heap.size + 1, 1, none⟩ (.int .i64 A)).setCell ⟨w.heap.size + 1, 2, none⟩ (.slice xa PS.length xb)).setCell ⟨w.heap.size + 1, 3, none⟩ (.slice xc LS.length xd)).setCell ⟨w.heap.size + 1, 4, none⟩ (.slice qa (butL P.lv x).length qc)).heap[k]? = w6.heap[k]? := fun k h1 h2 => (set5_heap k h1).trans (Below.heap_setCell _ _ _ _ h2)
        refine bodyPost_ret (v := .tuple #[.agg #[.slice ya P.fr.length yb, .int .i64 A, .slice xa PS.length xb, .slice xc LS.length xd, .slice qa (butL P.lv x).length qc], .bool true]) (by simp [results, Try.results20, go_sem, q0, q1, q2, q3, q4]) rfl (by
          have hgp := HGP.out HN.out
          rw [hgp.1, HN.out, ← hgp.2.1, ← hgp.2.2.1]
          refine ⟨_, _, _, _, by rw [hgp.2.2.2], ⟨?_, ?_, ?_⟩, bel_set5 (B6.out.setCell (by simp; omega) _) (by omega)⟩
          · exact (RowQ.loc _ _ _ _ w6 _ R6.out.fr (fun k k1 k2 => E k (by omega) (by omega))).wide (by omega) (by simp; omega)
          · exact (AR.loc _ _ _ _ _ _ w6 _ A6.out (fun k k1 k2 => E k (by omega) (by omega))).wide (by omega) (by simp; omega)
          · exact (RowQ.loc _ _ _ _ w6 _ Q6.out.toQ (fun k k1 k2 => E k (by omega) (by omega))).wide (by omega) (by simp))

end Go.Proofs.Ytdcnakpkmgepgaa

namespace Go.Proofs.Ytdcnakpkmgepgaa
open Go.ChangeShapes Go.WideShapes Go.ChangeAt Go.RowKit
set_option linter.unusedVariables false

set_option maxHeartbeats 1600000 in
set_option maxRecDepth 100000 in
theorem impl_giveup (w : World) (f p l v : Value) (P : Pl) (x : Int) (hx : (Lit.int .i64 x).wf = true) (hf : PlFit P) (hwf : PlWf P) (hA : PlIn w f p l v P) :
    Calls Try.prog 21 #[.agg #[f, .int .i64 P.a, p, l, v], .int .i64 x] w (PlI1 (plGive P x) (plGiveB P x) w) := by
  have HWF := hidIt hwf
  have HWX := hidIt hx
  clear hx
  have H := hidIt hA
  have HF := hidIt hf
  obtain ⟨fa, fc, pa, pc, la, lc, va, vc, rfl, rfl, rfl, rfl⟩ := hA.form
  clear hA
  have hfit : P.lv.length ≤ 1048576 := by unfold PlFit at hf; omega
  have HPIN := hidIt (fun (p l : Value) W (hA : AIn W p l P.ps P.L) => impl_retire W P.a p l P.ps P.L x hA)
  have hGB : plGiveB P x = (plGiveK P x && retOk P.a P.ps P.L x) := rfl
  have hGP : plGiveB P x = true → plGive P x = ⟨P.fr, P.a, P.ps, P.L ++ [(x, P.a)], butL P.lv x⟩ ∧ retL (retOk P.a P.ps P.L x) P.L x P.a = P.L ++ [(x, P.a)] ∧ retP (retOk P.a P.ps P.L x) P.ps = P.ps ∧ setA (retOk P.a P.ps P.L x) P.a = P.a := by
    intro e
    have hr : retOk P.a P.ps P.L x = true := by rw [hGB] at e; simp only [Bool.and_eq_true] at e; exact e.2
    rw [hr]
    exact ⟨give_yes e, rfl, rfl, rfl⟩
  generalize setA (retOk P.a P.ps P.L x) P.a = A at HPIN hGP ⊢
  generalize retP (retOk P.a P.ps P.L x) P.ps = PS at HPIN hGP ⊢
  generalize retL (retOk P.a P.ps P.L x) P.L x P.a = LS at HPIN hGP ⊢
  generalize retOk P.a P.ps P.L x = B at HPIN hGB ⊢
  have HGB := hidIt hGB
  have HGP := hidIt hGP
  clear hGB hGP
  go_enter Try.func21, Try.ntmps21
  go_wp2_with fail
  generalize hW : World.alloc (World.alloc w _) _ = W0
  have X := bx2 w #[.slice fa P.fr.length fc, .int .i64 P.a, .slice pa P.ps.length pc, .slice la P.L.length lc, .slice va P.lv.length vc] #[.slice none 0 0, .int .i64 0, .slice none 0 0, .slice none 0 0, .slice none 0 0] 34 34
  rw [hW] at X
  clear hW
  obtain ⟨X0, X1, bW, zW⟩ := X
  refine (HPIN.out _ _ W0 (H.out.below bW).ag).mono ?_
  rintro e w1 ⟨p1, l1, rfl, ar, b1⟩
  obtain ⟨xa, xb, xc, xd, rfl, rfl, -⟩ := ar.form
  have z1 := b1.size
  have H0 := hidIt (X0.below b1)
  have H1 := hidIt (X1.below b1)
  have B1 := hidIt (bel_two bW b1)
  have A1 := hidIt ar
  clear X0 X1 bW b1 ar
  have k0 := H0.out.2.1 0
  have k1 := H0.out.2.1 1
  have k2 := H0.out.2.1 2
  have k3 := H0.out.2.1 3
  have k4 := H0.out.2.1 4
  simp at k0 k1 k2 k3 k4
  have hl0 := H0.out.1
  go_wp2_with fail
  generalize hW : World.alloc w1 _ = W2
  have zW2 : W2.heap.size = w1.heap.size + 1 := by rw [← hW]; simp
  have Y := hidIt (show Bx W2 w1.heap.size #[.int .i64 A, .slice xa PS.length xb, .slice xc LS.length xd] from by rw [← hW]; exact Bx.new w1 _ _)
  have b2 := hidIt (show Below w1.heap.size w1 W2 from by rw [← hW]; exact (Below.refl _ _).alloc (Nat.le_refl _) _)
  clear hW k0 k1 k2 k3 k4
  have G0 := hidIt (H0.out.below b2.out)
  have G1 := hidIt (H1.out.below b2.out)
  have B2 := hidIt (bel_two B1.out b2.out)
  have A2 := hidIt (A1.out.below b2.out)
  clear H0 H1 B1 A1 b2
  refine (impl_poolok W2 _ _ _ _ P HF.out HWF.out (H.out.below B2.out)).mono ?_
  rintro e w3 ⟨rfl, b3⟩
  have z3 := b3.size
  have H0 := hidIt (G0.out.below b3)
  have H1 := hidIt (G1.out.below b3)
  have Y3 := hidIt (Y.out.below b3)
  have B3 := hidIt (bel_two B2.out b3)
  have A3 := hidIt (A2.out.below (b3.mono (by omega)))
  clear b3 G0 G1 Y A2
  have q0 := H1.out.2.1 0
  have q1 := H1.out.2.1 1
  have q2 := H1.out.2.1 2
  have q3 := H1.out.2.1 3
  have q4 := H1.out.2.1 4
  have qf := H1.out.2.2
  simp at q0 q1 q2 q3 q4
  have hl1 := H1.out.1
  cases hp : plOkB P with
  | false =>
    have HN := hidIt (show plGiveB P x = false from by rw [HGB.out]; unfold plGiveK; rw [hp]; rfl)
    go_wp2
    exact bodyPost_ret (v := .tuple #[.agg #[.slice none 0 0, .int .i64 0, .slice none 0 0, .slice none 0 0, .slice none 0 0], .bool false]) (by simp [results, Try.results21, go_sem, q0, q1, q2, q3, q4]) rfl (by rw [give_no HN.out, HN.out]; exact PlI1.none ⟨rfl, bel_set5 B3.out (by omega)⟩)
  | true =>
  have HOK := hidIt hp
  have HKK := hidIt (show plGiveK P x = hasN P.lv x from by unfold plGiveK; rw [hp]; rfl)
  cases B with
  | false =>
    have HN := hidIt (show plGiveB P x = false from by rw [HGB.out]; simp)
    go_wp2
    exact bodyPost_ret (v := .tuple #[.agg #[.slice none 0 0, .int .i64 0, .slice none 0 0, .slice none 0 0, .slice none 0 0], .bool false]) (by simp [results, Try.results21, go_sem, q0, q1, q2, q3, q4]) rfl (by rw [give_no HN.out, HN.out]; exact PlI1.none ⟨rfl, bel_set5 B3.out (by omega)⟩)
  | true =>
    clear q0 q1 q2 q3 q4
    have k0 := H0.out.2.1 0
    have k1 := H0.out.2.1 1
    have k2 := H0.out.2.1 2
    have k3 := H0.out.2.1 3
    have k4 := H0.out.2.1 4
    simp at k0 k1 k2 k3 k4
    go_wp2_with fail
    clear k0 k1 k2 k3 k4
    refine (impl_standings w3 _ _ _ _ P HF.out HWF.out (H.out.below B3.out)).mono ?_
    rintro e w4 ⟨bm, rfl, m4, hb4, b4⟩
    have z4 := b4.size
    have hl := m4.at x HWX.out
    have K0 := hidIt (H0.out.below b4)
    have K1 := hidIt (H1.out.below b4)
    have Y4 := hidIt (Y3.out.below b4)
    have B4 := hidIt (bel_two B3.out b4)
    have A4 := hidIt (A3.out.below (b4.mono (by omega)))
    have M4 := hidIt m4
    have B34 := hidIt b4
    have G34 := hidIt (And.intro H0.out (And.intro H1.out (And.intro Y3.out A3.out)))
    clear b4 m4 H0 H1 Y3 A3 qf
    have q0 := K1.out.2.1 0
    have q1 := K1.out.2.1 1
    have q2 := K1.out.2.1 2
    have q3 := K1.out.2.1 3
    have q4 := K1.out.2.1 4
    have qf := K1.out.2.2
    simp at q0 q1 q2 q3 q4
    have hl1' := K1.out.1
    cases hh : hasN P.lv x with
    | false =>
      have HN := hidIt (show plGiveB P x = false from by rw [HGB.out, HKK.out, hh]; rfl)
      have hx2 : ¬ x ∈ P.lv := by simpa [hasN] using hh
      generalize hc : (stF P x).getD (0, 0) = c at hl
      obtain ⟨c1, c2⟩ := c
      have hc2 : (c1 == 2) = false := by
        simp only [beq_eq_false_iff_ne]
        rintro rfl
        cases hs : stF P x with
        | none => rw [hs] at hc; simp at hc
        | some q =>
          rw [hs] at hc
          simp at hc
          subst hc
          exact hx2 ((st_two HOK.out x).1 ⟨_, hs⟩)
      have hl2 : (Instr.lookup 58 (.map (some bm)) (.int .i64 x) false).run Try.prog w4 = .ok (.agg #[.int .i64 c1, .int .i64 c2]) w4 := hl
      have e0 := field0 c1 c2
      clear hl hc
      go_wp2
      exact bodyPost_ret (v := .tuple #[.agg #[.slice none 0 0, .int .i64 0, .slice none 0 0, .slice none 0 0, .slice none 0 0], .bool false]) (by simp [results, Try.results21, go_sem, q0, q1, q2, q3, q4]) rfl (by rw [give_no HN.out, HN.out]; exact PlI1.none ⟨rfl, bel_set5 B4.out (by omega)⟩)
    | true =>
      have hx2 : x ∈ P.lv := by simpa [hasN] using hh
      have HN := hidIt (show plGiveB P x = true from by rw [HGB.out, HKK.out, hh]; rfl)
      rw [st_live HOK.out x hx2] at hl
      have hl2 : (Instr.lookup 58 (.map (some bm)) (.int .i64 x) false).run Try.prog w4 = .ok (.agg #[.int .i64 2, .int .i64 0]) w4 := hl
      have e0 := field0 2 0
      have hbm : bm < w4.heap.size := M4.out.lt
      clear hl q0 q1 q2 q3 q4
      go_wp2_with (first | (at_delete; refine wpList_del _ rfl rfl _ _ rfl bm _ _ rfl M4.out x rfl HWX.out ?_; intro w5 m5 g5; have b5 : Below w3.heap.size w3 w5 := bel_grown B34.out g5 (fun j hj => by cases hj; omega); have z5 := g5.size; have M5 := hidIt m5; have B5 := hidIt (bel_two B3.out b5); have J0 := hidIt (G34.out.1.below b5); have J1 := hidIt (G34.out.2.1.below b5); have Y5 := hidIt (G34.out.2.2.1.below b5); have A5 := hidIt (G34.out.2.2.2.below (b5.mono (by omega))); clear g5 m5 b5 M4; have k0 := J0.out.2.1 0; have k1 := J0.out.2.1 1; have k2 := J0.out.2.1 2; have k3 := J0.out.2.1 3; have k4 := J0.out.2.1 4; have y0 := Y5.out.2.1 0; have y1 := Y5.out.2.1 1; have y2 := Y5.out.2.1 2; simp at k0 k1 k2 k3 k4 y0 y1 y2; have hl0 := J0.out.1; have hly := Y5.out.1) | fail)
      clear k0 k1 k2 k3 k4 y0 y1 y2 G34 B34 K0 K1 Y4 A4
      refine (impl_withages w5 _ _ _ _ P A xa xc PS.length xb LS.length xd HF.out (H.out.below B5.out)).mono ?_
      rintro e w6 ⟨f6, v6, rfl, wa, b6⟩
      have z6 := b6.size
      obtain ⟨a1, b1', a3, b3', g1, g2, g3, g4, g5', rf6, rv6⟩ := wa
      obtain ⟨fb, fd, rfl⟩ := rf6.form
      obtain ⟨vb, vd, rfl⟩ := rv6.form
      have J2 := hidIt (J1.out.below b6)
      have B6 := hidIt (bel_two B5.out b6)
      have A6 := hidIt (A5.out.below (b6.mono (by omega)))
      have M6 := hidIt (M5.out.below b6)
      have F6 := hidIt rf6
      clear rf6 rv6 b6 J0 J1 Y5 A5 M5 g3 g4 g5' B5
      go_wp2_with fail
      generalize hW : World.alloc w6 _ = W7
      have X7 := hidIt (show Bx W7 w6.heap.size #[.slice fb P.fr.length fd, .int .i64 A, .slice xa PS.length xb, .slice xc LS.length xd, .slice vb P.lv.length vd] from by rw [← hW]; exact Bx.new w6 _ _)
      have zW7 : W7.heap.size = w6.heap.size + 1 := by rw [← hW]; simp
      have b7 := hidIt (show Below w6.heap.size w6 W7 from by rw [← hW]; exact (Below.refl _ _).alloc (Nat.le_refl _) _)
      clear hW
      have hbl := but_less hx2
      refine (impl_living W7 bm _ (delF (stF P) x) (butL P.lv x) (but_rises (plOk_parts HOK.out).2.2.1 x) (by omega) (but_live HOK.out x) (M6.out.below b7.out)).mono ?_
      rintro e w8 ⟨v8, rfl, ho8, b8⟩
      have z8 := b8.size
      have Q8 := hidIt (Row.of_owns ho8)
      obtain ⟨qa, qc, rfl⟩ := own_form ho8
      have J4 := hidIt (X7.out.below b8)
      have J5 := hidIt ((J2.out.below b7.out).below b8)
      have B8 := hidIt (bel_two (bel_two B6.out b7.out) b8)
      have A8 := hidIt ((A6.out.below (b7.out.mono (by omega))).below (b8.mono (by omega)))
      have F8 := hidIt ((F6.out.below (b7.out.mono (by omega))).below (b8.mono (by omega)))
      clear X7 b7 b8 ho8 J2 A6 F6 M6 B6
      have k0 := J4.out.2.1 0
      have k1 := J4.out.2.1 1
      have k2 := J4.out.2.1 2
      have k3 := J4.out.2.1 3
      have k4 := J4.out.2.1 4
      have kf := J4.out.2.2
      have q0 := J5.out.2.1 0
      have q1 := J5.out.2.1 1
      have q2 := J5.out.2.1 2
      have q3 := J5.out.2.1 3
      have q4 := J5.out.2.1 4
      have qf := J5.out.2.2
      simp at k0 k1 k2 k3 k4 q0 q1 q2 q3 q4
      have hlk := J4.out.1
      have hlq := J5.out.1
      have hne : w6.heap.size ≠ w.heap.size + 1 := by omega
      have hne2 : w.heap.size + 1 ≠ w6.heap.size := by omega
      go_wp2
      have E : ∀ k, k ≠ w.heap.size + 1 → k ≠ w6.heap.size → ((((((w8.setCell ⟨w6.heap.size, 4, none⟩ (.slice qa (butL P.lv x).length qc)).setCell ⟨w.heap.size + 1, 0, none⟩ (.slice fb P.fr.length fd)).setCell ⟨w.heap.size + 1, 1, none⟩ (.int .i64 A)).setCell ⟨w.heap.size + 1, 2, none⟩ (.slice xa PS.length xb)).setCell ⟨w.heap.size + 1, 3, none⟩ (.slice xc LS.length xd)).setCell ⟨w.heap.size + 1, 4, none⟩ (.slice qa (butL P.lv x).length qc)).heap[k]? = w8.heap[k]? := fun k h1 h2 => (set5_heap k h1).trans (Below.heap_setCell _ _ _ _ h2)
      refine bodyPost_ret (v := .tuple #[.agg #[.slice fb P.fr.length fd, .int .i64 A, .slice xa PS.length xb, .slice xc LS.length xd, .slice qa (butL P.lv x).length qc], .bool true]) (by simp [results, Try.results21, go_sem, q0, q1, q2, q3, q4]) rfl (by
        have hgp := HGP.out HN.out
        rw [hgp.1, HN.out, ← hgp.2.1, ← hgp.2.2.1]
        refine ⟨_, _, _, _, by rw [hgp.2.2.2], ⟨a1, b1', W0.heap.size, w1.heap.size, W7.heap.size, w8.heap.size, ⟨by omega, by simp; omega, by omega, by simp; omega, by omega, by simp, by omega, by omega, by omega⟩, ?_, ?_, ?_⟩, bel_set5 (B8.out.setCell (by simp; omega) _) (by omega)⟩
        · exact Row.loc _ _ _ _ w8 _ F8.out (fun k k1 k2 => E k (by omega) (by omega))
        · exact AR.loc _ _ _ _ _ _ w8 _ A8.out (fun k k1 k2 => E k (by omega) (by omega))
        · exact Row.loc _ _ _ _ w8 _ Q8.out (fun k k1 k2 => E k (by omega) (by omega)))

end Go.Proofs.Ytdcnakpkmgepgaa

namespace Go.Proofs.Ytdcnakpkmgepgaa
open Go.ChangeShapes Go.WideShapes Go.ChangeAt Go.RowKit
set_option linter.unusedVariables false

theorem fit_giveup (P : Pl) (x : Int) (hf : PlFit P) : PlFit (plGive P x) := by
  cases h : plGiveB P x with
  | false => rw [give_no h]; simp [PlFit, plZero]
  | true =>
    rw [give_yes h]
    have hx : x ∈ P.lv := by
      unfold plGiveB plGiveK at h
      simp only [Bool.and_eq_true] at h
      simpa [hasN] using h.1.2
    have := but_less hx
    unfold PlFit at hf ⊢
    simp only [List.length_append, List.length_cons, List.length_nil]
    omega

end Go.Proofs.Ytdcnakpkmgepgaa

namespace Go.Proofs.Ytdcnakpkmgepgaa
open Go.ChangeShapes Go.WideShapes Go.ChangeAt Go.RowKit
set_option linter.unusedVariables false

set_option maxHeartbeats 3200000 in
set_option maxRecDepth 100000 in
theorem walk_GiveUp (P : Pl) (f p l v : Value) (x : Int) (hx : (Lit.int .i64 x).wf = true) (w : World) (r0 : PlIn w f p l v P) (n0 : P.fr.length ≤ maxLen) (n1 : P.ps.length ≤ maxLen) (n2 : P.L.length ≤ maxLen) (n3 : P.lv.length ≤ maxLen) (hwf : PlWf P) :
    Calls Try.prog 6 #[.agg #[f, .int .i64 P.a, p, l, v], .int .i64 x] w fun e w' => e = .returned (.bool true) ∧ Below w.heap.size w w' := by
  have RI := hidIt r0
  obtain ⟨xaa, xka, xba, xla, xca, xma, xda, xna, rfl, rfl, rfl, rfl⟩ := r0.form
  clear r0
  unfold maxLen at n0 n1 n2 n3
  by_cases hs : P.fr.length + P.ps.length + P.L.length + P.lv.length ≤ 1048576
  · have HF : Hid (PlFit P) := hidIt (show PlFit P from hs)
    have HS := hidIt (fun f p l v W (hA : PlIn W f p l v P) => spec_giveup W f p l v P x hs hA)
    have HI := hidIt (fun f p l v W (hA : PlIn W f p l v P) => impl_giveup W f p l v P x hx hs hwf hA)
    have HG : Hid (PlFit (plGive P x)) := hidIt (fit_giveup P x hs)
    generalize plGive P x = P' at HS HI HG
    generalize plGiveB P x = S1 at HS HI
    have s0 := hidIt ((Sv.start w).box5 (.slice xaa P.fr.length xka) (.int .i64 P.a) (.slice xba P.ps.length xla) (.slice xca P.L.length xma) (.slice xda P.lv.length xna) 27)
    go_enter Try.func6, Try.ntmps6
    go_wp2_with fail
    refine (sz_pool P.a _ _ _ _ P.fr.length _ P.ps.length _ P.L.length _ P.lv.length _ _ (by omega) (by omega) (by omega) (by omega)).mono ?_
    rintro e w1 ⟨⟨z, rfl, hz, -⟩, b1⟩
    have hz0 := hz hs
    clear hz
    have s1 := hidIt (s0.out.grow b1)
    have z1 := b1.size
    (try simp at z1)
    obtain ⟨c10, c11, c12, c13, c14⟩ := s1.out.get5 (b := w.heap.size) (x0 := (.slice xaa P.fr.length xka)) (x1 := (.int .i64 P.a)) (x2 := (.slice xba P.ps.length xla)) (x3 := (.slice xca P.L.length xma)) (x4 := (.slice xda P.lv.length xna)) (by simp) (by simp) (by simp) (by simp) (by simp)
    clear b1 s0
    go_wp2_with fail
    clear hz0 c10 c11 c12 c13 c14
    refine (to_pool _ _ _ _ _ P HF.out (RI.out.below s1.out.below)).mono ?_
    rintro e w2 ⟨f2, p2, l2, v2, rfl, r2, b2⟩
    have s2 := hidIt (s1.out.grow b2)
    have z2 := b2.size
    have R2 := hidIt (r2.toQ.pin (Nat.le_refl _))
    obtain ⟨xa2, xk2, xb2, xl2, xc2, xm2, xd2, xn2, rfl, rfl, rfl, rfl⟩ := r2.form
    clear r2 b2 s1
    go_wp2_with fail
    refine (HS.out _ _ _ _ _ R2.out).mono ?_
    rintro e w3 ⟨f3, p3, l3, v3, rfl, r3, b3⟩
    have s3 := hidIt ((s2.out.grow b3).row (Nat.le_refl _) (PlQ.loc _ _ _ _ _ _ _) r3)
    obtain ⟨xa3, xk3, xb3, xl3, xc3, xm3, xd3, xn3, rfl, rfl, rfl, rfl⟩ := r3.form
    have z3 := b3.size
    clear r3 b3 s2 R2
    have t3 := hidIt (s3.out.box5 (.slice xa3 P'.fr.length xk3) (.int .i64 P'.a) (.slice xb3 P'.ps.length xl3) (.slice xc3 P'.L.length xm3) (.slice xd3 P'.lv.length xn3) 34)
    obtain ⟨c30, c31, c32, c33, c34⟩ := t3.out.get5 (b := w.heap.size) (x0 := (.slice xaa P.fr.length xka)) (x1 := (.int .i64 P.a)) (x2 := (.slice xba P.ps.length xla)) (x3 := (.slice xca P.L.length xma)) (x4 := (.slice xda P.lv.length xna)) (by simp) (by simp) (by simp) (by simp) (by simp)
    go_wp2_with fail
    clear c30 c31 c32 c33 c34
    refine (to_pool _ _ _ _ _ P HF.out (RI.out.below t3.out.below)).mono ?_
    rintro e w4 ⟨f4, p4, l4, v4, rfl, r4, b4⟩
    have s4 := hidIt ((t3.out.grow b4).row (Nat.le_refl _) (PlR.loc _ _ _ _ _ _ _) r4)
    obtain ⟨xa4, xk4, xb4, xl4, xc4, xm4, xd4, xn4, rfl, rfl, rfl, rfl⟩ := r4.form
    have z4 := b4.size
    (try simp at z4)
    clear r4 b4 t3 s3
    have t4 := hidIt (s4.out.box5 (.slice xa4 P.fr.length xk4) (.int .i64 P.a) (.slice xb4 P.ps.length xl4) (.slice xc4 P.L.length xm4) (.slice xd4 P.lv.length xn4) 34)
    go_wp2_with fail
    refine (HI.out _ _ _ _ _ ((t4.out.at (.head _)).2.toQ.pin (t4.out.at (.head _)).1)).mono ?_
    rintro e w5 ⟨f5, p5, l5, v5, rfl, r5, b5⟩
    have s5 := hidIt ((t4.out.grow b5).row (Nat.le_refl _) (PlR.loc _ _ _ _ _ _ _) r5)
    obtain ⟨xa5, xk5, xb5, xl5, xc5, xm5, xd5, xn5, rfl, rfl, rfl, rfl⟩ := r5.form
    have z5 := b5.size
    (try simp at z5)
    clear r5 b5 t4 s4
    have t5 := hidIt (s5.out.box5 (.slice xa5 P'.fr.length xk5) (.int .i64 P'.a) (.slice xb5 P'.ps.length xl5) (.slice xc5 P'.L.length xm5) (.slice xd5 P'.lv.length xn5) 34)
    obtain ⟨c50, c51, c52, c53, c54⟩ := t5.out.get5 (b := w3.heap.size) (x0 := (.slice xa3 P'.fr.length xk3)) (x1 := (.int .i64 P'.a)) (x2 := (.slice xb3 P'.ps.length xl3)) (x3 := (.slice xc3 P'.L.length xm3)) (x4 := (.slice xd3 P'.lv.length xn3)) (by simp) (by simp) (by simp) (by simp) (by simp)
    go_wp2_with fail
    clear c50 c51 c52 c53 c54 s5
    refine (eq_pool _ _ _ _ _ _ _ _ _ _ _ _ _ P' HG.out (t5.out.at (.head _)).1 (t5.out.at (.tail _ (.tail _ (.head _)))).1 (t5.out.at (.head _)).2.toQ (t5.out.at (.tail _ (.tail _ (.head _)))).2).mono ?_
    rintro e w6 ⟨rfl, b6⟩
    have s6 := hidIt (t5.out.grow b6)
    have z6 := b6.size
    (try simp at z6)
    clear b6 t5
    go_wp2_with fail
    obtain ⟨PP, p0, pd, pg, ps'⟩ := s6.out.pack
    have PD := hidIt pd
    have PG := hidIt pg
    have PS := hidIt ps'
    have PC := hidIt (fun W (h : PP W) => (⟨(ps' W h).get (by simp), (ps' W h).get (by simp), (ps' W h).get (by simp), (ps' W h).get (by simp), (ps' W h).get (by simp), (ps' W h).get (by simp), (ps' W h).get (by simp), (ps' W h).get (by simp), (ps' W h).get (by simp), (ps' W h).get (by simp)⟩ : W.cell? ⟨w.heap.size, 0, none⟩ = some (.slice xaa P.fr.length xka) ∧ W.cell? ⟨w.heap.size, 1, none⟩ = some (.int .i64 P.a) ∧ W.cell? ⟨w.heap.size, 2, none⟩ = some (.slice xba P.ps.length xla) ∧ W.cell? ⟨w.heap.size, 3, none⟩ = some (.slice xca P.L.length xma) ∧ W.cell? ⟨w.heap.size, 4, none⟩ = some (.slice xda P.lv.length xna) ∧ W.cell? ⟨w4.heap.size, 0, none⟩ = some (.slice xa4 P.fr.length xk4) ∧ W.cell? ⟨w4.heap.size, 1, none⟩ = some (.int .i64 P.a) ∧ W.cell? ⟨w4.heap.size, 2, none⟩ = some (.slice xb4 P.ps.length xl4) ∧ W.cell? ⟨w4.heap.size, 3, none⟩ = some (.slice xc4 P.L.length xm4) ∧ W.cell? ⟨w4.heap.size, 4, none⟩ = some (.slice xd4 P.lv.length xn4)))
    have h6 := and_mk PC.out p0
    clear pd pg ps' p0 s6
    go_region_held3 (fun W => PP W ∧ W.cell? ⟨w.heap.size, 0, none⟩ = some (.slice xaa P.fr.length xka) ∧ W.cell? ⟨w.heap.size, 1, none⟩ = some (.int .i64 P.a) ∧ W.cell? ⟨w.heap.size, 2, none⟩ = some (.slice xba P.ps.length xla) ∧ W.cell? ⟨w.heap.size, 3, none⟩ = some (.slice xca P.L.length xma) ∧ W.cell? ⟨w.heap.size, 4, none⟩ = some (.slice xda P.lv.length xna) ∧ W.cell? ⟨w4.heap.size, 0, none⟩ = some (.slice xa4 P.fr.length xk4) ∧ W.cell? ⟨w4.heap.size, 1, none⟩ = some (.int .i64 P.a) ∧ W.cell? ⟨w4.heap.size, 2, none⟩ = some (.slice xb4 P.ps.length xl4) ∧ W.cell? ⟨w4.heap.size, 3, none⟩ = some (.slice xc4 P.L.length xm4) ∧ W.cell? ⟨w4.heap.size, 4, none⟩ = some (.slice xd4 P.lv.length xn4))
      (first | exact and_mk PC.out (PD.out _ (And.left (by assumption))) | exact and_mk PC.out (PG.out _ _ (And.left (by assumption)) (by assumption)))
      (first | (go_at_call 11; refine (to_pool _ _ _ _ _ P HF.out (RI.out.below (PS.out _ (And.left (by assumption))).below)).mono ?_; rintro e wa ⟨fa', pa', la', va', rfl, ra, ba⟩; obtain ⟨xa7, xk7, xb7, xl7, xc7, xm7, xd7, xn7, rfl, rfl, rfl, rfl⟩ := ra.form) | (go_at_call 13; refine (eq_pool _ _ _ _ _ _ _ _ _ _ _ _ _ P HF.out ((PS.out _ (And.left (by assumption))).at (.tail _ (.head _))).1 (Nat.le_refl _) ((PS.out _ (And.left (by assumption))).at (.tail _ (.head _))).2.toQ ra.toQ).mono ?_; rintro e w7 ⟨rfl, b7⟩))
    rename_i h7
    have s7 := hidIt ((PS.out _ h7.1).front1)
    have z7 : w6.heap.size ≤ w7.heap.size := by have := b7.size; have := ba.size; simp at *; omega
    clear PD PG PC PS h6 h7 ra ba b7
    obtain ⟨c70, c71, c72, c73, c74⟩ := s7.out.get5 (b := w4.heap.size) (x0 := (.slice xa4 P.fr.length xk4)) (x1 := (.int .i64 P.a)) (x2 := (.slice xb4 P.ps.length xl4)) (x3 := (.slice xc4 P.L.length xm4)) (x4 := (.slice xd4 P.lv.length xn4)) (by simp) (by simp) (by simp) (by simp) (by simp)
    go_wp2_with fail
    clear c70 c71 c72 c73 c74
    refine (mark_pool _ _ _ _ _ _ _ P 1 HF.out (by omega) (s7.out.at (.head _)).1 (s7.out.at (.head _)).2).mono ?_
    rintro e w8 ⟨rfl, r8, o8⟩
    have s8 := hidIt (s7.out.mark1 o8 (PlM.loc _ _ _ _ _ _ _ _ _ _ _) r8 (by first | omega | (simp; done) | (simp; omega)) (by first | omega | (simp; done) | (simp; omega)) (by first | omega | (simp; done) | (simp; omega)))
    have z8 := o8.size
    clear r8 o8 s7
    obtain ⟨c80, c81, c82, c83, c84⟩ := s8.out.get5 (b := w5.heap.size) (x0 := (.slice xa5 P'.fr.length xk5)) (x1 := (.int .i64 P'.a)) (x2 := (.slice xb5 P'.ps.length xl5)) (x3 := (.slice xc5 P'.L.length xm5)) (x4 := (.slice xd5 P'.lv.length xn5)) (by simp) (by simp) (by simp) (by simp) (by simp)
    obtain ⟨d80, d81, d82, d83, d84⟩ := s8.out.get5 (b := w3.heap.size) (x0 := (.slice xa3 P'.fr.length xk3)) (x1 := (.int .i64 P'.a)) (x2 := (.slice xb3 P'.ps.length xl3)) (x3 := (.slice xc3 P'.L.length xm3)) (x4 := (.slice xd3 P'.lv.length xn3)) (by simp) (by simp) (by simp) (by simp) (by simp)
    go_wp2_with fail
    clear c80 c81 c82 c83 c84 d80 d81 d82 d83 d84
    refine (eq_pool _ _ _ _ _ _ _ _ _ _ _ _ _ P' HG.out (s8.out.at (.tail _ (.head _))).1 (s8.out.at (.tail _ (.tail _ (.head _)))).1 (s8.out.at (.tail _ (.head _))).2.toQ (s8.out.at (.tail _ (.tail _ (.head _)))).2).mono ?_
    rintro e w9x ⟨rfl, b9x⟩
    have s9x := hidIt (s8.out.grow b9x)
    have z9x := b9x.size
    (try simp at z9x)
    clear b9x s8
    have s9 := hidIt s9x.out.front1
    have z9 := z9x
    clear s9x
    obtain ⟨c90, c91, c92, c93, c94⟩ := s9.out.get5 (b := w5.heap.size) (x0 := (.slice xa5 P'.fr.length xk5)) (x1 := (.int .i64 P'.a)) (x2 := (.slice xb5 P'.ps.length xl5)) (x3 := (.slice xc5 P'.L.length xm5)) (x4 := (.slice xd5 P'.lv.length xn5)) (by simp) (by simp) (by simp) (by simp) (by simp)
    go_wp2_with fail
    clear c90 c91 c92 c93 c94
    refine (mark_pool _ _ _ _ _ _ _ P' 1 HG.out (by omega) (s9.out.at (.head _)).1 (s9.out.at (.head _)).2).mono ?_
    rintro e w10 ⟨rfl, r10, o10⟩
    have s10 := hidIt (s9.out.mark1 o10 (PlM.loc _ _ _ _ _ _ _ _ _ _ _) r10 (by first | omega | (simp; done) | (simp; omega)) (by first | omega | (simp; done) | (simp; omega)) (by first | omega | (simp; done) | (simp; omega)))
    have z10 := o10.size
    clear r10 o10 s9
    obtain ⟨e10, e11, e12, e13, e14⟩ := s10.out.get5 (b := w5.heap.size) (x0 := (.slice xa5 P'.fr.length xk5)) (x1 := (.int .i64 P'.a)) (x2 := (.slice xb5 P'.ps.length xl5)) (x3 := (.slice xc5 P'.L.length xm5)) (x4 := (.slice xd5 P'.lv.length xn5)) (by simp) (by simp) (by simp) (by simp) (by simp)
    go_wp2_with fail
    clear e10 e11 e12 e13 e14
    refine (held_pool _ _ _ P'.a _ _ _ _ P'.fr.length P'.ps.length P'.L.length P'.lv.length 1 HG.out (by omega) (s10.out.at (.head _)).1 (s10.out.at (.head _)).2).mono ?_
    rintro e w11 ⟨rfl, b11⟩
    have s11 := hidIt (s10.out.grow b11)
    have z11 := b11.size
    clear b11 s10
    obtain ⟨e20, e21, e22, e23, e24⟩ := s11.out.get5 (b := w.heap.size) (x0 := (.slice xaa P.fr.length xka)) (x1 := (.int .i64 P.a)) (x2 := (.slice xba P.ps.length xla)) (x3 := (.slice xca P.L.length xma)) (x4 := (.slice xda P.lv.length xna)) (by simp) (by simp) (by simp) (by simp) (by simp)
    go_wp2_with fail
    clear e20 e21 e22 e23 e24
    refine (to_pool _ _ _ _ _ P HF.out (RI.out.below s11.out.below)).mono ?_
    rintro e w12 ⟨f12, p12, l12, v12, rfl, r12, b12⟩
    have s12 := hidIt (s11.out.grow b12)
    have R12 := hidIt (r12.toQ.pin (Nat.le_refl _))
    obtain ⟨xa12, xk12, xb12, xl12, xc12, xm12, xd12, xn12, rfl, rfl, rfl, rfl⟩ := r12.form
    have z12 := b12.size
    clear r12 b12 s11
    go_wp2_with fail
    refine (HI.out _ _ _ _ _ R12.out).mono ?_
    rintro e w13 ⟨f13, p13, l13, v13, rfl, r13, b13⟩
    have s13 := hidIt ((s12.out.grow b13).row (Nat.le_refl _) (PlR.loc _ _ _ _ _ _ _) r13)
    obtain ⟨xa13, xk13, xb13, xl13, xc13, xm13, xd13, xn13, rfl, rfl, rfl, rfl⟩ := r13.form
    have z13 := b13.size
    clear r13 b13 s12 R12
    have t13 := hidIt (s13.out.box5 (.slice xa13 P'.fr.length xk13) (.int .i64 P'.a) (.slice xb13 P'.ps.length xl13) (.slice xc13 P'.L.length xm13) (.slice xd13 P'.lv.length xn13) 34)
    obtain ⟨e30, e31, e32, e33, e34⟩ := t13.out.get5 (b := w3.heap.size) (x0 := (.slice xa3 P'.fr.length xk3)) (x1 := (.int .i64 P'.a)) (x2 := (.slice xb3 P'.ps.length xl3)) (x3 := (.slice xc3 P'.L.length xm3)) (x4 := (.slice xd3 P'.lv.length xn3)) (by simp) (by simp) (by simp) (by simp) (by simp)
    go_wp2_with fail
    clear e30 e31 e32 e33 e34 s13
    refine (eq_pool _ _ _ _ _ _ _ _ _ _ _ _ _ P' HG.out (t13.out.at (.head _)).1 (t13.out.at (.tail _ (.tail _ (.tail _ (.head _))))).1 (t13.out.at (.head _)).2.toQ (t13.out.at (.tail _ (.tail _ (.tail _ (.head _))))).2).mono ?_
    rintro e w14 ⟨rfl, b14⟩
    have s14 := hidIt (t13.out.grow b14)
    have z14 := b14.size
    (try simp at z14)
    clear b14 t13
    obtain ⟨e40, e41, e42, e43, e44⟩ := s14.out.get5 (b := w5.heap.size) (x0 := (.slice xa5 P'.fr.length xk5)) (x1 := (.int .i64 P'.a)) (x2 := (.slice xb5 P'.ps.length xl5)) (x3 := (.slice xc5 P'.L.length xm5)) (x4 := (.slice xd5 P'.lv.length xn5)) (by simp) (by simp) (by simp) (by simp) (by simp)
    go_wp2_with fail
    clear e40 e41 e42 e43 e44
    refine (held_pool _ _ _ P'.a _ _ _ _ P'.fr.length P'.ps.length P'.L.length P'.lv.length 1 HG.out (by omega) (s14.out.at (.tail _ (.head _))).1 (s14.out.at (.tail _ (.head _))).2).mono ?_
    rintro e w15 ⟨rfl, b15⟩
    go_wp2
    go_ret
    exact ⟨rfl, (s14.out.grow b15).below⟩
  · go_enter Try.func6, Try.ntmps6
    go_wp2_with fail
    refine (sz_pool P.a _ _ _ _ P.fr.length _ P.ps.length _ P.L.length _ P.lv.length _ _ (by omega) (by omega) (by omega) (by omega)).mono ?_
    rintro e w1 ⟨⟨z, rfl, -, hz⟩, b1⟩
    obtain rfl := hz hs
    go_wp2
    go_ret
    exact ⟨rfl, ((Below.refl _ _).alloc (Nat.le_refl _) _).trans (b1.mono (by simp <;> omega))⟩

end Go.Proofs.Ytdcnakpkmgepgaa
