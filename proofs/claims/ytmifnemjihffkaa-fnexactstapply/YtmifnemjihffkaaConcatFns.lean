/- slices.Grow of a nil slice of integers, slices.Concat of slices of integers, slices.Clone of one at whatever offset. -/
import Derived.Test.YtmifnemjihffkaaRows
import Derived.WalkKit
import Derived.ProofKit
import Derived.OpenShut
import Derived.ShutString
import Derived.Test.YtmifnemjihffkaaSrcPlain
import Derived.Test.YtmifnemjihffkaaOwnInts
import Derived.Test.YtmifnemjihffkaaIntCopy
import Derived.Deep.LoopGhost
import Derived.Test.YtmifnemjihffkaaShelf
namespace Go.Proofs.Ytmifnemjihffkaa
open Go.ChangeShapes Go.WideShapes Go.ChangeAt Go.RowKit
set_option linter.unusedVariables false

set_option maxRecDepth 100000 in
theorem grow_ints (n : Nat) (w : World) (hn : n ≤ 16777216) :
    Calls Try.prog 59 #[.slice none 0 0, .int .i64 n] w fun e w' => ∃ v', e = .returned v' ∧ w'.ownsRow w.heap.size 3 1 v' 0 [] ∧ Below w.heap.size w w' := by
  obtain ⟨i0, hi0, hz0, hz1, hz2⟩ := info_parts info3
  go_enter Try.func59, Try.ntmps59
  by_cases h0 : n = 0
  · subst h0
    go_wp2
    go_ret
    exact ⟨_, rfl, own_nil _ _ _ _, Below.refl _ _⟩
  · have hp : (0 : Int) < (n : Int) := by omega
    have hby : Try.t3.bytes = 8 := by kernel_rfl
    have hns : Builtin.nextslicecap n 0 = n := nextslicecap_zero (by omega)
    go_wp2
    obtain ⟨c, hc⟩ : ∃ c, (Question.appendCap n 0 3).cut (w.tape w.drawn (Question.appendCap n 0 3)) = c := ⟨_, rfl⟩
    have h1 : n ≤ c := by rw [← hc]; exact grownCap_ge w n 0 3
    have h2 : c ≤ maxLen := by rw [← hc]; exact grownCap_le_maxLen w n 0 3 (by unfold maxLen; omega)
    rw [hc]
    go_ret
    refine ⟨_, rfl, ?_, ?_⟩
    · have := World.ownsRow_made (base := w.heap.size) (e := 3) (size := 1) w (Builtin.zeroCells #[Value.int IntKind.i64 0] n ++ Builtin.zeroCells #[Value.int IntKind.i64 0] (c - n)) c (Nat.le_refl _) h2 (by simp [Builtin.zeroCells]; omega)
      exact own_below this (Below.refl _ _).drew
    · exact ((Below.refl _ _).alloc (Nat.le_refl _) _).drew
theorem intsIn_len {w : World} {a : Option Addr} {n c : Nat} {xs : List Int} (h : IntsIn w (.slice a n c) xs) : n = xs.length := by
  obtain ⟨-, a', c', h, -⟩ := h
  simp at h
  exact h.2.1
def sumLen (LL : List (List Int)) : Nat → Nat
  | 0 => 0
  | k + 1 => sumLen LL k + (LL.getD k []).length
def catTo (LL : List (List Int)) : Nat → List Int
  | 0 => []
  | k + 1 => catTo LL k ++ LL.getD k []
theorem sumLen_mono (LL : List (List Int)) {a b : Nat} (h : a ≤ b) : sumLen LL a ≤ sumLen LL b := by
  induction b with
  | zero => obtain rfl : a = 0 := by omega
            exact Nat.le_refl _
  | succ b ih =>
    by_cases e : a = b + 1
    · subst e; exact Nat.le_refl _
    · exact Nat.le_trans (ih (by omega)) (Nat.le_add_right _ _)
theorem catTo_len (LL : List (List Int)) (k : Nat) : (catTo LL k).length = sumLen LL k := by
  induction k with
  | zero => rfl
  | succ k ih => show (catTo LL k ++ _).length = sumLen LL k + _; rw [List.length_append, ih]
theorem getD_ll (LL : List (List Int)) (j : Nat) (h : j < LL.length) : LL.getD j [] = LL[j] := by simp [List.getD, h]
set_option maxHeartbeats 1600000 in
set_option maxRecDepth 100000 in
theorem concat_ints (q qo c : Nat) (ws : List Value) (LL : List (List Int)) (w : World) (hl : ws.length = LL.length) (hn : LL.length ≤ 1024) (hs : sumLen LL LL.length ≤ 16777216) (hq : q < w.heap.size)
    (hA : ∀ j (hj : j < ws.length), w.cell? ⟨q, qo + j, none⟩ = some ws[j]) (hI : ∀ j (hj : j < ws.length) (hj' : j < LL.length), IntsIn w ws[j] LL[j]) :
    Calls Try.prog 41 #[.slice (some ⟨q, qo, none⟩) LL.length c] w fun e w' => ∃ v', e = .returned v' ∧ w'.ownsRow w.heap.size 3 1 v' (catTo LL LL.length).length (ints (catTo LL LL.length)) ∧ Below w.heap.size w w' := by
  obtain ⟨i0, hi0, hz0, hz1, hz2⟩ := info_parts info3
  have HA := hidIt (fun j (hj : j < LL.length) => (⟨ws[j]'(by omega), hA j (by omega), hI j (by omega) hj⟩ : ∃ v, w.cell? ⟨q, qo + j, none⟩ = some v ∧ IntsIn w v LL[j]))
  have HM := hidIt (fun k (h : k ≤ LL.length) => Nat.le_trans (sumLen_mono LL h) hs)
  clear hA hI hl hs
  go_enter Try.func41, Try.ntmps41
  go_wp2
  go_loopg [3, 11] LL.length (fun gk s3 si wr => ∃ k : Nat, k ≤ LL.length ∧ gk = LL.length - k ∧ si = .int .i64 k ∧ s3 = .int .i64 ((sumLen LL k : Nat) : Int) ∧ wr = w)
  case atStart => exact ⟨0, Nat.zero_le _, rfl, rfl, rfl, rfl⟩
  case round =>
    obtain ⟨k, hk, hgk, rfl, rfl, hw⟩ := hrel
    have hw := hw.symm
    subst hw
    have HG := hidIt hgk
    clear hgk
    by_cases hlt : k < LL.length
    · have hlt' : (k : Int) < (LL.length : Int) := by omega
      obtain ⟨v, hv, hi⟩ := HA.out k hlt
      obtain ⟨va, vc, rfl, -⟩ := hi.form
      have HSS := hidIt (show sumLen LL (k + 1) = sumLen LL k + LL[k].length by show sumLen LL k + (LL.getD k []).length = _; rw [getD_ll LL k hlt])
      have h1 := HM.out k hk
      have h2 := HM.out (k + 1) hlt
      rw [HSS.out] at h2
      generalize LL[k] = L at *
      clear hi
      generalize sumLen LL k = z at *
      have h3 : (0 : Int) ≤ (z : Int) + (L.length : Int) := by omega
      have h4 : (z : Int) + (L.length : Int) ≤ 16777216 := by omega
      go_wp2
      go_roundg (LL.length - (k + 1))
      case measure => rw [HG.out]; omega
      case rel => exact ⟨k + 1, by omega, rfl, by go_num, by rw [HSS.out]; go_num, rfl⟩
    · have hke : k = LL.length := by omega
      have HKE := hidIt hke
      clear hke
      have h1 := HM.out k hk
      go_wp2_with fail
      refine (grow_ints (sumLen LL k) _ h1).mono ?_
      rintro e w1 ⟨v1, rfl, o1, b1⟩
      obtain ⟨av, cv, hv⟩ := own_form o1
      subst hv
      clear HG h1
      go_wp2
      go_loopg [6, 27] LL.length (fun gk s6 si wr => ∃ k : Nat, k ≤ LL.length ∧ gk = LL.length - k ∧ si = .int .i64 k ∧ wr.ownsRow w.heap.size 3 1 s6 (catTo LL k).length (ints (catTo LL k)) ∧ Below w.heap.size w wr)
      case atStart => exact ⟨0, Nat.zero_le _, rfl, rfl, o1, b1⟩
      case round =>
        clear o1 b1
        rename World => wr
        obtain ⟨k, hk, hgk, rfl, hown, hbw⟩ := hrel
        have HG := hidIt hgk
        clear hgk
        have hlen := catTo_len LL k
        have h1 := HM.out k hk
        by_cases hlt : k < LL.length
        · have hlt' : (k : Int) < (LL.length : Int) := by omega
          obtain ⟨v, hv, hi⟩ := HA.out k hlt
          have hv2 := below_cell hbw hq hv
          have SI := hidIt (src_ints (hi.below hbw))
          obtain ⟨va, vc, rfl, -⟩ := hi.form
          have HSS := hidIt (show catTo LL (k + 1) = catTo LL k ++ LL[k] by show catTo LL k ++ LL.getD k [] = _; rw [getD_ll LL k hlt])
          have h2 := HM.out (k + 1) hlt
          rw [← catTo_len, HSS.out, List.length_append] at h2
          clear hi hv
          generalize LL[k] = L at *
          rw [← hlen] at h1
          clear hlen
          generalize catTo LL k = Z at *
          obtain ⟨av, cv, hv⟩ := own_form hown
          subst hv
          have hz := hbw.size
          go_wp2_with (at_builtin; refine wpList_append_src _ rfl _ _ 22 rfl w.heap.size 3 i0 (.int .i64 0) 1 8 Try.underlying22 hi0 hz0 hz1 hz2 rfl (by decide) _ _ _ rfl hown _ L.length (ints L) rfl SI.out (by unfold maxLen; omega) (by omega) hz ?_; intro v' w2 hown' hgrow _)
          have hb2 : Below w.heap.size w w2 := hbw.grown hgrow hz (fun q hq => (hown.lt q hq).1)
          clear hgrow hown
          go_wp2
          go_roundg (LL.length - (k + 1))
          case measure => rw [HG.out]; omega
          case rel => exact ⟨k + 1, by omega, rfl, by go_num, by rw [HSS.out]; simpa using hown', hb2⟩
        · have hke : k = LL.length := by omega
          subst hke
          obtain ⟨av, cv, hv⟩ := own_form hown
          subst hv
          have HO := hidIt hown
          clear hown hlen h1
          go_wp2
          go_ret
          exact ⟨_, rfl, HO.out, hbw⟩
theorem clone_in (w : World) (v : Value) (xs : List Int) (hn : xs.length ≤ 4194304) (h : IntsIn w v xs) :
    Calls Try.prog 42 #[v] w fun e w' => ∃ v', e = .returned v' ∧ IntsNew w w' v' xs := by
  obtain ⟨⟨a, c, rfl, h⟩, -⟩ := h
  by_cases h0 : 0 < xs.length
  · rcases h with rfl | ⟨b, off, rfl, hb, hc⟩
    · exact absurd h0 (by simp)
    · refine (Try.slices_Clone_int b off xs.length c xs w (Nat.le_refl _) (by omega) (fun j hj => by rw [hc j hj]; simp [hj])).mono ?_
      rintro e w' ⟨v', rfl, o1, -, b1⟩
      exact ⟨v', rfl, ints_of_owns (n := xs.length) (by simpa using o1) (Nat.le_refl _) b1⟩
  · obtain rfl : xs = [] := List.length_eq_zero_iff.1 (by omega)
    cases a with
    | none =>
      refine (Try.slices_Clone_int_nil _ c w).mono ?_
      rintro e w' ⟨rfl, rfl⟩
      exact ⟨_, rfl, [], ⟨none, 0, rfl, trivial, .inl ⟨rfl, rfl⟩⟩, List.nodup_nil, by simp, Below.refl _ _⟩
    | some ad =>
      refine (Try.slices_Clone_int_zero ad c w).mono ?_
      rintro e w' ⟨v', rfl, o1, -, b1⟩
      exact ⟨v', rfl, ints_of_owns (n := 0) (xs := []) o1 (Nat.le_refl _) b1⟩

end Go.Proofs.Ytmifnemjihffkaa
