/- What a stack holds behind a fact: by the model and by the program. -/
import Derived.Test.YtmifnemjihffkaaRows
import Derived.WalkKit
import Derived.ProofKit
import Derived.OpenShut
import Derived.ShutString
import Derived.Test.YtmifnemjihffkaaFactRows
import Derived.Test.YtmifnemjihffkaaConcatFns
import Derived.Test.YtmifnemjihffkaaToIntsC
import Derived.Deep.QuietTactic
import Derived.BigQuiet
namespace Go.Proofs.Ytmifnemjihffkaa
open Go.ChangeShapes Go.WideShapes Go.ChangeAt Go.RowKit
set_option linter.unusedVariables false

def stApply (xs : List Int) (f : Fc) : Option (List Int) :=
  if f.k = 1 ∧ f.r = 1 then some (f.a :: xs)
  else if f.k = 1 ∧ f.r = 4 then some xs
  else if f.k = 2 ∧ f.r = 1 then (match xs with | [] => none | x :: l => if x = f.v then some l else none)
  else if f.k = 2 ∧ f.r = 2 then (if xs = [] then some [] else none)
  else none
def stAppL (xs : List Int) (f : Fc) : List Int := (stApply xs f).getD []
def stAppB (xs : List Int) (f : Fc) : Bool := (stApply xs f).isSome
theorem stApp_is {xs : List Int} {f : Fc} {o : Option (List Int)} (h : stApply xs f = o) : stAppL xs f = o.getD [] ∧ stAppB xs f = o.isSome := by
  unfold stAppL stAppB; rw [h]; exact ⟨rfl, rfl⟩
theorem stAppL_len (xs : List Int) (f : Fc) : (stAppL xs f).length ≤ xs.length + 1 := by
  unfold stAppL stApply
  split
  · simp
  · split
    · simp
    · split
      · cases xs with
        | nil => simp
        | cons x l => simp only; split <;> simp; omega
      · split
        · split <;> simp
        · simp
def StAns (xs : List Int) (f : Fc) (w : World) (e : Ending) (w' : World) : Prop := ∃ v', e = .returned (.tuple #[v', .bool (stAppB xs f)]) ∧ IntsNew w w' v' (stAppL xs f)
theorem stAns_of {xs L : List Int} {f : Fc} {w w' : World} {v' : Value} (h : stApply xs f = some L) (n : IntsNew w w' v' L) : StAns xs f w (.returned (.tuple #[v', .bool true])) w' := by
  obtain ⟨h1, h2⟩ := stApp_is h
  exact ⟨v', by rw [h2]; rfl, by rw [h1]; exact n⟩
theorem stAns_no {xs : List Int} {f : Fc} {w w' : World} (h : stApply xs f = none) (b : Below w.heap.size w w') : StAns xs f w (.returned (.tuple #[.slice none 0 0, .bool false])) w' := by
  obtain ⟨h1, h2⟩ := stApp_is h
  exact ⟨_, by rw [h2]; rfl, by rw [h1]; exact ⟨[], ⟨none, 0, rfl, trivial, .inl ⟨rfl, rfl⟩⟩, List.nodup_nil, by simp, b⟩⟩
set_option maxHeartbeats 1600000 in
set_option maxRecDepth 100000 in
theorem spec_stapply (v : Value) (xs : List Int) (f : Fc) (w : World) (hn : xs.length ≤ 4194304) (h : IntsIn w v xs) (hc : CapIn v) :
    Calls Try.prog 17 #[v, .agg #[.int .i64 f.th, .int .i64 f.k, .int .i64 f.a, .int .i64 f.r, .int .i64 f.v, .int .i64 f.t, .int .i64 f.b, .int .i64 f.e]] w fun e w' => StAns xs f w e w' := by
  obtain ⟨i0, hi0, hz0, hz1, hz2⟩ := info_parts info3
  obtain ⟨th, fk, fa, fr, fv, ft, fb, fe⟩ := f
  have H := hidIt h
  obtain ⟨a, c, rfl, -⟩ := h.form
  obtain ⟨a', n', c', hcv, hcap⟩ := hc
  simp at hcv
  obtain ⟨rfl, rfl, rfl⟩ := hcv
  have hrow := h.1
  clear h
  go_enter Try.func17, Try.ntmps17
  by_cases k1 : fk = 1
  · subst k1
    by_cases r1 : fr = 1
    · subst r1
      clear hrow
      have HOW := hidIt (show ((w.alloc (.cells #[.int .i64 th, .int .i64 1, .int .i64 fa, .int .i64 1, .int .i64 fv, .int .i64 ft, .int .i64 fb, .int .i64 fe] 46)).alloc (.cells #[.int .i64 fa] 3)).ownsRow (w.heap.size + 1) 3 1 (.slice (some ⟨w.heap.size + 1, 0, none⟩) 1 1) 1 [.int .i64 fa] from by have := World.ownsRow_lit (base := w.heap.size + 1) (e := 3) (size := 1) (w.alloc (.cells #[.int .i64 th, .int .i64 1, .int .i64 fa, .int .i64 1, .int .i64 fv, .int .i64 ft, .int .i64 fb, .int .i64 fe] 46)) #[.int .i64 fa] 1 (by simp) (by unfold maxLen; omega) (by simp); simpa using this)
      have HSR := hidIt (src_ints (H.out.below (show Below w.heap.size w ((w.alloc (.cells #[.int .i64 th, .int .i64 1, .int .i64 fa, .int .i64 1, .int .i64 fv, .int .i64 ft, .int .i64 fb, .int .i64 fe] 46)).alloc (.cells #[.int .i64 fa] 3)) from ((Below.refl w.heap.size w).alloc (Nat.le_refl _) _).alloc (by simp) _)))
      go_wp2_with (at_builtin; refine wpList_append_src _ rfl _ _ 22 rfl (w.heap.size + 1) 3 i0 (.int .i64 0) 1 8 Try.underlying22 hi0 hz0 hz1 hz2 rfl (by decide) _ 1 [.int .i64 fa] rfl HOW.out _ xs.length (ints xs) rfl HSR.out (by unfold maxLen; omega) (by omega) (by simp <;> omega) ?_; intro v' w2 hown hgrow _)
      have hb2 : Below w.heap.size w w2 := (((Below.refl w.heap.size w).alloc (Nat.le_refl _) _).alloc (by simp) _).grown hgrow (by simp <;> omega) (fun q hq => by have := (HOW.out.lt q hq).1; omega)
      obtain ⟨av, nv, cv, hv⟩ := own_form3 hown
      subst hv
      have HN := hidIt (ints_of_owns (w := w) (xs := fa :: xs) (by simpa using hown) (by omega) hb2)
      clear hown hgrow hb2
      go_wp2
      refine bodyPost_ret (v := .tuple #[.slice av nv cv, .bool true]) (by simp [results, Try.results17, go_sem]) rfl ?_
      exact stAns_of (by simp [stApply]) HN.out
    · by_cases r4 : fr = 4
      · subst r4
        clear hrow
        have HOW := hidIt (show ((w.alloc (.cells #[.int .i64 th, .int .i64 1, .int .i64 fa, .int .i64 4, .int .i64 fv, .int .i64 ft, .int .i64 fb, .int .i64 fe] 46)).alloc (.cells #[] 3)).ownsRow (w.heap.size + 1) 3 1 (.slice (some ⟨w.heap.size + 1, 0, none⟩) 0 0) 0 [] from by have := World.ownsRow_lit (base := w.heap.size + 1) (e := 3) (size := 1) (w.alloc (.cells #[.int .i64 th, .int .i64 1, .int .i64 fa, .int .i64 4, .int .i64 fv, .int .i64 ft, .int .i64 fb, .int .i64 fe] 46)) #[] 0 (by simp) (by unfold maxLen; omega) (by simp); simpa using this)
        have HSR := hidIt (src_ints (H.out.below (show Below w.heap.size w ((w.alloc (.cells #[.int .i64 th, .int .i64 1, .int .i64 fa, .int .i64 4, .int .i64 fv, .int .i64 ft, .int .i64 fb, .int .i64 fe] 46)).alloc (.cells #[] 3)) from ((Below.refl w.heap.size w).alloc (Nat.le_refl _) _).alloc (by simp) _)))
        go_wp2_with (at_builtin; refine wpList_append_src _ rfl _ _ 22 rfl (w.heap.size + 1) 3 i0 (.int .i64 0) 1 8 Try.underlying22 hi0 hz0 hz1 hz2 rfl (by decide) _ 0 [] rfl HOW.out _ xs.length (ints xs) rfl HSR.out (by unfold maxLen; omega) (by omega) (by simp <;> omega) ?_; intro v' w2 hown hgrow _)
        have hb2 : Below w.heap.size w w2 := (((Below.refl w.heap.size w).alloc (Nat.le_refl _) _).alloc (by simp) _).grown hgrow (by simp <;> omega) (fun q hq => by have := (HOW.out.lt q hq).1; omega)
        obtain ⟨av, nv, cv, hv⟩ := own_form3 hown
        subst hv
        have HN := hidIt (ints_of_owns (w := w) (xs := xs) (by simpa using hown) (by omega) hb2)
        clear hown hgrow hb2
        go_wp2
        refine bodyPost_ret (v := .tuple #[.slice av nv cv, .bool true]) (by simp [results, Try.results17, go_sem]) rfl ?_
        exact stAns_of (by simp [stApply]) HN.out
      · clear hrow
        go_wp2
        refine bodyPost_ret (v := .tuple #[.slice none 0 0, .bool false]) (by simp [results, Try.results17, go_sem]) rfl ?_
        exact stAns_no (by simp [stApply, *]) ((Below.refl _ _).alloc (Nat.le_refl _) _)
  · by_cases k2 : fk = 2
    · subst k2
      by_cases r1 : fr = 1
      · subst r1
        cases xs with
        | nil =>
          clear hrow
          go_wp2
          refine bodyPost_ret (v := .tuple #[.slice none 0 0, .bool false]) (by simp [results, Try.results17, go_sem]) rfl ?_
          exact stAns_no (by simp [stApply, *]) ((Below.refl _ _).alloc (Nat.le_refl _) _)
        | cons x l =>
          obtain ⟨a2, c2, hv2, hrow⟩ := hrow
          simp at hv2
          obtain ⟨rfl, rfl⟩ := hv2
          rcases hrow with hrow | ⟨b, off, rfl, hb, hcl⟩
          · cases hrow
          · have c0 := hcl 0 (by simp)
            simp at c0
            clear hcl
            have hll : (l.length : Int) + 1 ≤ 4194304 := by simp at hn; omega
            by_cases hx : x = fv
            · subst hx
              go_wp2
              go_quiet (fail)
              rename Nat => nq
              by_cases hc1 : c = 1
              · subst hc1
                obtain rfl : l = [] := by simp at hcap; exact hcap
                go_wp2
                refine bodyPost_ret (v := .tuple #[.slice (some ⟨w.heap.size + 1, 0, none⟩) 0 0, .bool true]) (by simp [results, Try.results17, go_sem]) rfl ?_
                exact stAns_of (by simp [stApply]) ⟨[], ⟨_, 0, rfl, trivial, .inl ⟨rfl, rfl⟩⟩, List.nodup_nil, by simp, (below_drewN ((Below.refl w.heap.size w).alloc (Nat.le_refl _) _) nq).alloc (by simp) _⟩
              · have hc2 : 1 < c := by simp at hcap; omega
                have HOW := hidIt (show (((w.alloc (.cells #[.int .i64 th, .int .i64 2, .int .i64 fa, .int .i64 1, .int .i64 x, .int .i64 ft, .int .i64 fb, .int .i64 fe] 46)).drewN nq).alloc (.cells #[] 3)).ownsRow (w.heap.size + 1) 3 1 (.slice (some ⟨w.heap.size + 1, 0, none⟩) 0 0) 0 [] from by have := World.ownsRow_lit (base := w.heap.size + 1) (e := 3) (size := 1) ((w.alloc (.cells #[.int .i64 th, .int .i64 2, .int .i64 fa, .int .i64 1, .int .i64 x, .int .i64 ft, .int .i64 fb, .int .i64 fe] 46)).drewN nq) #[] 0 (by simp) (by unfold maxLen; omega) (by simp); simpa using this)
                have HSR := hidIt (src_ints ((H.out.tail (c - 1)).below (show Below w.heap.size w (((w.alloc (.cells #[.int .i64 th, .int .i64 2, .int .i64 fa, .int .i64 1, .int .i64 x, .int .i64 ft, .int .i64 fb, .int .i64 fe] 46)).drewN nq).alloc (.cells #[] 3)) from (below_drewN ((Below.refl w.heap.size w).alloc (Nat.le_refl _) _) nq).alloc (by simp) _)))
                go_wp2_with (at_builtin; refine wpList_append_src _ rfl _ _ 22 rfl (w.heap.size + 1) 3 i0 (.int .i64 0) 1 8 Try.underlying22 hi0 hz0 hz1 hz2 rfl (by decide) _ 0 [] rfl HOW.out _ l.length (ints l) rfl HSR.out (by unfold maxLen; omega) (by omega) (by simp <;> omega) ?_; intro v' w2 hown hgrow _)
                have hb2 : Below w.heap.size w w2 := ((below_drewN ((Below.refl w.heap.size w).alloc (Nat.le_refl _) _) nq).alloc (by simp) _).grown hgrow (by simp <;> omega) (fun q hq => by have := (HOW.out.lt q hq).1; omega)
                obtain ⟨av, nv, cv, hv⟩ := own_form3 hown
                subst hv
                have HN := hidIt (ints_of_owns (w := w) (xs := l) (by simpa using hown) (by omega) hb2)
                clear hown hgrow hb2
                go_wp2
                refine bodyPost_ret (v := .tuple #[.slice av nv cv, .bool true]) (by simp [results, Try.results17, go_sem]) rfl ?_
                exact stAns_of (by simp [stApply]) HN.out
            · have HX := hidIt hx
              have hx' : (x == fv) = false := by simp [hx]
              clear hx
              go_wp2
              go_quiet (fail)
              go_wp2
              refine bodyPost_ret (v := .tuple #[.slice none 0 0, .bool false]) (by simp [results, Try.results17, go_sem]) rfl ?_
              exact stAns_no (by simp [stApply, HX.out]) (below_drewN ((Below.refl _ _).alloc (Nat.le_refl _) _) _)
      · by_cases r2 : fr = 2
        · subst r2
          clear hrow
          cases xs with
          | nil =>
            go_wp2
            refine bodyPost_ret (v := .tuple #[.slice none 0 0, .bool true]) (by simp [results, Try.results17, go_sem]) rfl ?_
            exact stAns_of (L := []) (by simp [stApply]) ⟨[], ⟨none, 0, rfl, trivial, .inl ⟨rfl, rfl⟩⟩, List.nodup_nil, by simp, (Below.refl _ _).alloc (Nat.le_refl _) _⟩
          | cons x l =>
            go_wp2
            refine bodyPost_ret (v := .tuple #[.slice none 0 0, .bool false]) (by simp [results, Try.results17, go_sem]) rfl ?_
            exact stAns_no (by simp [stApply, *]) ((Below.refl _ _).alloc (Nat.le_refl _) _)
        · clear hrow
          go_wp2
          refine bodyPost_ret (v := .tuple #[.slice none 0 0, .bool false]) (by simp [results, Try.results17, go_sem]) rfl ?_
          exact stAns_no (by simp [stApply, *]) ((Below.refl _ _).alloc (Nat.le_refl _) _)
    · clear hrow
      go_wp2
      refine bodyPost_ret (v := .tuple #[.slice none 0 0, .bool false]) (by simp [results, Try.results17, go_sem]) rfl ?_
      exact stAns_no (by simp [stApply, *]) ((Below.refl _ _).alloc (Nat.le_refl _) _)

end Go.Proofs.Ytmifnemjihffkaa
