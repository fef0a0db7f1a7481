/- What a stack holds behind a fact: by the program. -/
import Derived.Test.YtmifnemjihffkaaRows
import Derived.WalkKit
import Derived.ProofKit
import Derived.OpenShut
import Derived.ShutString
import Derived.Test.YtmifnemjihffkaaStAppFns
namespace Go.Proofs.Ytmifnemjihffkaa
open Go.ChangeShapes Go.WideShapes Go.ChangeAt Go.RowKit
set_option linter.unusedVariables false

set_option maxHeartbeats 1600000 in
set_option maxRecDepth 100000 in
theorem impl_stapply (v : Value) (xs : List Int) (f : Fc) (w : World) (hn : xs.length ≤ 4194304) (h : IntsIn w v xs) (hc : CapIn v) :
    Calls Try.prog 20 #[v, .agg #[.int .i64 f.th, .int .i64 f.k, .int .i64 f.a, .int .i64 f.r, .int .i64 f.v, .int .i64 f.t, .int .i64 f.b, .int .i64 f.e]] w fun e w' => StAns xs f w e w' := by
  obtain ⟨th, fk, fa, fr, fv, ft, fb, fe⟩ := f
  have H := hidIt h
  obtain ⟨a, c, rfl, -⟩ := h.form
  obtain ⟨a', n', c', hcv, hcap⟩ := hc
  simp at hcv
  obtain ⟨rfl, rfl, rfl⟩ := hcv
  have hrow := h.1
  clear h
  go_enter Try.func20, Try.ntmps20
  by_cases k1 : fk = 1
  · subst k1
    by_cases r1 : fr = 1
    · subst r1
      clear hrow
      have hcat : catTo [[fa], xs] 2 = fa :: xs := by simp [catTo]
      have hB3 : Below w.heap.size w (((w.alloc (.cells #[.int .i64 th, .int .i64 1, .int .i64 fa, .int .i64 1, .int .i64 fv, .int .i64 ft, .int .i64 fb, .int .i64 fe] 46)).alloc (.cells #[.int .i64 fa] 3)).alloc (.cells #[.slice (some ⟨w.heap.size + 1, 0, none⟩) 1 1, .slice a xs.length c] 22)) := (((Below.refl w.heap.size w).alloc (Nat.le_refl _) _).alloc (by simp) _).alloc (by simp <;> omega) _
      have HB3 := hidIt hB3
      have HC := hidIt (concat_ints (w.heap.size + 1 + 1) 0 2 [.slice (some ⟨w.heap.size + 1, 0, none⟩) 1 1, .slice a xs.length c] [[fa], xs] (((w.alloc (.cells #[.int .i64 th, .int .i64 1, .int .i64 fa, .int .i64 1, .int .i64 fv, .int .i64 ft, .int .i64 fb, .int .i64 fe] 46)).alloc (.cells #[.int .i64 fa] 3)).alloc (.cells #[.slice (some ⟨w.heap.size + 1, 0, none⟩) 1 1, .slice a xs.length c] 22)) rfl (by simp) (by simp [sumLen]; omega) (by simp)
        (fun j hj => by
          match j, hj with
          | 0, _ => simp [go_sem]
          | 1, _ => simp [go_sem])
        (fun j hj hj' => by
          match j, hj, hj' with
          | 0, _, _ => exact ⟨⟨_, 1, rfl, .inr ⟨_, 0, rfl, by simp <;> omega, fun i hi => by
              have : i = 0 := by simp at hi; omega
              subst this
              simp [go_sem]⟩⟩, _, 1, rfl, trivial⟩
          | 1, _, _ => exact H.out.below hB3))
      clear hB3
      go_wp2_with fail
      refine HC.out.mono ?_
      rintro e w1 ⟨v1, rfl, o1, b1⟩
      rw [show [[fa], xs].length = 2 from rfl, hcat] at o1
      obtain ⟨av, nv, cv, hv⟩ := own_form3 o1
      subst hv
      have HN := hidIt (ints_of_owns (w := w) (xs := fa :: xs) o1 HB3.out.size (below_step HB3.out b1))
      clear o1 b1 HC
      go_wp2
      refine bodyPost_ret (v := .tuple #[.slice av nv cv, .bool true]) (by simp [results, Try.results20, go_sem]) rfl ?_
      exact stAns_of (by simp [stApply]) HN.out
    · by_cases r4 : fr = 4
      · subst r4
        clear hrow
        go_wp2_with fail
        refine (clone_in _ _ xs (by first | omega | (simp at hn ⊢; done) | (simp at hn ⊢; omega)) (H.out.below ((Below.refl w.heap.size w).alloc (Nat.le_refl _) _))).mono ?_
        rintro e w1 ⟨v1, rfl, f1, o1, nd1, g1, b1⟩
        have HN := hidIt (show IntsNew w w1 v1 xs from ⟨f1, o1, nd1, fun g hg => Nat.le_trans (((Below.refl w.heap.size w).alloc (Nat.le_refl _) _)).size (g1 g hg), below_step (((Below.refl w.heap.size w).alloc (Nat.le_refl _) _)) b1⟩)
        obtain ⟨av, cv, rfl, -⟩ := o1.rd.form
        clear o1 nd1 g1 b1
        go_wp2
        refine bodyPost_ret (v := .tuple #[.slice av xs.length cv, .bool true]) (by simp [results, Try.results20, go_sem]) rfl ?_
        exact stAns_of (by simp [stApply]) HN.out
      · clear hrow
        go_wp2
        go_quiet (fail)
        go_wp2
        refine bodyPost_ret (v := .tuple #[.slice none 0 0, .bool false]) (by simp [results, Try.results20, go_sem]) rfl ?_
        exact stAns_no (by simp [stApply, *]) (below_drewN ((Below.refl _ _).alloc (Nat.le_refl _) _) _)
  · by_cases k2 : fk = 2
    · subst k2
      by_cases r1 : fr = 1
      · subst r1
        cases xs with
        | nil =>
          clear hrow
          go_wp2
          go_quiet (fail)
          go_wp2
          refine bodyPost_ret (v := .tuple #[.slice none 0 0, .bool false]) (by simp [results, Try.results20, go_sem]) rfl ?_
          exact stAns_no (by simp [stApply, *]) (below_drewN ((Below.refl _ _).alloc (Nat.le_refl _) _) _)
        | cons x l =>
          obtain ⟨a2, c2, hv2, hrow⟩ := hrow
          simp at hv2
          obtain ⟨rfl, rfl⟩ := hv2
          rcases hrow with hrow | ⟨b, off, rfl, hb, hcl⟩
          · cases hrow
          · have c0 := hcl 0 (by simp)
            simp at c0
            clear hcl
            have hll : (l.length : Int) + 1 ≤ 4194304 := by simp at hn; omega
            by_cases hx : x = fv
            · subst hx
              go_wp2_with fail
              go_quiet (fail)
              rename Nat => nq
              by_cases hc1 : c = 1
              · subst hc1
                obtain rfl : l = [] := by simp at hcap; exact hcap
                go_wp2_with fail
                refine (clone_in _ _ [] (by first | omega | (simp at hn ⊢; done) | (simp at hn ⊢; omega)) (IntsIn.none _ _ _)).mono ?_
                rintro e w1 ⟨v1, rfl, f1, o1, nd1, g1, b1⟩
                have HN := hidIt (show IntsNew w w1 v1 [] from ⟨f1, o1, nd1, fun g hg => Nat.le_trans ((below_drewN ((Below.refl w.heap.size w).alloc (Nat.le_refl _) _) nq)).size (g1 g hg), below_step ((below_drewN ((Below.refl w.heap.size w).alloc (Nat.le_refl _) _) nq)) b1⟩)
                obtain ⟨av, cv, rfl, -⟩ := o1.rd.form
                clear o1 nd1 g1 b1
                go_wp2
                refine bodyPost_ret (v := .tuple #[.slice av 0 cv, .bool true]) (by simp [results, Try.results20, go_sem]) rfl ?_
                exact stAns_of (by simp [stApply]) HN.out
              · have hc2 : 1 < c := by simp at hcap; omega
                go_wp2_with fail
                refine (clone_in _ _ l (by first | omega | (simp at hn ⊢; done) | (simp at hn ⊢; omega)) ((H.out.tail (c - 1)).below (below_drewN ((Below.refl w.heap.size w).alloc (Nat.le_refl _) _) nq))).mono ?_
                rintro e w1 ⟨v1, rfl, f1, o1, nd1, g1, b1⟩
                have HN := hidIt (show IntsNew w w1 v1 l from ⟨f1, o1, nd1, fun g hg => Nat.le_trans ((below_drewN ((Below.refl w.heap.size w).alloc (Nat.le_refl _) _) nq)).size (g1 g hg), below_step ((below_drewN ((Below.refl w.heap.size w).alloc (Nat.le_refl _) _) nq)) b1⟩)
                obtain ⟨av, cv, rfl, -⟩ := o1.rd.form
                clear o1 nd1 g1 b1
                go_wp2
                refine bodyPost_ret (v := .tuple #[.slice av l.length cv, .bool true]) (by simp [results, Try.results20, go_sem]) rfl ?_
                exact stAns_of (by simp [stApply]) HN.out
            · have HX := hidIt hx
              have hx' : (x == fv) = false := by simp [hx]
              clear hx
              go_wp2
              go_quiet (fail)
              go_wp2
              refine bodyPost_ret (v := .tuple #[.slice none 0 0, .bool false]) (by simp [results, Try.results20, go_sem]) rfl ?_
              exact stAns_no (by simp [stApply, HX.out]) (below_drewN ((Below.refl _ _).alloc (Nat.le_refl _) _) _)
      · by_cases r2 : fr = 2
        · subst r2
          clear hrow
          cases xs with
          | nil =>
            go_wp2
            go_quiet (fail)
            go_wp2
            refine bodyPost_ret (v := .tuple #[.slice none 0 0, .bool true]) (by simp [results, Try.results20, go_sem]) rfl ?_
            exact stAns_of (L := []) (by simp [stApply]) ⟨[], ⟨none, 0, rfl, trivial, .inl ⟨rfl, rfl⟩⟩, List.nodup_nil, by simp, below_drewN ((Below.refl _ _).alloc (Nat.le_refl _) _) _⟩
          | cons x l =>
            go_wp2
            go_quiet (fail)
            go_wp2
            refine bodyPost_ret (v := .tuple #[.slice none 0 0, .bool false]) (by simp [results, Try.results20, go_sem]) rfl ?_
            exact stAns_no (by simp [stApply, *]) (below_drewN ((Below.refl _ _).alloc (Nat.le_refl _) _) _)
        · clear hrow
          go_wp2
          go_quiet (fail)
          go_wp2
          refine bodyPost_ret (v := .tuple #[.slice none 0 0, .bool false]) (by simp [results, Try.results20, go_sem]) rfl ?_
          exact stAns_no (by simp [stApply, *]) (below_drewN ((Below.refl _ _).alloc (Nat.le_refl _) _) _)
    · clear hrow
      go_wp2
      go_quiet (fail)
      go_wp2
      refine bodyPost_ret (v := .tuple #[.slice none 0 0, .bool false]) (by simp [results, Try.results20, go_sem]) rfl ?_
      exact stAns_no (by simp [stApply, *]) (below_drewN ((Below.refl _ _).alloc (Nat.le_refl _) _) _)

end Go.Proofs.Ytmifnemjihffkaa
