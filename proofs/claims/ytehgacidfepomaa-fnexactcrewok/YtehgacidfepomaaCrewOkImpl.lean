/- What a crew must be: CrewOk by the program. -/
import Derived.Test.YtehgacidfepomaaRows
import Derived.WalkKit
import Derived.ProofKit
import Derived.OpenShut
import Derived.ShutString
import Derived.Test.YtehgacidfepomaaCrewThImpl2
import Derived.Deep.QuietTactic
import Derived.BigQuiet
namespace Go.Proofs.Ytehgacidfepomaa
open Go.ChangeShapes Go.WideShapes Go.ChangeAt Go.RowKit
set_option linter.unusedVariables false

def CrewGood (C : Cw) : Prop := objB C.what C.size C.m.length = true ∧ C.ts.length ≤ 6 ∧ 0 ≤ C.clock ∧ ∀ j (h : j < C.ts.length), ThOk C.what C.clock C.ts[j]
noncomputable def crewOkB (C : Cw) : Bool := @decide (CrewGood C) (Classical.propDecidable _)
theorem crewOk_yes {C : Cw} (h : CrewGood C) : crewOkB C = true := @decide_eq_true _ (Classical.propDecidable _) h
theorem crewOk_no {C : Cw} (h : ¬ CrewGood C) : crewOkB C = false := @decide_eq_false _ (Classical.propDecidable _) h
theorem thB_iff (what clock : Int) (t : Th) : thB what clock t = true ↔ ThOk what clock t := by
  by_cases h : ThOk what clock t
  · simp [thB_yes h, h]
  · simp [thB_no h, h]
theorem obj_wh {what size : Int} {n : Nat} (h : objB what size n = true) : whB what = true := by
  unfold objB at h
  by_cases h1 : what = 1
  · subst h1; rfl
  · by_cases h2 : what = 2
    · subst h2; rfl
    · by_cases h3 : what = 3
      · subst h3; rfl
      · rw [if_neg h1, if_neg h2, if_neg h3] at h; cases h
/- a thread, whole -/
theorem getD_lt {α : Type} (xs : List α) (j : Nat) (d : α) (h : j < xs.length) : xs.getD j d = xs[j] := by simp [List.getD, List.getElem?_eq_getElem h]
theorem impl_thread (what clock : Int) (v0 v2 v3 : Value) (t : Th) (w : World) (hw : whB what = true) (h0 : 0 ≤ clock) (hf : ThFit t) (h : ThIn w v0 v2 v3 t) :
    Calls Try.prog 46 #[.int .i64 what, .int .i64 clock, .agg #[v0, .int .i64 t.at_, v2, v3]] w fun x w' => x = .returned (.bool (thB what clock t)) ∧ Below w.heap.size w w' := by
  by_cases hl : t.cs.length ≤ 12 ∧ t.bs.length = t.cs.length ∧ t.es.length = t.cs.length ∧ 0 ≤ t.at_ ∧ t.at_ ≤ (t.cs.length : Int)
  · obtain ⟨l1, l2, l3, l4, l5⟩ := hl
    by_cases hp : 0 < t.cs.length
    · obtain ⟨cb, co, cc, rfl, k1, k2⟩ := calls_cell h.cs hp
      obtain ⟨bb, bo, bc, rfl, m1, m2⟩ := ints_cell h.bs (by omega)
      obtain ⟨eb, eo, ec, rfl, p1, p2⟩ := ints_cell h.es (by omega)
      rw [l2, l3]
      exact impl_thread_some what clock t cb co cc bb bo bc eb eo ec w hw h0 l1 l2 l3 l4 l5 k1 m1 p1 k2 (fun j hj => by rw [getD_lt _ _ _ (by omega)]; exact m2 j (by omega)) (fun j hj => by rw [getD_lt _ _ _ (by omega)]; exact p2 j (by omega))
    · have hc : t.cs.length = 0 := by omega
      obtain ⟨a0, d0, rfl, -⟩ := h.cs.form
      obtain ⟨a2, d2, rfl, -⟩ := h.bs.form
      obtain ⟨a3, d3, rfl, -⟩ := h.es.form
      rw [thB_yes ⟨l1, l2, l3, l4, l5, fun i hi => by omega⟩, l2, l3, hc, show t.at_ = 0 by omega]
      clear hf h hw h0 l1 l2 l3 l4 l5 hp
      go_enter Try.func46, Try.ntmps46
      go_wp2
      go_loop [43] (fun i => i = .int .i64 0) (fun _ => 0)
      case atStart => rfl
      case round =>
        subst hrel
        go_wp2
        go_ret
        exact ⟨rfl, (Below.refl _ _).alloc (Nat.le_refl _) _⟩
  · obtain ⟨a0, d0, rfl, -⟩ := h.cs.form
    obtain ⟨a2, d2, rfl, -⟩ := h.bs.form
    obtain ⟨a3, d3, rfl, -⟩ := h.es.form
    rw [thB_no (fun k => hl ⟨k.1, k.2.1, k.2.2.1, k.2.2.2.1, k.2.2.2.2.1⟩)]
    exact impl_thread_len what clock a0 a2 a3 _ _ _ d0 d2 d3 t.at_ w hf.1 hf.2.1 hf.2.2 hl
theorem wf_i64_le {z : Int} (h : (Lit.int .i64 z).wf = true) : -9223372036854775808 ≤ z ∧ z ≤ 9223372036854775807 := by
  have := h
  simp [Lit.wf, IntKind.min, IntKind.max, IntKind.signed, IntKind.bits] at this
  omega
theorem obj_iff (what size : Int) (n : Nat) : objB what size n = true ↔ whB what = true ∧ szB size = true ∧ ¬ (what = 2 ∧ size < 2) ∧ (n : Int) = cellsN what size := by
  unfold objB cellsN whB stkB rngB lstB szB rzB
  by_cases h1 : what = 1
  · subst h1; simp
  · by_cases h2 : what = 2
    · subst h2; simp; omega
    · by_cases h3 : what = 3
      · subst h3; simp
      · rw [if_neg h1, if_neg h2, if_neg h3]
        simp
        omega
set_option maxHeartbeats 1600000 in
set_option maxRecDepth 100000 in
theorem impl_crewok_some (what size clock : Int) (xm xt : Option Addr) (xc xd : Nat) (m : List Int) (ts : List Th) (w : World) (hnm : m.length ≤ 4194304) (hn : ts.length ≤ 4194304) (hff : TsFit ts) (hcl : clock ≤ 9223372036854775807)
    (hA : ts = [] ∨ ∃ b off, xt = some ⟨b, off, none⟩ ∧ b < w.heap.size ∧ ∀ j (hj : j < ts.length), ∃ v0 v2 v3, At4 w b (off + j * 4) v0 (.int .i64 ts[j].at_) v2 v3 ∧ ThIn w v0 v2 v3 ts[j]) :
    Calls Try.prog 19 #[.agg #[.int .i64 what, .int .i64 size, .slice xm m.length xc, .slice xt ts.length xd, .int .i64 clock]] w fun e w' => e = .returned (.bool (crewOkB ⟨what, size, m, ts, clock⟩)) ∧ Below w.heap.size w w' := by
  have HA := hidIt hA
  have hf := hidIt hff

  clear hA hff
  have HX0 := hidIt (Bx.new w #[.int .i64 what, .int .i64 size, .slice xm m.length xc, .slice xt ts.length xd, .int .i64 clock] 29)
  by_cases ho : objB what size m.length = true
  · have HO := hidIt ho
    by_cases h6 : ts.length ≤ 6
    · have l6 := hidIt h6
      by_cases hc0 : 0 ≤ clock
      · have h0 := hidIt hc0
        have HW := hidIt (obj_wh ho)
        clear ho
        go_enter Try.func19, Try.ntmps19
        go_wp2_with fail
        refine (impl_isobject what size xm m.length xc _).mono ?_
        rintro e w1 ⟨rfl, b1⟩
        rw [HO.out]
        have B1 := hidIt (below_box b1)
        have X1 := hidIt (HX0.out.below b1)
        have x3 := X1.out.2.1 3
        have x4 := X1.out.2.1 4
        simp at x3 x4
        clear b1 HX0
        go_wp2
        go_loopg [27] ts.length (fun gk si wr => ∃ k : Nat, k ≤ ts.length ∧ gk = ts.length - k ∧ si = .int .i64 k ∧ Below w.heap.size w wr ∧ Bx wr w.heap.size #[.int .i64 what, .int .i64 size, .slice xm m.length xc, .slice xt ts.length xd, .int .i64 clock] ∧ ∀ j (hj : j < ts.length), j < k → ThOk what clock ts[j])
        case atStart => exact ⟨0, Nat.zero_le _, rfl, rfl, B1.out, X1.out, fun j hj hjk => by omega⟩
        case round =>
          obtain ⟨k, hk, hgk, rfl, hbw, hX, hok⟩ := hrel
          have HOK := hidIt hok
          have HX := hidIt hX
          have HG := hidIt hgk
          clear hok hX hgk
          by_cases hlt : k < ts.length
          · have hlt' : (k : Int) < (ts.length : Int) := by omega
            obtain ⟨b, off, rfl, hb, hA⟩ : ∃ b off, xt = some ⟨b, off, none⟩ ∧ b < w.heap.size ∧ ∀ j (hj : j < ts.length), ∃ v0 v2 v3, At4 w b (off + j * 4) v0 (.int .i64 ts[j].at_) v2 v3 ∧ ThIn w v0 v2 v3 ts[j] := by
              rcases HA.out with h | h
              · rw [h] at hlt; simp at hlt
              · exact h
            obtain ⟨v0, v2, v3, h4, h5⟩ := hA k hlt
            obtain ⟨r0, r1, r2, r3⟩ := h4.of (fun q => hbw.cell (p := ⟨b, q, none⟩) hb)
            have H5 := hidIt (h5.below hbw)
            have HF := hidIt (show ThFit ts[k] from hf.out k hlt)
            obtain ⟨y, hy⟩ : ∃ y, ts[k] = y := ⟨_, rfl⟩
            rw [hy] at r1 H5 HF h5
            have HY := hidIt hy
            obtain ⟨a0, d0, rfl, -⟩ := h5.cs.form
            obtain ⟨a2, d2, rfl, -⟩ := h5.bs.form
            obtain ⟨a3, d3, rfl, -⟩ := h5.es.form
            have x0 := HX.out.2.1 0
            have x1 := HX.out.2.1 1
            have x2 := HX.out.2.1 2
            have x3 := HX.out.2.1 3
            have x4 := HX.out.2.1 4
            simp at x0 x1 x2 x3 x4
            have hlt0 : w.heap.size < wr.heap.size := HX.out.1
            clear h4 h5 hy
            obtain ⟨q, hq⟩ : ∃ q, thB what clock y = q := ⟨_, rfl⟩
            have HQ := hidIt hq
            clear hq
            go_wp2_with fail
            refine (impl_thread what clock _ _ _ y _ HW.out h0.out HF.out (H5.out.below ((Below.refl _ _).alloc (Nat.le_refl _) _))).mono ?_
            rintro e w2 ⟨rfl, b2⟩
            rw [HQ.out]
            have B2 := hidIt (below_step (hbw.alloc hbw.size _) b2)
            have X2 := hidIt ((HX.out.alloc _).below b2)
            clear b2 r0 r1 r2 r3 x0 x1 x2 x3 x4
            cases q
            · go_wp2
              go_ret
              exact ⟨ret_boolx (crewOk_no (fun g => by have h1 := g.2.2.2 k hlt; rw [HY.out, ← thB_iff, HQ.out] at h1; cases h1)).symm, B2.out⟩
            · go_wp2
              go_roundg (ts.length - (k + 1))
              case measure => rw [HG.out]; omega
              case rel =>
                refine ⟨k + 1, by omega, rfl, by go_num, B2.out, X2.out, ?_⟩
                intro j hj hjk
                by_cases ej : j = k
                · subst ej
                  rw [HY.out, ← thB_iff]
                  exact HQ.out
                · exact HOK.out j hj (by omega)
          · obtain rfl : k = ts.length := by omega
            go_wp2
            go_ret
            exact ⟨ret_boolx (crewOk_yes ⟨HO.out, l6.out, h0.out, fun j hj => HOK.out j hj hj⟩).symm, hbw⟩
      · have HC := hidIt hc0
        have hc1 : clock < 0 := by omega
        clear ho hc0
        go_enter Try.func19, Try.ntmps19
        go_wp2_with fail
        refine (impl_isobject what size xm m.length xc _).mono ?_
        rintro e w1 ⟨rfl, b1⟩
        rw [HO.out]
        have B1 := hidIt (below_box b1)
        have X1 := hidIt (HX0.out.below b1)
        have x3 := X1.out.2.1 3
        have x4 := X1.out.2.1 4
        simp at x3 x4
        clear b1 HX0
        go_wp2
        go_ret
        exact ⟨ret_boolx (crewOk_no (fun g => by have h1 := HC.out; have h2 : 0 ≤ clock := g.2.2.1; omega)).symm, B1.out⟩
    · have HC := hidIt h6
      have hc1 : (6 : Int) < (ts.length : Int) := by omega
      clear ho h6
      go_enter Try.func19, Try.ntmps19
      go_wp2_with fail
      refine (impl_isobject what size xm m.length xc _).mono ?_
      rintro e w1 ⟨rfl, b1⟩
      rw [HO.out]
      have B1 := hidIt (below_box b1)
      have X1 := hidIt (HX0.out.below b1)
      have x3 := X1.out.2.1 3
      simp at x3
      clear b1 HX0
      go_wp2
      go_ret
      exact ⟨ret_boolx (crewOk_no (fun g => by have h1 := HC.out; have h2 : ts.length ≤ 6 := g.2.1; omega)).symm, B1.out⟩
  · have HC := hidIt ho
    have ho' : objB what size m.length = false := by simpa using ho
    have HO := hidIt ho'
    clear ho ho'
    go_enter Try.func19, Try.ntmps19
    go_wp2_with fail
    refine (impl_isobject what size xm m.length xc _).mono ?_
    rintro e w1 ⟨rfl, b1⟩
    rw [HO.out]
    have B1 := hidIt (below_box b1)
    clear b1 HX0
    go_wp2
    go_ret
    exact ⟨ret_boolx (crewOk_no (fun g => by have h2 : objB what size m.length = true := g.1; rw [HO.out] at h2; cases h2)).symm, B1.out⟩
theorem impl_crewok (w : World) (vm vt : Value) (C : Cw) (h : CwIn w vm vt C) (hf : CwFit C) (wf : CwWf C) :
    Calls Try.prog 19 #[.agg #[.int .i64 C.what, .int .i64 C.size, vm, vt, .int .i64 C.clock]] w fun e w' => e = .returned (.bool (crewOkB C)) ∧ Below w.heap.size w w' := by
  have hcl := (wf_i64_le wf.2.2.1).2
  obtain ⟨a0, d0, rfl, -⟩ := h.m.form
  obtain ⟨a, cap, rfl, -, h2⟩ := h.ts
  exact impl_crewok_some C.what C.size C.clock a0 a d0 cap C.m C.ts w hf.1 hf.2.1 hf.2.2 hcl h2

end Go.Proofs.Ytehgacidfepomaa
