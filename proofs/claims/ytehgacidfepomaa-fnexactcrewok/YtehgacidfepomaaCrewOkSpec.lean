/- What a crew must be: CrewOk by the model. -/
import Derived.Test.YtehgacidfepomaaRows
import Derived.WalkKit
import Derived.ProofKit
import Derived.OpenShut
import Derived.ShutString
import Derived.Test.YtehgacidfepomaaCrewThSpec
import Derived.Test.YtehgacidfepomaaCrewOkImpl
import Derived.Deep.QuietTactic
import Derived.BigQuiet
namespace Go.Proofs.Ytehgacidfepomaa
open Go.ChangeShapes Go.WideShapes Go.ChangeAt Go.RowKit
set_option linter.unusedVariables false

theorem Bx.drewN {W : World} {b : Nat} {xs : Array Value} (h : Bx W b xs) (n : Nat) : Bx (W.drewN n) b xs := by
  induction n with
  | zero => exact h
  | succ n ih => exact ih.drew
theorem spec_thread (what size clock : Int) (xm xt : Option Addr) (nm xc nt xd : Nat) (v0 v2 v3 : Value) (t : Th) (w : World) (hw : whB what = true) (h0 : 0 ≤ clock) (hc : clock ≤ 9223372036854775807) (hf : ThFit t) (h : ThIn w v0 v2 v3 t) :
    Calls Try.prog 43 #[.agg #[.int .i64 what, .int .i64 size, .slice xm nm xc, .slice xt nt xd, .int .i64 clock], .agg #[v0, .int .i64 t.at_, v2, v3]] w fun x w' => x = .returned (.bool (thB what clock t)) ∧ Below w.heap.size w w' := by
  by_cases hl : t.cs.length ≤ 12 ∧ t.bs.length = t.cs.length ∧ t.es.length = t.cs.length ∧ 0 ≤ t.at_ ∧ t.at_ ≤ (t.cs.length : Int)
  · obtain ⟨l1, l2, l3, l4, l5⟩ := hl
    by_cases hp : 0 < t.cs.length
    · obtain ⟨cb, co, cc, rfl, k1, k2⟩ := calls_cell h.cs hp
      obtain ⟨bb, bo, bc, rfl, m1, m2⟩ := ints_cell h.bs (by omega)
      obtain ⟨eb, eo, ec, rfl, p1, p2⟩ := ints_cell h.es (by omega)
      rw [l2, l3]
      exact spec_thread_some what size clock xm xt nm xc nt xd t cb co cc bb bo bc eb eo ec w hw h0 hc l1 l2 l3 l4 l5 k1 m1 p1 k2 (fun j hj => by rw [getD_lt _ _ _ (by omega)]; exact m2 j (by omega)) (fun j hj => by rw [getD_lt _ _ _ (by omega)]; exact p2 j (by omega))
    · have hc : t.cs.length = 0 := by omega
      obtain ⟨a0, d0, rfl, -⟩ := h.cs.form
      obtain ⟨a2, d2, rfl, -⟩ := h.bs.form
      obtain ⟨a3, d3, rfl, -⟩ := h.es.form
      rw [thB_yes ⟨l1, l2, l3, l4, l5, fun i hi => by omega⟩, l2, l3, hc, show t.at_ = 0 by omega]
      clear hf h hw h0 l1 l2 l3 l4 l5 hp
      go_enter Try.func43, Try.ntmps43
      go_wp2
      go_loop [41] (fun i => i = .int .i64 0) (fun _ => 0)
      case atStart => rfl
      case round =>
        subst hrel
        go_wp2
        go_ret
        exact ⟨rfl, ((Below.refl _ _).alloc (Nat.le_refl _) _).alloc (by simp) _⟩
  · obtain ⟨a0, d0, rfl, -⟩ := h.cs.form
    obtain ⟨a2, d2, rfl, -⟩ := h.bs.form
    obtain ⟨a3, d3, rfl, -⟩ := h.es.form
    rw [thB_no (fun k => hl ⟨k.1, k.2.1, k.2.2.1, k.2.2.2.1, k.2.2.2.2.1⟩)]
    exact spec_thread_len what size clock _ _ a0 a2 a3 _ _ _ d0 d2 d3 t.at_ w hf.1 hf.2.1 hf.2.2 hl
set_option maxHeartbeats 1600000 in
set_option maxRecDepth 100000 in
theorem spec_crewok_some (what size clock : Int) (xm xt : Option Addr) (xc xd : Nat) (m : List Int) (ts : List Th) (w : World) (hnm : m.length ≤ 4194304) (hn : ts.length ≤ 4194304) (hff : TsFit ts) (hcl : clock ≤ 9223372036854775807)
    (hA : ts = [] ∨ ∃ b off, xt = some ⟨b, off, none⟩ ∧ b < w.heap.size ∧ ∀ j (hj : j < ts.length), ∃ v0 v2 v3, At4 w b (off + j * 4) v0 (.int .i64 ts[j].at_) v2 v3 ∧ ThIn w v0 v2 v3 ts[j]) :
    Calls Try.prog 17 #[.agg #[.int .i64 what, .int .i64 size, .slice xm m.length xc, .slice xt ts.length xd, .int .i64 clock]] w fun e w' => e = .returned (.bool (crewOkB ⟨what, size, m, ts, clock⟩)) ∧ Below w.heap.size w w' := by
  have HA := hidIt hA
  have hf := hidIt hff

  clear hA hff
  have HX0 := hidIt (Bx.new w #[.int .i64 what, .int .i64 size, .slice xm m.length xc, .slice xt ts.length xd, .int .i64 clock] 29)
  have hcn0 := fun (h1 : 1 ≤ size ∧ size ≤ 16) (W : World) => spec_cells what size W h1.1 h1.2
  cases hwh : whB what
  · have HWH := hidIt (fun W => hwh ▸ spec_what what W)
    have HSZ := hidIt (fun W => spec_size size W)
    have HCN := HSZ
    have HC := hidIt hwh
    clear hwh HX0 hcn0
    go_enter Try.func17, Try.ntmps17
    go_wp2_with fail
    go_quiet (first | (go_at_call 40; refine Calls.quiet_of_same (HWH.out _)) | (go_at_call 41; refine Calls.quiet_of_same (HSZ.out _)) | (go_at_call 42; refine Calls.quiet_of_same (HCN.out _)))
    go_wp2
    go_ret
    exact ⟨ret_boolx (crewOk_no (fun g => by have h1 := ((obj_iff _ _ _).1 g.1).1; rw [HC.out] at h1; cases h1)).symm, below_drewN ((Below.refl _ _).alloc (Nat.le_refl _) _) _⟩
  · have HWH := hidIt (fun W => hwh ▸ spec_what what W)
    have HW := hidIt hwh
    clear hwh
    cases hsz : szB size
    · have HSZ := hidIt (fun W => hsz ▸ spec_size size W)
      have HCN := HSZ
      have HC := hidIt hsz
      clear hsz HX0 hcn0
      go_enter Try.func17, Try.ntmps17
      go_wp2_with fail
      go_quiet (first | (go_at_call 40; refine Calls.quiet_of_same (HWH.out _)) | (go_at_call 41; refine Calls.quiet_of_same (HSZ.out _)) | (go_at_call 42; refine Calls.quiet_of_same (HCN.out _)))
      go_wp2
      go_ret
      exact ⟨ret_boolx (crewOk_no (fun g => by have h1 := ((obj_iff _ _ _).1 g.1).2.1; rw [HC.out] at h1; cases h1)).symm, below_drewN ((Below.refl _ _).alloc (Nat.le_refl _) _) _⟩
    · have HSZ := hidIt (fun W => hsz ▸ spec_size size W)
      have HS := hidIt hsz
      have hsb : 1 ≤ size ∧ size ≤ 16 := of_decide_eq_true hsz
      have HCN := hidIt (hcn0 hsb)
      have HC8 := hidIt (obj_iff what size m.length)
      clear hsz hcn0
      by_cases h22 : what = 2 ∧ size < 2
      · obtain ⟨g1, g2⟩ := h22
        subst g1
        have HC := hidIt g2
        clear HX0
        go_enter Try.func17, Try.ntmps17
        go_wp2_with fail
        go_quiet (first | (go_at_call 40; refine Calls.quiet_of_same (HWH.out _)) | (go_at_call 41; refine Calls.quiet_of_same (HSZ.out _)) | (go_at_call 42; refine Calls.quiet_of_same (HCN.out _)))
        go_wp2
        go_ret
        exact ⟨ret_boolx (crewOk_no (fun g => ((obj_iff _ _ _).1 g.1).2.2.1 ⟨rfl, by have := HC.out; omega⟩)).symm, below_drewN ((Below.refl _ _).alloc (Nat.le_refl _) _) _⟩
      · have H22 := hidIt h22
        have hpart : (what = 2 ∧ decide (size < 2) = false) ∨ (what == 2) = false := by
          by_cases g1 : what = 2
          · exact .inl ⟨g1, decide_eq_false (fun g2 => h22 ⟨g1, g2⟩)⟩
          · exact .inr (by simpa using g1)
        clear h22
        rcases hpart with ⟨g1, g2⟩ | g2
        · have e2 : (what == 2) = true := by simpa using g1
          clear g1
          by_cases hne : (m.length : Int) = cellsN what size
          · have HNE := hidIt hne
            have hne' : ((m.length : Int) != cellsN what size) = false := by simpa using hne
            by_cases h6 : ts.length ≤ 6
            · have l6 := hidIt h6
              have hd6 : decide ((6 : Int) < (ts.length : Int)) = false := decide_eq_false (by omega)
              by_cases hc0 : 0 ≤ clock
              · have h0 := hidIt hc0
                have hdc : decide (clock < 0) = false := decide_eq_false (by omega)
                have HO := hidIt (HC8.out.2 ⟨HW.out, HS.out, H22.out, hne⟩)
                clear hne
                go_enter Try.func17, Try.ntmps17
                go_wp2_with fail
                go_quiet (first | (go_at_call 40; refine Calls.quiet_of_same (HWH.out _)) | (go_at_call 41; refine Calls.quiet_of_same (HSZ.out _)) | (go_at_call 42; refine Calls.quiet_of_same (HCN.out _)))
                have B1 := hidIt (show Below w.heap.size w (World.drewN (w.alloc (.cells #[.int .i64 what, .int .i64 size, .slice xm m.length xc, .slice xt ts.length xd, .int .i64 clock] 29)) nq) from below_drewN ((Below.refl _ _).alloc (Nat.le_refl _) _) _)
                have X1 := hidIt (show Bx (World.drewN (w.alloc (.cells #[.int .i64 what, .int .i64 size, .slice xm m.length xc, .slice xt ts.length xd, .int .i64 clock] 29)) nq) w.heap.size #[.int .i64 what, .int .i64 size, .slice xm m.length xc, .slice xt ts.length xd, .int .i64 clock] from HX0.out.drewN _)
                generalize hW1 : World.drewN _ nq = W1 at B1 X1 ⊢
                have x3 := X1.out.2.1 3
                simp at x3
                clear hW1 HX0
                go_wp2
                go_loopg [51] ts.length (fun gk si wr => ∃ k : Nat, k ≤ ts.length ∧ gk = ts.length - k ∧ si = .int .i64 k ∧ Below w.heap.size w wr ∧ Bx wr w.heap.size #[.int .i64 what, .int .i64 size, .slice xm m.length xc, .slice xt ts.length xd, .int .i64 clock] ∧ ∀ j (hj : j < ts.length), j < k → ThOk what clock ts[j])
                case atStart => exact ⟨0, Nat.zero_le _, rfl, rfl, B1.out, X1.out, fun j hj hjk => by omega⟩
                case round =>
                  obtain ⟨k, hk, hgk, rfl, hbw, hX, hok⟩ := hrel
                  have HOK := hidIt hok
                  have HX := hidIt hX
                  have HG := hidIt hgk
                  clear hok hX hgk
                  by_cases hlt : k < ts.length
                  · have hlt' : (k : Int) < (ts.length : Int) := by omega
                    obtain ⟨b, off, rfl, hb, hA⟩ : ∃ b off, xt = some ⟨b, off, none⟩ ∧ b < w.heap.size ∧ ∀ j (hj : j < ts.length), ∃ v0 v2 v3, At4 w b (off + j * 4) v0 (.int .i64 ts[j].at_) v2 v3 ∧ ThIn w v0 v2 v3 ts[j] := by
                      rcases HA.out with h | h
                      · rw [h] at hlt; simp at hlt
                      · exact h
                    obtain ⟨v0, v2, v3, h4, h5⟩ := hA k hlt
                    obtain ⟨r0, r1, r2, r3⟩ := h4.of (fun q => hbw.cell (p := ⟨b, q, none⟩) hb)
                    have H5 := hidIt (h5.below hbw)
                    have HF := hidIt (show ThFit ts[k] from hf.out k hlt)
                    obtain ⟨y, hy⟩ : ∃ y, ts[k] = y := ⟨_, rfl⟩
                    rw [hy] at r1 H5 HF h5
                    have HY := hidIt hy
                    obtain ⟨a0, d0, rfl, -⟩ := h5.cs.form
                    obtain ⟨a2, d2, rfl, -⟩ := h5.bs.form
                    obtain ⟨a3, d3, rfl, -⟩ := h5.es.form
                    have x0 := HX.out.2.1 0
                    have x1 := HX.out.2.1 1
                    have x2 := HX.out.2.1 2
                    have x3 := HX.out.2.1 3
                    have x4 := HX.out.2.1 4
                    simp at x0 x1 x2 x3 x4
                    have hlt0 : w.heap.size < wr.heap.size := HX.out.1
                    clear h4 h5 hy
                    obtain ⟨q, hq⟩ : ∃ q, thB what clock y = q := ⟨_, rfl⟩
                    have HQ := hidIt hq
                    clear hq
                    go_wp2_with fail
                    refine (spec_thread what size clock xm _ m.length xc ts.length xd _ _ _ y _ HW.out h0.out hcl HF.out (H5.out.below ((Below.refl _ _).alloc (Nat.le_refl _) _))).mono ?_
                    rintro e w2 ⟨rfl, b2⟩
                    rw [HQ.out]
                    have B2 := hidIt (below_step (hbw.alloc hbw.size _) b2)
                    have X2 := hidIt ((HX.out.alloc _).below b2)
                    clear b2 r0 r1 r2 r3 x0 x1 x2 x3 x4
                    cases q
                    · go_wp2
                      go_ret
                      exact ⟨ret_boolx (crewOk_no (fun g => by have h1 := g.2.2.2 k hlt; rw [HY.out, ← thB_iff, HQ.out] at h1; cases h1)).symm, B2.out⟩
                    · go_wp2
                      go_roundg (ts.length - (k + 1))
                      case measure => rw [HG.out]; omega
                      case rel =>
                        refine ⟨k + 1, by omega, rfl, by go_num, B2.out, X2.out, ?_⟩
                        intro j hj hjk
                        by_cases ej : j = k
                        · subst ej
                          rw [HY.out, ← thB_iff]
                          exact HQ.out
                        · exact HOK.out j hj (by omega)
                  · obtain rfl : k = ts.length := by omega
                    go_wp2
                    go_ret
                    exact ⟨ret_boolx (crewOk_yes ⟨HO.out, l6.out, h0.out, fun j hj => HOK.out j hj hj⟩).symm, hbw⟩
              · have HC := hidIt hc0
                have hc1 : clock < 0 := by omega
                clear hc0 hne HX0
                go_enter Try.func17, Try.ntmps17
                go_wp2_with fail
                go_quiet (first | (go_at_call 40; refine Calls.quiet_of_same (HWH.out _)) | (go_at_call 41; refine Calls.quiet_of_same (HSZ.out _)) | (go_at_call 42; refine Calls.quiet_of_same (HCN.out _)))
                go_wp2
                go_ret
                exact ⟨ret_boolx (crewOk_no (fun g => by have h1 := HC.out; have h2 : 0 ≤ clock := g.2.2.1; omega)).symm, below_drewN ((Below.refl _ _).alloc (Nat.le_refl _) _) _⟩
            · have HC := hidIt h6
              have hc1 : (6 : Int) < (ts.length : Int) := by omega
              clear h6 hne HX0
              go_enter Try.func17, Try.ntmps17
              go_wp2_with fail
              go_quiet (first | (go_at_call 40; refine Calls.quiet_of_same (HWH.out _)) | (go_at_call 41; refine Calls.quiet_of_same (HSZ.out _)) | (go_at_call 42; refine Calls.quiet_of_same (HCN.out _)))
              go_wp2
              go_ret
              exact ⟨ret_boolx (crewOk_no (fun g => by have h1 := HC.out; have h2 : ts.length ≤ 6 := g.2.1; omega)).symm, below_drewN ((Below.refl _ _).alloc (Nat.le_refl _) _) _⟩
          · have HC := hidIt hne
            have hne' : ((m.length : Int) != cellsN what size) = true := by simpa using hne
            clear hne HX0
            go_enter Try.func17, Try.ntmps17
            go_wp2_with fail
            go_quiet (first | (go_at_call 40; refine Calls.quiet_of_same (HWH.out _)) | (go_at_call 41; refine Calls.quiet_of_same (HSZ.out _)) | (go_at_call 42; refine Calls.quiet_of_same (HCN.out _)))
            go_wp2
            go_ret
            exact ⟨ret_boolx (crewOk_no (fun g => by have h1 := HC.out; have h2 := ((obj_iff _ _ _).1 g.1).2.2.2; exact h1 h2)).symm, below_drewN ((Below.refl _ _).alloc (Nat.le_refl _) _) _⟩
        · by_cases hne : (m.length : Int) = cellsN what size
          · have HNE := hidIt hne
            have hne' : ((m.length : Int) != cellsN what size) = false := by simpa using hne
            by_cases h6 : ts.length ≤ 6
            · have l6 := hidIt h6
              have hd6 : decide ((6 : Int) < (ts.length : Int)) = false := decide_eq_false (by omega)
              by_cases hc0 : 0 ≤ clock
              · have h0 := hidIt hc0
                have hdc : decide (clock < 0) = false := decide_eq_false (by omega)
                have HO := hidIt (HC8.out.2 ⟨HW.out, HS.out, H22.out, hne⟩)
                clear hne
                go_enter Try.func17, Try.ntmps17
                go_wp2_with fail
                go_quiet (first | (go_at_call 40; refine Calls.quiet_of_same (HWH.out _)) | (go_at_call 41; refine Calls.quiet_of_same (HSZ.out _)) | (go_at_call 42; refine Calls.quiet_of_same (HCN.out _)))
                have B1 := hidIt (show Below w.heap.size w (World.drewN (w.alloc (.cells #[.int .i64 what, .int .i64 size, .slice xm m.length xc, .slice xt ts.length xd, .int .i64 clock] 29)) nq) from below_drewN ((Below.refl _ _).alloc (Nat.le_refl _) _) _)
                have X1 := hidIt (show Bx (World.drewN (w.alloc (.cells #[.int .i64 what, .int .i64 size, .slice xm m.length xc, .slice xt ts.length xd, .int .i64 clock] 29)) nq) w.heap.size #[.int .i64 what, .int .i64 size, .slice xm m.length xc, .slice xt ts.length xd, .int .i64 clock] from HX0.out.drewN _)
                generalize hW1 : World.drewN _ nq = W1 at B1 X1 ⊢
                have x3 := X1.out.2.1 3
                simp at x3
                clear hW1 HX0
                go_wp2
                go_loopg [51] ts.length (fun gk si wr => ∃ k : Nat, k ≤ ts.length ∧ gk = ts.length - k ∧ si = .int .i64 k ∧ Below w.heap.size w wr ∧ Bx wr w.heap.size #[.int .i64 what, .int .i64 size, .slice xm m.length xc, .slice xt ts.length xd, .int .i64 clock] ∧ ∀ j (hj : j < ts.length), j < k → ThOk what clock ts[j])
                case atStart => exact ⟨0, Nat.zero_le _, rfl, rfl, B1.out, X1.out, fun j hj hjk => by omega⟩
                case round =>
                  obtain ⟨k, hk, hgk, rfl, hbw, hX, hok⟩ := hrel
                  have HOK := hidIt hok
                  have HX := hidIt hX
                  have HG := hidIt hgk
                  clear hok hX hgk
                  by_cases hlt : k < ts.length
                  · have hlt' : (k : Int) < (ts.length : Int) := by omega
                    obtain ⟨b, off, rfl, hb, hA⟩ : ∃ b off, xt = some ⟨b, off, none⟩ ∧ b < w.heap.size ∧ ∀ j (hj : j < ts.length), ∃ v0 v2 v3, At4 w b (off + j * 4) v0 (.int .i64 ts[j].at_) v2 v3 ∧ ThIn w v0 v2 v3 ts[j] := by
                      rcases HA.out with h | h
                      · rw [h] at hlt; simp at hlt
                      · exact h
                    obtain ⟨v0, v2, v3, h4, h5⟩ := hA k hlt
                    obtain ⟨r0, r1, r2, r3⟩ := h4.of (fun q => hbw.cell (p := ⟨b, q, none⟩) hb)
                    have H5 := hidIt (h5.below hbw)
                    have HF := hidIt (show ThFit ts[k] from hf.out k hlt)
                    obtain ⟨y, hy⟩ : ∃ y, ts[k] = y := ⟨_, rfl⟩
                    rw [hy] at r1 H5 HF h5
                    have HY := hidIt hy
                    obtain ⟨a0, d0, rfl, -⟩ := h5.cs.form
                    obtain ⟨a2, d2, rfl, -⟩ := h5.bs.form
                    obtain ⟨a3, d3, rfl, -⟩ := h5.es.form
                    have x0 := HX.out.2.1 0
                    have x1 := HX.out.2.1 1
                    have x2 := HX.out.2.1 2
                    have x3 := HX.out.2.1 3
                    have x4 := HX.out.2.1 4
                    simp at x0 x1 x2 x3 x4
                    have hlt0 : w.heap.size < wr.heap.size := HX.out.1
                    clear h4 h5 hy
                    obtain ⟨q, hq⟩ : ∃ q, thB what clock y = q := ⟨_, rfl⟩
                    have HQ := hidIt hq
                    clear hq
                    go_wp2_with fail
                    refine (spec_thread what size clock xm _ m.length xc ts.length xd _ _ _ y _ HW.out h0.out hcl HF.out (H5.out.below ((Below.refl _ _).alloc (Nat.le_refl _) _))).mono ?_
                    rintro e w2 ⟨rfl, b2⟩
                    rw [HQ.out]
                    have B2 := hidIt (below_step (hbw.alloc hbw.size _) b2)
                    have X2 := hidIt ((HX.out.alloc _).below b2)
                    clear b2 r0 r1 r2 r3 x0 x1 x2 x3 x4
                    cases q
                    · go_wp2
                      go_ret
                      exact ⟨ret_boolx (crewOk_no (fun g => by have h1 := g.2.2.2 k hlt; rw [HY.out, ← thB_iff, HQ.out] at h1; cases h1)).symm, B2.out⟩
                    · go_wp2
                      go_roundg (ts.length - (k + 1))
                      case measure => rw [HG.out]; omega
                      case rel =>
                        refine ⟨k + 1, by omega, rfl, by go_num, B2.out, X2.out, ?_⟩
                        intro j hj hjk
                        by_cases ej : j = k
                        · subst ej
                          rw [HY.out, ← thB_iff]
                          exact HQ.out
                        · exact HOK.out j hj (by omega)
                  · obtain rfl : k = ts.length := by omega
                    go_wp2
                    go_ret
                    exact ⟨ret_boolx (crewOk_yes ⟨HO.out, l6.out, h0.out, fun j hj => HOK.out j hj hj⟩).symm, hbw⟩
              · have HC := hidIt hc0
                have hc1 : clock < 0 := by omega
                clear hc0 hne HX0
                go_enter Try.func17, Try.ntmps17
                go_wp2_with fail
                go_quiet (first | (go_at_call 40; refine Calls.quiet_of_same (HWH.out _)) | (go_at_call 41; refine Calls.quiet_of_same (HSZ.out _)) | (go_at_call 42; refine Calls.quiet_of_same (HCN.out _)))
                go_wp2
                go_ret
                exact ⟨ret_boolx (crewOk_no (fun g => by have h1 := HC.out; have h2 : 0 ≤ clock := g.2.2.1; omega)).symm, below_drewN ((Below.refl _ _).alloc (Nat.le_refl _) _) _⟩
            · have HC := hidIt h6
              have hc1 : (6 : Int) < (ts.length : Int) := by omega
              clear h6 hne HX0
              go_enter Try.func17, Try.ntmps17
              go_wp2_with fail
              go_quiet (first | (go_at_call 40; refine Calls.quiet_of_same (HWH.out _)) | (go_at_call 41; refine Calls.quiet_of_same (HSZ.out _)) | (go_at_call 42; refine Calls.quiet_of_same (HCN.out _)))
              go_wp2
              go_ret
              exact ⟨ret_boolx (crewOk_no (fun g => by have h1 := HC.out; have h2 : ts.length ≤ 6 := g.2.1; omega)).symm, below_drewN ((Below.refl _ _).alloc (Nat.le_refl _) _) _⟩
          · have HC := hidIt hne
            have hne' : ((m.length : Int) != cellsN what size) = true := by simpa using hne
            clear hne HX0
            go_enter Try.func17, Try.ntmps17
            go_wp2_with fail
            go_quiet (first | (go_at_call 40; refine Calls.quiet_of_same (HWH.out _)) | (go_at_call 41; refine Calls.quiet_of_same (HSZ.out _)) | (go_at_call 42; refine Calls.quiet_of_same (HCN.out _)))
            go_wp2
            go_ret
            exact ⟨ret_boolx (crewOk_no (fun g => by have h1 := HC.out; have h2 := ((obj_iff _ _ _).1 g.1).2.2.2; exact h1 h2)).symm, below_drewN ((Below.refl _ _).alloc (Nat.le_refl _) _) _⟩
theorem spec_crewok (w : World) (vm vt : Value) (C : Cw) (h : CwIn w vm vt C) (hf : CwFit C) (wf : CwWf C) :
    Calls Try.prog 17 #[.agg #[.int .i64 C.what, .int .i64 C.size, vm, vt, .int .i64 C.clock]] w fun e w' => e = .returned (.bool (crewOkB C)) ∧ Below w.heap.size w w' := by
  have hcl := (wf_i64_le wf.2.2.1).2
  obtain ⟨a0, d0, rfl, -⟩ := h.m.form
  obtain ⟨a, cap, rfl, -, h2⟩ := h.ts
  exact spec_crewok_some C.what C.size C.clock a0 a d0 cap C.m C.ts w hf.1 hf.2.1 hf.2.2 hcl h2

end Go.Proofs.Ytehgacidfepomaa
