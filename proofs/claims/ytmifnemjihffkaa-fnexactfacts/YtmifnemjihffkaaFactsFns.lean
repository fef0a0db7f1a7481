/- The facts of a crew, by the model and by the program. -/
import Derived.Test.YtmifnemjihffkaaRows
import Derived.WalkKit
import Derived.ProofKit
import Derived.OpenShut
import Derived.ShutString
import Derived.Test.YtmifnemjihffkaaFactsPlain
import Derived.Deep.LoopGhost
import Derived.Deep.AppendLies
import Derived.Deep.RegionHeld3
namespace Go.Proofs.Ytmifnemjihffkaa
open Go.ChangeShapes Go.WideShapes Go.ChangeAt Go.RowKit
set_option linter.unusedVariables false

theorem spec_facts_nil (a : Option Addr) (n c cap : Nat) (p : Option Addr) (x0 x1 x4 : Int) (w : World) :
    Calls Try.prog 9 #[.agg #[.int .i64 x0, .int .i64 x1, .slice a n c, .slice p 0 cap, .int .i64 x4]] w fun e w' => ∃ v', e = .returned v' ∧ FactsNew w w' v' [] := by
  go_enter Try.func9, Try.ntmps9
  go_wp2
  go_loop [3, 12] (fun v i => v = .slice (some ⟨w.heap.size + 1, 0, none⟩) 0 0 ∧ i = .int .i64 0) (fun _ _ => 0)
  case atStart => exact ⟨rfl, rfl⟩
  case round =>
    obtain ⟨rfl, rfl⟩ := hrel
    go_wp2
    go_ret
    exact ⟨.slice (some ⟨w.heap.size + 1, 0, none⟩) 0 0, rfl, [], ⟨_, 0, rfl, Nat.le_refl _, .inl ⟨rfl, rfl⟩⟩, List.nodup_nil, by simp, ((Below.refl _ _).alloc (Nat.le_refl _) _).alloc (by simp) _⟩
set_option maxHeartbeats 3200000 in
set_option maxRecDepth 100000 in
theorem spec_facts_some (b off cap n c : Nat) (p : Option Addr) (ts : List Th) (x0 x1 x4 : Int) (w : World) (hn : ts.length ≤ 4194304) (hf : TsFit ts) (hs : pS ts ts.length ≤ 1048576) (hb : b < w.heap.size)
    (hA : ∀ j (hj : j < ts.length), ∃ v0 v2 v3, At4 w b (off + j * 4) v0 (.int .i64 ts[j].at_) v2 v3 ∧ ThIn w v0 v2 v3 ts[j]) :
    Calls Try.prog 9 #[.agg #[.int .i64 x0, .int .i64 x1, .slice p n c, .slice (some ⟨b, off, none⟩) ts.length cap, .int .i64 x4]] w fun e w' => ∃ v', e = .returned v' ∧ FactsNew w w' v' (fT ts ts.length) := by
  obtain ⟨i0, hi0, hz0, hz1, hz2⟩ := info_parts infoFact
  have HA := hidIt hA
  have HF := hidIt hf
  have HL := hidIt (fun k hk => Nat.le_trans (fT_len ts k) (Nat.le_trans (pS_mono ts (show k ≤ ts.length from hk)) hs))
  clear hA hf hs
  go_enter Try.func9, Try.ntmps9
  go_wp2
  go_loopg [3, 12] ts.length (fun gk s3 si wr => ∃ k : Nat, k ≤ ts.length ∧ gk = ts.length - k ∧ si = .int .i64 k ∧ w.heap.size + 1 ≤ wr.heap.size ∧ wr.ownsRow (w.heap.size + 1) 46 8 s3 (fT ts k).length (eights (fT ts k)) ∧ Below w.heap.size w wr)
  case atStart => exact ⟨0, Nat.zero_le _, rfl, rfl, by simp, by have := World.ownsRow_made (base := w.heap.size + 1) (e := 46) (size := 8) (w.alloc (.cells #[.int .i64 x0, .int .i64 x1, .slice p n c, .slice (some ⟨b, off, none⟩) ts.length cap, .int .i64 x4] 34)) #[] 0 (by simp) (by unfold maxLen; omega) (by simp); simpa [fT, eights] using this, ((Below.refl _ _).alloc (Nat.le_refl _) _).alloc (by simp) _⟩
  case round =>
    obtain ⟨k, hk, hgk, rfl, hsz, hown, hbw⟩ := hrel
    by_cases hlt : k < ts.length
    · have hlt' : (k : Int) < (ts.length : Int) := by omega
      obtain ⟨v0, v2, v3, h4, h5⟩ := HA.out k hlt
      obtain ⟨q1, q2, q3⟩ := HF.out k hlt
      have HS := hidIt (fT_step ts k hlt)
      have hle := HL.out k hk
      obtain ⟨r0, r1, r2, r3⟩ := h4.of (fun q => hbw.cell (p := ⟨b, q, none⟩) hb)
      have H5 := hidIt h5
      obtain ⟨a2, d2, rfl, -⟩ := h5.bs.form
      obtain ⟨a3, d3, rfl, -⟩ := h5.es.form
      obtain ⟨a0, d0, rfl, -⟩ := h5.cs.form
      clear h4 h5
      generalize ts[k] = y at *
      have HG := hidIt hgk
      clear hgk
      generalize fT ts k = L at *
      obtain ⟨av, cv, hv⟩ := own_form hown
      subst hv
      go_wp2
      have hfi := FI.start (x0 := .slice a0 y.cs.length d0) (x1 := .int .i64 y.at_) (x2 := .slice a2 y.bs.length d2) (x3 := .slice a3 y.es.length d3) (T := 64) hown hbw hsz
      generalize hwt : wr.alloc (.cells #[.slice a0 y.cs.length d0, .int .i64 y.at_, .slice a2 y.bs.length d2, .slice a3 y.es.length d3] 64) = wt at hfi ⊢
      have b0 := hfi.box
      obtain ⟨t0, t1, t2, t3⟩ := b0.cells
      clear b0
      clear hwt hown r0 r1 r2 r3
      have htz : wr.heap.size < wt.heap.size := hfi.lt
      generalize wr.heap.size = tb at *
      go_wp2
      skip
      skip
      go_loopg [3, 20] y.cs.length (fun ik s3 si wi => ∃ j : Nat, j ≤ y.cs.length ∧ ik = y.cs.length - j ∧ si = .int .i64 j ∧ FI w tb (.slice a0 y.cs.length d0) (.int .i64 y.at_) (.slice a2 y.bs.length d2) (.slice a3 y.es.length d3) s3 (L ++ fC (k : Int) y j) wi)
      case atStart => exact ⟨0, Nat.zero_le _, rfl, rfl, by simpa [fC] using hfi⟩
      case round =>
        clear t0 t1 t2 t3 hfi htz
        rename World => wi
        obtain ⟨j, hj, hgj, rfl, fi⟩ := hrel
        obtain ⟨M, hM⟩ : ∃ M, L ++ fC (k : Int) y j = M := ⟨_, rfl⟩
        rw [hM] at fi
        have hfl := fC_len (k : Int) y j
        have hml : M.length ≤ 5242880 := by rw [← hM, List.length_append]; omega
        have HM := hidIt hM
        clear hM
        obtain ⟨t0, t1, t2, t3⟩ := fi.box.cells
        have htz := fi.lt
        have hlo := fi.lo
        have FV := hidIt fi
        obtain ⟨av, cv, hv⟩ := fi.form
        subst hv
        have HJ := hidIt hgj
        clear hgj
        by_cases hjl : j < y.cs.length
        · have hjl' : (j : Int) < (y.cs.length : Int) := by omega
          have hjc : j < y.cs.length := hjl
          obtain ⟨cb, coff, rfl, hcb, hc⟩ := call_cell H5.out.cs j hjc
          obtain ⟨m0, m1, m2, m3, m4, m5, m6, m7, m8, m9⟩ := hc.of (fun q => fi.below.cell (p := ⟨cb, q, none⟩) hcb)
          clear hc
          have HD := hidIt (told_d y j hjc)
          have HB := hidIt (told_b y j)
          have HE := hidIt (told_e y j)
          have HY := hidIt (fC_yes (k : Int) y j hjc)
          have HN := hidIt (fC_no (k : Int) y j)
          generalize y.cs[j] = z at *
          by_cases hd : z.d = true
          · have HZ := hidIt hd
            rw [hd] at m9
            clear hd
            by_cases hb : j < y.bs.length
            · by_cases he : j < y.es.length
              · obtain ⟨bb, boff, rfl, -, hbb, cb0⟩ := ints_cell H5.out.bs j hb
                have cb1 := fi.below.cell (p := ⟨bb, boff + j, none⟩) hbb
                rw [cb0] at cb1
                obtain ⟨eb, eoff, rfl, -, heb, ce0⟩ := ints_cell H5.out.es j he
                have ce1 := fi.below.cell (p := ⟨eb, eoff + j, none⟩) heb
                rw [ce0] at ce1
                clear cb0 ce0
                have HQ := hidIt (HY.out HZ.out hb he)
                generalize y.bs[j] = β at *
                generalize y.es[j] = ε at *
                have hb' : (j : Int) < (y.bs.length : Int) := by omega
                have he' : (j : Int) < (y.es.length : Int) := by omega
                have hzb : S9 tb wi.heap.size bb (boff + j) eb (eoff + j) (.slice (some ⟨bb, boff, none⟩) y.bs.length d2) (.slice (some ⟨eb, eoff, none⟩) y.es.length d3) z β ε (wi.alloc (.cells #[.int .i64 z.k, .int .i64 z.a, .int .i64 z.x, .int .i64 z.pc, .int .i64 z.p, .int .i64 z.c, .int .i64 z.w, .int .i64 z.r, .int .i64 z.v, .bool true] 66)) :=
                  ⟨below_cell ((Below.refl _ _).alloc (Nat.le_refl _) _) htz t2, below_cell ((Below.refl _ _).alloc (Nat.le_refl _) _) htz t3, by simp [go_sem], by simp [go_sem], by simp [go_sem], by simp [go_sem], by simp [go_sem], below_cell ((Below.refl _ _).alloc (Nat.le_refl _) _) (by omega) cb1, below_cell ((Below.refl _ _).alloc (Nat.le_refl _) _) (by omega) ce1⟩
                have hlt4 : tb < (wi.alloc (.cells #[.int .i64 z.k, .int .i64 z.a, .int .i64 z.x, .int .i64 z.pc, .int .i64 z.p, .int .i64 z.c, .int .i64 z.w, .int .i64 z.r, .int .i64 z.v, .bool true] 66)).heap.size ∧ wi.heap.size < (wi.alloc (.cells #[.int .i64 z.k, .int .i64 z.a, .int .i64 z.x, .int .i64 z.pc, .int .i64 z.p, .int .i64 z.c, .int .i64 z.w, .int .i64 z.r, .int .i64 z.v, .bool true] 66)).heap.size ∧ bb < (wi.alloc (.cells #[.int .i64 z.k, .int .i64 z.a, .int .i64 z.x, .int .i64 z.pc, .int .i64 z.p, .int .i64 z.c, .int .i64 z.w, .int .i64 z.r, .int .i64 z.v, .bool true] 66)).heap.size ∧ eb < (wi.alloc (.cells #[.int .i64 z.k, .int .i64 z.a, .int .i64 z.x, .int .i64 z.pc, .int .i64 z.p, .int .i64 z.c, .int .i64 z.w, .int .i64 z.r, .int .i64 z.v, .bool true] 66)).heap.size := by simp; omega
                have hne4 : (Value.slice av M.length cv).ownBlock ≠ some tb ∧ (Value.slice av M.length cv).ownBlock ≠ some wi.heap.size ∧ (Value.slice av M.length cv).ownBlock ≠ some bb ∧ (Value.slice av M.length cv).ownBlock ≠ some eb :=
                  ⟨fi.ap, fun e => by have := (fi.own.lt _ e).2; omega, fun e => by have := (fi.own.lt _ e).1; omega, fun e => by have := (fi.own.lt _ e).1; omega⟩
                have FZ := hidIt (fi.alloc (.cells #[.int .i64 z.k, .int .i64 z.a, .int .i64 z.x, .int .i64 z.pc, .int .i64 z.p, .int .i64 z.c, .int .i64 z.w, .int .i64 z.r, .int .i64 z.v, .bool true] 66))
                go_wp2
                generalize hwz : wi.alloc (.cells #[.int .i64 z.k, .int .i64 z.a, .int .i64 z.x, .int .i64 z.pc, .int .i64 z.p, .int .i64 z.c, .int .i64 z.w, .int .i64 z.r, .int .i64 z.v, .bool true] 66) = wz at *
                have hzz : wz.heap.size = wi.heap.size + 1 := by rw [← hwz]; simp
                clear hwz t0 t1 t2 t3 m0 m1 m2 m3 m4 m5 m6 m7 m8 m9 cb1 ce1
                have K1 := hidIt (fun W (b : Below wz.heap.size wz W) => hzb.below b hlt4)
                have K2 := hidIt (fun W W' (b : Below wz.heap.size wz W) (g : W.grownBy W' (Value.slice av M.length cv).ownBlock) => hzb.grown hlt4 hne4 b g)
                clear hne4 hlt4 fi
                unfold S9 at hzb
                go_region_held3 (fun W => W.cell? ⟨tb, 2, none⟩ = some (.slice (some ⟨bb, boff, none⟩) y.bs.length d2) ∧ W.cell? ⟨tb, 3, none⟩ = some (.slice (some ⟨eb, eoff, none⟩) y.es.length d3) ∧ W.cell? ⟨wi.heap.size, 0, none⟩ = some (.int .i64 z.k) ∧ W.cell? ⟨wi.heap.size, 1, none⟩ = some (.int .i64 z.a) ∧ W.cell? ⟨wi.heap.size, 4, none⟩ = some (.int .i64 z.p) ∧ W.cell? ⟨wi.heap.size, 7, none⟩ = some (.int .i64 z.r) ∧ W.cell? ⟨wi.heap.size, 8, none⟩ = some (.int .i64 z.v) ∧ W.cell? ⟨bb, boff + j, none⟩ = some (.int .i64 β) ∧ W.cell? ⟨eb, eoff + j, none⟩ = some (.int .i64 ε))
                  (first | exact K1.out _ ((Below.refl _ _).drew) | exact K1.out _ ((Below.refl _ _).drew.alloc (Nat.le_refl _) _) | exact K2.out _ _ ((Below.refl _ _).drew.alloc (Nat.le_refl _) _) (by assumption))
                  (first | (go_loud (refine step_append_lies _ rfl (.tmp 41) (.tmp 64) 29 rfl (w.heap.size + 1) 46 i0 (.agg #[.int .i64 factZero.th, .int .i64 factZero.k, .int .i64 factZero.a, .int .i64 factZero.r, .int .i64 factZero.v, .int .i64 factZero.t, .int .i64 factZero.b, .int .i64 factZero.e]) 8 64 Try.underlying29 hi0 hz0 hz1 hz2 rfl (by omega) (.slice av M.length cv) M.length (eights M) rfl ((FZ.out.drew.alloc _).own) _ 1 1 (eight (factC (k : Int) z β ε)) rfl rfl (World.news_of_block (at_new (by first | exact hzz.symm | omega))) (eight_oneCell _) (by omega) (by unfold maxLen; omega) (by omega) (by simp; omega) _ rfl ?_); intro g cap w6 hown hgrow hat hgl; have HOW := hidIt hown; have HAT := hidIt hat; have HGR := hidIt hgrow; clear hat hown))
                clear hgl
                go_wp2
                go_roundg (y.cs.length - (j + 1))
                case measure => rw [HJ.out]; omega
                case rel => exact ⟨j + 1, by omega, rfl, by go_num, by rw [HQ.out, ← List.append_assoc, HM.out]; exact (FZ.out.drew.alloc _).app rfl HOW.out HGR.out HAT.out rfl⟩
              · have HNE := hidIt (HN.out (HE.out he))
                have he' : (y.es.length : Int) ≤ (j : Int) := by omega
                have hb' : (j : Int) < (y.bs.length : Int) := by omega
                go_wp2
                go_roundg (y.cs.length - (j + 1))
                case measure => rw [HJ.out]; omega
                case rel => exact ⟨j + 1, by omega, rfl, by go_num, by rw [HNE.out, HM.out]; exact FV.out.alloc _⟩
            · have HNE := hidIt (HN.out (HB.out hb))
              have hb' : (y.bs.length : Int) ≤ (j : Int) := by omega
              go_wp2
              go_roundg (y.cs.length - (j + 1))
              case measure => rw [HJ.out]; omega
              case rel => exact ⟨j + 1, by omega, rfl, by go_num, by rw [HNE.out, HM.out]; exact FV.out.alloc _⟩
          · have hd' : z.d = false := by simpa using hd
            have HZ := hidIt hd'
            rw [hd'] at m9
            clear hd hd'
            go_wp2
            go_roundg (y.cs.length - (j + 1))
            case measure => rw [HJ.out]; omega
            case rel => exact ⟨j + 1, by omega, rfl, by go_num, by rw [HN.out (HD.out HZ.out), HM.out]; exact FV.out.alloc _⟩
        · have hje : j = y.cs.length := by omega
          have HG2 := hidIt hje
          clear hje
          go_wp2
          go_roundg (ts.length - (k + 1))
          case measure => rw [HG.out]; omega
          case rel => exact ⟨k + 1, by omega, rfl, by go_num, by omega, by rw [HS.out, ← HG2.out, HM.out]; exact FV.out.own, FV.out.below⟩
    · obtain rfl : k = ts.length := by omega
      obtain ⟨av, cv, hv⟩ := own_form hown
      have HB := hidIt (facts_of_owns hown (Nat.le_succ _) hbw)
      clear hown
      subst hv
      go_wp2
      go_ret
      exact ⟨_, rfl, HB.out⟩
theorem spec_facts (w : World) (vm vt : Value) (C : Cw) (h : CwIn w vm vt C) (hf : CwFit C) (hs : C.m.length + szThs C.ts ≤ 1048576) :
    Calls Try.prog 9 #[.agg #[.int .i64 C.what, .int .i64 C.size, vm, vt, .int .i64 C.clock]] w fun e w' => ∃ v', e = .returned v' ∧ FactsNew w w' v' (factsL C) := by
  obtain ⟨a0, d0, rfl, -⟩ := h.m.form
  obtain ⟨a, cap, rfl, -, h2⟩ := h.ts
  by_cases h0 : 0 < C.ts.length
  · rcases h2 with h2 | ⟨b, off, rfl, h3, h4⟩
    · rw [h2] at h0; exact absurd h0 (by simp)
    · exact spec_facts_some b off cap _ d0 a0 C.ts _ _ _ w hf.2.1 hf.2.2 (by unfold szThs at hs; omega) h3 h4
  · have h1 := len_zero h0
    unfold factsL
    rw [h1]
    exact spec_facts_nil a0 _ d0 cap a _ _ _ w
theorem impl_facts_nil (a : Option Addr) (n c cap : Nat) (p : Option Addr) (x0 x1 x4 : Int) (w : World) :
    Calls Try.prog 11 #[.agg #[.int .i64 x0, .int .i64 x1, .slice a n c, .slice p 0 cap, .int .i64 x4]] w fun e w' => ∃ v', e = .returned v' ∧ FactsNew w w' v' [] := by
  go_enter Try.func11, Try.ntmps11
  go_wp2
  go_loop [3, 11] (fun v i => v = .slice none 0 0 ∧ i = .int .i64 0) (fun _ _ => 0)
  case atStart => exact ⟨rfl, rfl⟩
  case round =>
    obtain ⟨rfl, rfl⟩ := hrel
    go_wp2
    go_ret
    exact ⟨.slice none 0 0, rfl, [], ⟨_, 0, rfl, Nat.le_refl _, .inl ⟨rfl, rfl⟩⟩, List.nodup_nil, by simp, (Below.refl _ _).alloc (Nat.le_refl _) _⟩
set_option maxHeartbeats 3200000 in
set_option maxRecDepth 100000 in
theorem impl_facts_some (b off cap n c : Nat) (p : Option Addr) (ts : List Th) (x0 x1 x4 : Int) (w : World) (hn : ts.length ≤ 4194304) (hf : TsFit ts) (hs : pS ts ts.length ≤ 1048576) (hb : b < w.heap.size)
    (hA : ∀ j (hj : j < ts.length), ∃ v0 v2 v3, At4 w b (off + j * 4) v0 (.int .i64 ts[j].at_) v2 v3 ∧ ThIn w v0 v2 v3 ts[j]) :
    Calls Try.prog 11 #[.agg #[.int .i64 x0, .int .i64 x1, .slice p n c, .slice (some ⟨b, off, none⟩) ts.length cap, .int .i64 x4]] w fun e w' => ∃ v', e = .returned v' ∧ FactsNew w w' v' (fT ts ts.length) := by
  obtain ⟨i0, hi0, hz0, hz1, hz2⟩ := info_parts infoFact
  have HA := hidIt hA
  have HF := hidIt hf
  have HL := hidIt (fun k hk => Nat.le_trans (fT_len ts k) (Nat.le_trans (pS_mono ts (show k ≤ ts.length from hk)) hs))
  clear hA hf hs
  go_enter Try.func11, Try.ntmps11
  go_wp2
  go_loopg [3, 11] ts.length (fun gk s3 si wr => ∃ k : Nat, k ≤ ts.length ∧ gk = ts.length - k ∧ si = .int .i64 k ∧ w.heap.size + 1 ≤ wr.heap.size ∧ wr.ownsRow (w.heap.size + 1) 46 8 s3 (fT ts k).length (eights (fT ts k)) ∧ Below w.heap.size w wr)
  case atStart => exact ⟨0, Nat.zero_le _, rfl, rfl, by simp, ⟨rfl, .inl ⟨rfl, rfl⟩⟩, (Below.refl _ _).alloc (Nat.le_refl _) _⟩
  case round =>
    obtain ⟨k, hk, hgk, rfl, hsz, hown, hbw⟩ := hrel
    by_cases hlt : k < ts.length
    · have hlt' : (k : Int) < (ts.length : Int) := by omega
      obtain ⟨v0, v2, v3, h4, h5⟩ := HA.out k hlt
      obtain ⟨q1, q2, q3⟩ := HF.out k hlt
      have HS := hidIt (fT_step ts k hlt)
      have hle := HL.out k hk
      obtain ⟨r0, r1, r2, r3⟩ := h4.of (fun q => hbw.cell (p := ⟨b, q, none⟩) hb)
      have H5 := hidIt h5
      obtain ⟨a2, d2, rfl, -⟩ := h5.bs.form
      obtain ⟨a3, d3, rfl, -⟩ := h5.es.form
      obtain ⟨a0, d0, rfl, -⟩ := h5.cs.form
      clear h4 h5
      generalize ts[k] = y at *
      have HG := hidIt hgk
      clear hgk
      generalize fT ts k = L at *
      obtain ⟨av, cv, hv⟩ := own_form hown
      subst hv
      go_wp2
      have hfi := FI.start (x0 := .slice a0 y.cs.length d0) (x1 := .int .i64 y.at_) (x2 := .slice a2 y.bs.length d2) (x3 := .slice a3 y.es.length d3) (T := 64) hown hbw hsz
      generalize hwt : wr.alloc (.cells #[.slice a0 y.cs.length d0, .int .i64 y.at_, .slice a2 y.bs.length d2, .slice a3 y.es.length d3] 64) = wt at hfi ⊢
      have b0 := hfi.box
      obtain ⟨t0, t1, t2, t3⟩ := b0.cells
      clear b0
      clear hwt hown r0 r1 r2 r3
      have htz : wr.heap.size < wt.heap.size := hfi.lt
      have hmin := run_min3N (w := wt) #[3, 3, 3] 3 y
      generalize wr.heap.size = tb at *
      go_wp2
      skip
      rw [hmin]
      clear hmin
      simp only [Result.andThen_ok, Oper.upon]
      go_wp2
      go_loopg [3, 26] (minB y) (fun ik s3 si wi => ∃ j : Nat, j ≤ (minB y) ∧ ik = (minB y) - j ∧ si = .int .i64 j ∧ FI w tb (.slice a0 y.cs.length d0) (.int .i64 y.at_) (.slice a2 y.bs.length d2) (.slice a3 y.es.length d3) s3 (L ++ fC (k : Int) y j) wi)
      case atStart => exact ⟨0, Nat.zero_le _, rfl, rfl, by simpa [fC] using hfi⟩
      case round =>
        clear t0 t1 t2 t3 hfi htz
        rename World => wi
        obtain ⟨j, hj, hgj, rfl, fi⟩ := hrel
        obtain ⟨M, hM⟩ : ∃ M, L ++ fC (k : Int) y j = M := ⟨_, rfl⟩
        rw [hM] at fi
        have hfl := fC_len (k : Int) y j
        have hml : M.length ≤ 5242880 := by rw [← hM, List.length_append]; unfold minB at hj; omega
        have HM := hidIt hM
        clear hM
        obtain ⟨t0, t1, t2, t3⟩ := fi.box.cells
        have htz := fi.lt
        have hlo := fi.lo
        have FV := hidIt fi
        obtain ⟨av, cv, hv⟩ := fi.form
        subst hv
        have HJ := hidIt hgj
        clear hgj
        by_cases hjl : j < (minB y)
        · have hjl' : (j : Int) < ((minB y) : Int) := by omega
          have hjc : j < y.cs.length := by unfold minB at hjl; omega
          obtain ⟨cb, coff, rfl, hcb, hc⟩ := call_cell H5.out.cs j hjc
          obtain ⟨m0, m1, m2, m3, m4, m5, m6, m7, m8, m9⟩ := hc.of (fun q => fi.below.cell (p := ⟨cb, q, none⟩) hcb)
          clear hc
          have HD := hidIt (told_d y j hjc)
          have HB := hidIt (told_b y j)
          have HE := hidIt (told_e y j)
          have HY := hidIt (fC_yes (k : Int) y j hjc)
          have HN := hidIt (fC_no (k : Int) y j)
          generalize y.cs[j] = z at *
          by_cases hd : z.d = true
          · have HZ := hidIt hd
            rw [hd] at m9
            clear hd
            have hb : j < y.bs.length := by unfold minB at hjl; omega
            have he : j < y.es.length := by unfold minB at hjl; omega
            obtain ⟨bb, boff, rfl, -, hbb, cb0⟩ := ints_cell H5.out.bs j hb
            have cb1 := fi.below.cell (p := ⟨bb, boff + j, none⟩) hbb
            rw [cb0] at cb1
            obtain ⟨eb, eoff, rfl, -, heb, ce0⟩ := ints_cell H5.out.es j he
            have ce1 := fi.below.cell (p := ⟨eb, eoff + j, none⟩) heb
            rw [ce0] at ce1
            clear cb0 ce0
            have HQ := hidIt (HY.out HZ.out hb he)
            generalize y.bs[j] = β at *
            generalize y.es[j] = ε at *
            have hb' : (j : Int) < (y.bs.length : Int) := by omega
            have he' : (j : Int) < (y.es.length : Int) := by omega
            have hzb : S9 tb wi.heap.size bb (boff + j) eb (eoff + j) (.slice (some ⟨bb, boff, none⟩) y.bs.length d2) (.slice (some ⟨eb, eoff, none⟩) y.es.length d3) z β ε (wi.alloc (.cells #[.int .i64 z.k, .int .i64 z.a, .int .i64 z.x, .int .i64 z.pc, .int .i64 z.p, .int .i64 z.c, .int .i64 z.w, .int .i64 z.r, .int .i64 z.v, .bool true] 66)) :=
              ⟨below_cell ((Below.refl _ _).alloc (Nat.le_refl _) _) htz t2, below_cell ((Below.refl _ _).alloc (Nat.le_refl _) _) htz t3, by simp [go_sem], by simp [go_sem], by simp [go_sem], by simp [go_sem], by simp [go_sem], below_cell ((Below.refl _ _).alloc (Nat.le_refl _) _) (by omega) cb1, below_cell ((Below.refl _ _).alloc (Nat.le_refl _) _) (by omega) ce1⟩
            have hlt4 : tb < (wi.alloc (.cells #[.int .i64 z.k, .int .i64 z.a, .int .i64 z.x, .int .i64 z.pc, .int .i64 z.p, .int .i64 z.c, .int .i64 z.w, .int .i64 z.r, .int .i64 z.v, .bool true] 66)).heap.size ∧ wi.heap.size < (wi.alloc (.cells #[.int .i64 z.k, .int .i64 z.a, .int .i64 z.x, .int .i64 z.pc, .int .i64 z.p, .int .i64 z.c, .int .i64 z.w, .int .i64 z.r, .int .i64 z.v, .bool true] 66)).heap.size ∧ bb < (wi.alloc (.cells #[.int .i64 z.k, .int .i64 z.a, .int .i64 z.x, .int .i64 z.pc, .int .i64 z.p, .int .i64 z.c, .int .i64 z.w, .int .i64 z.r, .int .i64 z.v, .bool true] 66)).heap.size ∧ eb < (wi.alloc (.cells #[.int .i64 z.k, .int .i64 z.a, .int .i64 z.x, .int .i64 z.pc, .int .i64 z.p, .int .i64 z.c, .int .i64 z.w, .int .i64 z.r, .int .i64 z.v, .bool true] 66)).heap.size := by simp; omega
            have hne4 : (Value.slice av M.length cv).ownBlock ≠ some tb ∧ (Value.slice av M.length cv).ownBlock ≠ some wi.heap.size ∧ (Value.slice av M.length cv).ownBlock ≠ some bb ∧ (Value.slice av M.length cv).ownBlock ≠ some eb :=
              ⟨fi.ap, fun e => by have := (fi.own.lt _ e).2; omega, fun e => by have := (fi.own.lt _ e).1; omega, fun e => by have := (fi.own.lt _ e).1; omega⟩
            have FZ := hidIt (fi.alloc (.cells #[.int .i64 z.k, .int .i64 z.a, .int .i64 z.x, .int .i64 z.pc, .int .i64 z.p, .int .i64 z.c, .int .i64 z.w, .int .i64 z.r, .int .i64 z.v, .bool true] 66))
            go_wp2
            generalize hwz : wi.alloc (.cells #[.int .i64 z.k, .int .i64 z.a, .int .i64 z.x, .int .i64 z.pc, .int .i64 z.p, .int .i64 z.c, .int .i64 z.w, .int .i64 z.r, .int .i64 z.v, .bool true] 66) = wz at *
            have hzz : wz.heap.size = wi.heap.size + 1 := by rw [← hwz]; simp
            clear hwz t0 t1 t2 t3 m0 m1 m2 m3 m4 m5 m6 m7 m8 m9 cb1 ce1
            have K1 := hidIt (fun W (b : Below wz.heap.size wz W) => hzb.below b hlt4)
            have K2 := hidIt (fun W W' (b : Below wz.heap.size wz W) (g : W.grownBy W' (Value.slice av M.length cv).ownBlock) => hzb.grown hlt4 hne4 b g)
            clear hne4 hlt4 fi
            unfold S9 at hzb
            go_region_held3 (fun W => W.cell? ⟨tb, 2, none⟩ = some (.slice (some ⟨bb, boff, none⟩) y.bs.length d2) ∧ W.cell? ⟨tb, 3, none⟩ = some (.slice (some ⟨eb, eoff, none⟩) y.es.length d3) ∧ W.cell? ⟨wi.heap.size, 0, none⟩ = some (.int .i64 z.k) ∧ W.cell? ⟨wi.heap.size, 1, none⟩ = some (.int .i64 z.a) ∧ W.cell? ⟨wi.heap.size, 4, none⟩ = some (.int .i64 z.p) ∧ W.cell? ⟨wi.heap.size, 7, none⟩ = some (.int .i64 z.r) ∧ W.cell? ⟨wi.heap.size, 8, none⟩ = some (.int .i64 z.v) ∧ W.cell? ⟨bb, boff + j, none⟩ = some (.int .i64 β) ∧ W.cell? ⟨eb, eoff + j, none⟩ = some (.int .i64 ε))
              (first | exact K1.out _ ((Below.refl _ _).drew) | exact K1.out _ ((Below.refl _ _).drew.alloc (Nat.le_refl _) _) | exact K2.out _ _ ((Below.refl _ _).drew.alloc (Nat.le_refl _) _) (by assumption))
              (first | (go_loud (refine step_append_lies _ rfl (.tmp 36) (.tmp 59) 29 rfl (w.heap.size + 1) 46 i0 (.agg #[.int .i64 factZero.th, .int .i64 factZero.k, .int .i64 factZero.a, .int .i64 factZero.r, .int .i64 factZero.v, .int .i64 factZero.t, .int .i64 factZero.b, .int .i64 factZero.e]) 8 64 Try.underlying29 hi0 hz0 hz1 hz2 rfl (by omega) (.slice av M.length cv) M.length (eights M) rfl ((FZ.out.drew.alloc _).own) _ 1 1 (eight (factC (k : Int) z β ε)) rfl rfl (World.news_of_block (at_new (by first | exact hzz.symm | omega))) (eight_oneCell _) (by omega) (by unfold maxLen; omega) (by omega) (by simp; omega) _ rfl ?_); intro g cap w6 hown hgrow hat hgl; have HOW := hidIt hown; have HAT := hidIt hat; have HGR := hidIt hgrow; clear hat hown))
            clear hgl
            go_wp2
            go_roundg ((minB y) - (j + 1))
            case measure => rw [HJ.out]; omega
            case rel => exact ⟨j + 1, by omega, rfl, by go_num, by rw [HQ.out, ← List.append_assoc, HM.out]; exact (FZ.out.drew.alloc _).app rfl HOW.out HGR.out HAT.out rfl⟩
          · have hd' : z.d = false := by simpa using hd
            have HZ := hidIt hd'
            rw [hd'] at m9
            clear hd hd'
            go_wp2
            go_roundg ((minB y) - (j + 1))
            case measure => rw [HJ.out]; omega
            case rel => exact ⟨j + 1, by omega, rfl, by go_num, by rw [HN.out (HD.out HZ.out), HM.out]; exact FV.out.alloc _⟩
        · have hje : j = (minB y) := by omega
          have HG2 := hidIt hje
          clear hje
          go_wp2
          go_roundg (ts.length - (k + 1))
          case measure => rw [HG.out]; omega
          case rel => exact ⟨k + 1, by omega, rfl, by go_num, by omega, by rw [HS.out, fC_min, ← HG2.out, HM.out]; exact FV.out.own, FV.out.below⟩
    · obtain rfl : k = ts.length := by omega
      obtain ⟨av, cv, hv⟩ := own_form hown
      have HB := hidIt (facts_of_owns hown (Nat.le_succ _) hbw)
      clear hown
      subst hv
      go_wp2
      go_ret
      exact ⟨_, rfl, HB.out⟩
theorem impl_facts (w : World) (vm vt : Value) (C : Cw) (h : CwIn w vm vt C) (hf : CwFit C) (hs : C.m.length + szThs C.ts ≤ 1048576) :
    Calls Try.prog 11 #[.agg #[.int .i64 C.what, .int .i64 C.size, vm, vt, .int .i64 C.clock]] w fun e w' => ∃ v', e = .returned v' ∧ FactsNew w w' v' (factsL C) := by
  obtain ⟨a0, d0, rfl, -⟩ := h.m.form
  obtain ⟨a, cap, rfl, -, h2⟩ := h.ts
  by_cases h0 : 0 < C.ts.length
  · rcases h2 with h2 | ⟨b, off, rfl, h3, h4⟩
    · rw [h2] at h0; exact absurd h0 (by simp)
    · exact impl_facts_some b off cap _ d0 a0 C.ts _ _ _ w hf.2.1 hf.2.2 (by unfold szThs at hs; omega) h3 h4
  · have h1 := len_zero h0
    unfold factsL
    rw [h1]
    exact impl_facts_nil a0 _ d0 cap a _ _ _ w

end Go.Proofs.Ytmifnemjihffkaa
