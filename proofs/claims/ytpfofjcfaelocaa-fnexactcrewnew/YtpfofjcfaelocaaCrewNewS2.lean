/- A new crew, by the model: an object that is good, at most six threads. -/
import Derived.Test.YtpfofjcfaelocaaRows
import Derived.WalkKit
import Derived.ProofKit
import Derived.OpenShut
import Derived.ShutString
import Derived.Test.YtpfofjcfaelocaaCrewNewS
namespace Go.Proofs.Ytpfofjcfaelocaa
open Go.ChangeShapes Go.WideShapes Go.ChangeAt Go.RowKit
set_option linter.unusedVariables false

set_option maxHeartbeats 1600000 in
set_option maxRecDepth 100000 in
theorem spec_crewnew_some (what size : Int) (full : Bool) (xt : Option Addr) (ts : List Th) (xd : Nat) (w : World) (hn : ts.length ≤ 6) (hk : objOk what size = true) (hf : ∀ j (hj : j < ts.length), ThFit ts[j])
    (hA : ts = [] ∨ ∃ b off, xt = some ⟨b, off, none⟩ ∧ b < w.heap.size ∧ ∀ j (hj : j < ts.length), ∃ v0 v2 v3, At4 w b (off + j * 4) v0 (.int .i64 ts[j].at_) v2 v3 ∧ ThIn w v0 v2 v3 ts[j]) :
    Calls Try.prog 5 #[.int .i64 what, .int .i64 size, .bool full, .slice xt ts.length xd] w fun e w' => ∃ vm vt, e = .returned (.tuple #[.agg #[.int .i64 (cwNewC what size full ts).what, .int .i64 (cwNewC what size full ts).size, vm, vt, .int .i64 (cwNewC what size full ts).clock], .bool (cnOkB what size ts)]) ∧ CwNew w w' vm vt (cwNewC what size full ts) := by
  obtain ⟨i0, hi0, hp0, hp1, hp2⟩ := info_parts infoCall
  obtain ⟨i1, hi1, hy0, hy1, hy2⟩ := info_parts info3
  obtain ⟨i2, hi2, hx0, hx1, hx2⟩ := info_parts infoTh
  have HK := hidIt hk
  have HA := hidIt hA
  have HF := hidIt hf
  clear hk hA hf
  go_enter Try.func5, Try.ntmps5
  go_wp2_with fail
  have X0 := Bx.new w #[.int .i64 0, .int .i64 0, .slice none 0 0, .slice none 0 0, .int .i64 0] 29
  have b0 : Below w.heap.size w (w.alloc (.cells #[.int .i64 0, .int .i64 0, .slice none 0 0, .slice none 0 0, .int .i64 0] 29)) := (Below.refl _ _).alloc (Nat.le_refl _) _
  refine (spec_newmem what size full _).mono ?_
  rintro e w1 ⟨v1, rfl, f1, o1, nd1, g1, b1⟩
  rw [HK.out]
  obtain ⟨a1, c1, rfl, -⟩ := o1.rd.form
  have l1' := o1.lt
  generalize hL : objL what size full = L at o1 ⊢
  go_wp2_with fail
  generalize hW1 : World.alloc w1 _ = W1
  have Y : Bx W1 w.heap.size #[.int .i64 0, .int .i64 0, .slice none 0 0, .slice none 0 0, .int .i64 0] ∧ Below w.heap.size w W1 ∧ W1.heap.size = w1.heap.size + 1 ∧ IntsO W1 (.slice a1 L.length c1) L f1 ∧ ∀ g ∈ f1, w.heap.size < g ∧ g < W1.heap.size := by
    rw [← hW1]
    have z1 := b1.size
    have l1 := o1.lt
    have e := (Below.refl w1.heap.size w1).alloc (Nat.le_refl _) (.cells #[.slice a1 L.length c1] 26)
    exact ⟨(X0.below b1).alloc _, (below_step b0 b1).alloc (by simp at z1; omega) _, by simp, o1.below e, fun g hg => by have h1 := g1 g hg; have h2 := l1 g hg; simp at h1 ⊢; omega⟩
  clear hW1 X0 b0 b1 o1 g1 l1'
  obtain ⟨X0, bW, zW, O1, l1⟩ := Y
  have hz1 : w.heap.size < W1.heap.size := X0.1
  obtain ⟨m, hm⟩ : ∃ m, m = w1.heap.size + 1 := ⟨_, rfl⟩
  rw [← hm]
  have HM := hidIt (hm.trans zW.symm)
  have HZW := hidIt zW
  generalize hW2 : World.alloc W1 _ = W2
  have HC : Hid (OL what size (.slice a1 L.length c1) ts m 0 (.slice none 0 0) [] (fun _ => []) W1 W2) := by
    rw [← hW2]
    exact ⟨(Below.refl _ _).alloc (Nat.le_refl _) _, Bx.newAt _ _ HM.out, World.ownsRow_nil _ _ _ _, fun j _ h => by omega, by simp, by simp, by simp [Value.ownBlock], by rw [HM.out]; exact Nat.le_refl _⟩
  clear hW2 hm zW
  have HX0 := hidIt X0
  have HBW := hidIt bW
  have HO1 := hidIt O1
  have HL1 := hidIt l1
  clear X0 bW O1 l1
  go_loopg [40] ts.length (fun gk si wr => ∃ k : Nat, ∃ vt xs fps, k ≤ ts.length ∧ gk = ts.length - k ∧ si = .int .i64 k ∧ OL what size (.slice a1 L.length c1) ts m k vt xs fps W1 wr ∧ ∀ j (h : j < ts.length), j < k → thOkB what ts[j] = true)
  case atStart => exact ⟨0, _, _, _, Nat.zero_le _, rfl, rfl, HC.out, fun j _ h => by omega⟩
  case round =>
    obtain ⟨k, vt, xs, fps, hk, hgk, rfl, hF, hok⟩ := hrel
    have HOK := hidIt hok
    have FL := hidIt hF
    have HG := hidIt hgk
    have hsz := hF.below.size
    clear hok hF hgk
    by_cases hlt : k < ts.length
    · have hlt' : (k : Int) < (ts.length : Int) := by omega
      obtain ⟨cb, co, rfl, hcb, hA⟩ : ∃ cb co, xt = some ⟨cb, co, none⟩ ∧ cb < w.heap.size ∧ ∀ j (hj : j < ts.length), ∃ v0 v2 v3, At4 w cb (co + j * 4) v0 (.int .i64 ts[j].at_) v2 v3 ∧ ThIn w v0 v2 v3 ts[j] := by
        rcases HA.out with h | h
        · rw [h] at hlt; simp at hlt
        · exact h
      have hbw : Below w.heap.size w wr := HBW.out.trans (FL.out.below.mono (by omega))
      obtain ⟨v0, v2, v3, h4, h5⟩ := hA k hlt
      obtain ⟨r0, r1, r2, r3⟩ := h4.of (fun q => hbw.cell (p := ⟨cb, q, none⟩) hcb)
      have H5 := hidIt (h5.below hbw)
      have HFit := hidIt (HF.out k hlt)
      clear h4 h5 hA
      obtain ⟨y, hy⟩ : ∃ y, ts[k] = y := ⟨_, rfl⟩
      rw [hy] at r1 H5 HFit
      have HY := hidIt hy
      clear hy
      obtain ⟨a0, d0, rfl, -, hcs⟩ := H5.out.cs
      obtain ⟨a2, d2, rfl, -⟩ := H5.out.bs.form
      obtain ⟨a3, d3, rfl, -⟩ := H5.out.es.form
      by_cases h12 : y.cs.length ≤ 12
      · have h12' : (y.cs.length : Int) ≤ 12 := by omega
        go_wp2_with fail
        have bb1 : wr.heap.size + 1 = (wr.alloc (.cells #[.slice a0 y.cs.length d0, .int .i64 y.at_, .slice a2 y.bs.length d2, .slice a3 y.es.length d3] 46)).heap.size := by simp
        generalize hW3 : World.alloc (World.alloc wr _) _ = W3
        have Y3 : IL (wr.heap.size + 1) (.slice none 0 0) (.slice none 0 0) (.slice none 0 0) [] [] [] W3 W3 ∧ Below wr.heap.size wr W3 := by
          rw [← hW3]
          refine ⟨⟨⟨⟨Nat.le_refl _, by simp⟩, World.ownsRow_nil _ _ _ _, World.ownsRow_nil _ _ _ _, World.ownsRow_nil _ _ _ _, by simp [Value.ownBlock], by simp [Value.ownBlock], by simp [Value.ownBlock], by simp [Value.ownBlock]⟩, Below.refl _ _, Bx.newAt _ _ bb1⟩, ((Below.refl _ _).alloc (Nat.le_refl _) _).alloc (by simp) _⟩
        clear hW3 bb1
        obtain ⟨I3, b3⟩ := Y3
        have HI3 := hidIt I3
        have HB3 := hidIt b3
        clear I3 b3 r0 r1 r2 r3
        go_loopg [53] y.cs.length (fun gi sj wi => ∃ i : Nat, ∃ u0 u2 u3, i ≤ y.cs.length ∧ gi = y.cs.length - i ∧ sj = .int .i64 i ∧ IL (wr.heap.size + 1) u0 u2 u3 ((y.cs.take i).map (begC what)) (List.replicate i (-1)) (List.replicate i (-1)) W3 wi ∧ ∀ j (h : j < y.cs.length), j < i → (begC what y.cs[j]).k ≠ 0)
        case atStart => exact ⟨0, _, _, _, Nat.zero_le _, rfl, rfl, by simpa using HI3.out, fun j _ h => by omega⟩
        case round =>
          rename World => wi
          obtain ⟨i, u0, u2, u3, hi, hgi, rfl, hI, hko⟩ := hrel
          have HKO := hidIt hko
          have II := hidIt hI
          have HGI := hidIt hgi
          clear hko hI hgi
          by_cases hil : i < y.cs.length
          · have hil' : (i : Int) < (y.cs.length : Int) := by omega
            obtain ⟨tb, qo, rfl, hqb, hQ⟩ : ∃ tb qo, a0 = some ⟨tb, qo, none⟩ ∧ tb < wr.heap.size ∧ ∀ j (hj : j < y.cs.length), At10 wr tb (qo + j * 10) y.cs[j] := by
              rcases hcs with h | h
              · rw [h] at hil; simp at hil
              · exact h
            have hbi : Below wr.heap.size wr wi := HB3.out.trans (II.out.below.mono (by omega))
            obtain ⟨r0, r1, r2, r3, r4, r5, r6, r7, r8, r9⟩ := (hQ i hil).of (fun q => hbi.cell (p := ⟨tb, q, none⟩) hqb)
            obtain ⟨c, hc⟩ : ∃ c, y.cs[i] = c := ⟨_, rfl⟩
            rw [hc] at r0 r1 r2 r3 r4 r5 r6 r7 r8 r9
            have HCC := hidIt hc
            have hML : ((y.cs.take i).map (begC what)).length = i := by simp; omega
            have hRL : (List.replicate i (-1 : Int)).length = i := by simp
            have hM1 : (y.cs.take (i + 1)).map (begC what) = (y.cs.take i).map (begC what) ++ [begC what c] := by rw [List.take_succ_eq_append_getElem hil, hc]; simp
            have hR1 : List.replicate (i + 1) (-1 : Int) = List.replicate i (-1) ++ [-1] := List.replicate_succ'
            generalize (y.cs.take i).map (begC what) = M at II hML hM1
            generalize List.replicate i (-1 : Int) = R at II hRL hR1
            have HM1 := hidIt hM1
            have HR1 := hidIt hR1
            have HML := hidIt hML
            have HRL := hidIt hRL
            clear hc hQ hM1 hR1 hML hRL
            go_wp2_with fail
            clear r0 r1 r2 r3 r4 r5 r6 r7 r8 r9
            refine (spec_begin what c _ (new_wh HK.out)).mono ?_
            rintro e wa ⟨rfl, ba⟩
            have I4 := hidIt ((II.out.grow ((Below.refl _ _).alloc (Nat.le_refl _) _)).grow ba)
            obtain ⟨b, hbc⟩ : ∃ b, begC what c = b := ⟨_, rfl⟩
            rw [hbc]
            have HBC := hidIt hbc
            have hsa : wr.heap.size + 1 < wa.heap.size := I4.out.ti.hb.2
            clear ba hbc
            by_cases hz : b.k = 0
            · have Y := HX0.out.below ((FL.out.below.trans (HB3.out.mono hsz)).trans (I4.out.below.mono (by omega)))
              have m0 := Y.2.1 0
              have m1 := Y.2.1 1
              have m2 := Y.2.1 2
              have m3 := Y.2.1 3
              have m4 := Y.2.1 4
              have q1 := Y.2.2
              have qlt := Y.1
              simp at m0 m1 m2 m3 m4
              have HZ := hidIt hz
              have hno : ¬ cnOkN what size ts := fun h => by
                have h1 := h.2.2 k hlt
                rw [HY.out] at h1
                by_cases hb : thOkN what y
                · have h2 := hb.2 i hil
                  rw [HCC.out, HBC.out] at h2
                  exact h2 HZ.out
                · rw [thOkB_no hb] at h1; cases h1
              have hB := hidIt (cnOkB_no hno)
              have hT := hidIt (cwNewC_no (full := full) hno)
              have hb4 : Below w.heap.size w wa := HBW.out.trans (((FL.out.below.trans (HB3.out.mono hsz)).trans (I4.out.below.mono (by omega))).mono (by omega))
              clear Y hno hz
              have hz' : (b.k == 0) = true := by simpa using HZ.out
              go_wp2
              refine bodyPost_ret (v := .tuple #[.agg #[.int .i64 0, .int .i64 0, .slice none 0 0, .slice none 0 0, .int .i64 0], .bool false]) (by simp [results, Try.results5, go_sem, m0, m1, m2, m3, m4, qlt]) rfl ⟨.slice none 0 0, .slice none 0 0, by rw [hB.out, hT.out]; rfl, ?_⟩
              rw [hT.out]
              exact ⟨[], zero_owns _, List.nodup_nil, by simp, by repeat (first | (with_reducible exact hb4) | (with_reducible refine Below.setCell ?_ (by simp) _) | (with_reducible refine Below.alloc ?_ (by simp <;> omega) _))⟩
            · have HZ := hidIt hz
              have hz' : (b.k == 0) = false := by simpa using hz
              obtain ⟨ua, uc, rfl, -⟩ := (Rw.of_owns I4.out.ti.c).form
              obtain ⟨va, vc, rfl, -⟩ := (Rw.of_owns I4.out.ti.r).form
              obtain ⟨xa, xc, rfl, -⟩ := (Rw.of_owns I4.out.ti.s).form
              have e0 := I4.out.box.2.1 0
              simp at e0
              clear hz
              go_wp2_with (first | (at_builtin; refine wpList_append_lies _ rfl _ _ 44 rfl (wr.heap.size + 1) 48 i0 (.agg #[.int .i64 clZero.k, .int .i64 clZero.a, .int .i64 clZero.x, .int .i64 clZero.pc, .int .i64 clZero.p, .int .i64 clZero.c, .int .i64 clZero.w, .int .i64 clZero.r, .int .i64 clZero.v, .bool clZero.d]) 10 80 Try.underlying44 hi0 hp0 hp1 hp2 rfl (by omega) (.slice ua M.length uc) _ (tens M) rfl ((I4.out.ti.c.alloc _).alloc _) _ 1 1 (ten b) rfl rfl (World.news_of_block (at_newN (by simp))) (ten_one b) (by omega) (by unfold maxLen; have := HML.out; omega) (by have := HML.out; omega) (by simp <;> omega) _ rfl ?_; intro g6 cap6 w6 hown hgrow hat hlt6; have BX := box_far (I4.out.grow (((Below.refl _ _).alloc (Nat.le_refl _) _).alloc (by simp) _)).box hgrow I4.out.ti.nb.1; have p0 := BX.2.1 0; have p1 := BX.2.1 1; have p2 := BX.2.1 2; have p3 := BX.2.1 3; have pf := BX.2.2; simp at p0 p1 p2 p3; have HI6 := hidIt ((I4.out.grow (((Below.refl _ _).alloc (Nat.le_refl _) _).alloc (by simp) _)).appC hown hgrow hat); have hs6 := HI6.out.ti.hb.2; simp only [World.size_setCell] at hs6; clear BX hown hgrow hat) | (at_builtin; go_loud (refine wpList_append_lies _ rfl _ _ 24 rfl (wr.heap.size + 1) 3 i1 (.int .i64 0) 1 8 Try.underlying24 hi1 hy0 hy1 hy2 rfl (by omega) (.slice va R.length vc) _ (ints R) rfl (HI6.out.ti.r.alloc _) _ 1 1 ([.int .i64 (-1)]) rfl rfl (World.news_of_block (at_newN (by simp))) (by intro u hu; simp at hu; subst hu; rfl) (by omega) (by unfold maxLen; have := HRL.out; omega) (by have := HRL.out; omega) (by simp <;> omega) _ rfl ?_); intro g7 cap7 w7 hown hgrow hat hlt7; have BX := box_far (HI6.out.grow ((Below.refl _ _).alloc (Nat.le_refl _) _)).box hgrow HI6.out.ti.nb.2.1; have p0 := BX.2.1 0; have p1 := BX.2.1 1; have p2 := BX.2.1 2; have p3 := BX.2.1 3; have pf := BX.2.2; simp at p0 p1 p2 p3; have HI7 := hidIt ((HI6.out.grow ((Below.refl _ _).alloc (Nat.le_refl _) _)).appR hown hgrow hat); have hs7 := HI7.out.ti.hb.2; simp only [World.size_setCell] at hs7; clear BX hown hgrow hat) | (at_builtin; go_loud (refine wpList_append_lies _ rfl _ _ 24 rfl (wr.heap.size + 1) 3 i1 (.int .i64 0) 1 8 Try.underlying24 hi1 hy0 hy1 hy2 rfl (by omega) (.slice xa R.length xc) _ (ints R) rfl (HI7.out.ti.s.alloc _) _ 1 1 ([.int .i64 (-1)]) rfl rfl (World.news_of_block (at_newN (by simp))) (by intro u hu; simp at hu; subst hu; rfl) (by omega) (by unfold maxLen; have := HRL.out; omega) (by have := HRL.out; omega) (by simp <;> omega) _ rfl ?_); intro g8 cap8 w8 hown hgrow hat hlt8; have BX := box_far (HI7.out.grow ((Below.refl _ _).alloc (Nat.le_refl _) _)).box hgrow HI7.out.ti.nb.2.2; have p0 := BX.2.1 0; have p1 := BX.2.1 1; have p2 := BX.2.1 2; have p3 := BX.2.1 3; have pf := BX.2.2; simp at p0 p1 p2 p3; have HI8 := hidIt ((HI7.out.grow ((Below.refl _ _).alloc (Nat.le_refl _) _)).appS hown hgrow hat); have hs8 := HI8.out.ti.hb.2; simp only [World.size_setCell] at hs8; clear BX hown hgrow hat))
              go_roundg (y.cs.length - (i + 1))
              case measure => rw [HGI.out]; omega
              case rel =>
                refine ⟨i + 1, .slice (some ⟨g6, 0, none⟩) (M.length + 1) cap6, .slice (some ⟨g7, 0, none⟩) (R.length + 1) cap7, .slice (some ⟨g8, 0, none⟩) (R.length + 1) cap8, by omega, rfl, by go_num, ?_, ?_⟩
                · rw [HM1.out, HR1.out, HBC.out]
                  exact HI8.out
                · intro j hj hjk
                  by_cases ej : j = i
                  · subst ej; rw [HCC.out, HBC.out]; exact HZ.out
                  · exact HKO.out j hj (by omega)
          · obtain rfl : i = y.cs.length := by omega
            have hby : Hid (Below wr.heap.size wr wi) := HB3.out.trans (II.out.below.mono (by omega))
            have HBI := hby
            clear hby
            have hwi : wr.heap.size ≤ wi.heap.size := HBI.out.size
            have FI := hidIt (FL.out.grow HBI.out)
            have hyes : thOkN what y := ⟨h12, fun j h => HKO.out j h h⟩
            have hT : thNewT what ts[k] = thMade what y := by rw [HY.out]; unfold thNewT; rw [thOkB_yes hyes]; simp
            have HTB : Hid (thOkB what ts[k] = true) := by rw [HY.out]; exact thOkB_yes hyes
            obtain ⟨fp, o, nd, gg, -⟩ := II.out.ti.owns (a := 0)
            have hMe : thMade what y = ⟨(y.cs.take y.cs.length).map (begC what), 0, List.replicate y.cs.length (-1), List.replicate y.cs.length (-1)⟩ := by simp [thMade]
            rw [← hMe] at o
            generalize (y.cs.take y.cs.length).map (begC what) = M at II
            generalize List.replicate y.cs.length (-1 : Int) = R at II
            have HTT := hidIt hT
            have HO := hidIt o
            have HND := hidIt nd
            have HGG : Hid (∀ x ∈ fp, wr.heap.size ≤ x) := fun x hx => by have := gg x hx; omega
            obtain ⟨ua, uc, rfl, -⟩ := (Rw.of_owns II.out.ti.c).form
            obtain ⟨va, vc, rfl, -⟩ := (Rw.of_owns II.out.ti.r).form
            obtain ⟨xa, xc, rfl, -⟩ := (Rw.of_owns II.out.ti.s).form
            obtain ⟨ta, tc, rfl, -⟩ := (Rw.of_owns FL.out.own).form
            have s0 := II.out.box.2.1 0
            have s1 := II.out.box.2.1 1
            have s2 := II.out.box.2.1 2
            have s3 := II.out.box.2.1 3
            have t3 := FI.out.box.2.1 3
            have l0 := II.out.box.1
            have l1 := FI.out.box.1
            have l2 := FI.out.below.size
            simp at s0 s1 s2 s3 t3
            clear o nd gg hT hMe hyes
            go_wp2_with (at_builtin; go_loud (refine wpList_append_lies _ rfl _ _ 27 rfl W1.heap.size 46 i2 (.agg #[.slice none 0 0, .int .i64 0, .slice none 0 0, .slice none 0 0]) 4 80 Try.underlying27 hi2 hx0 hx1 hx2 rfl (by omega) (.slice ta k tc) _ xs rfl (FI.out.own.alloc _) _ 1 1 [.slice ua M.length uc, .int .i64 0, .slice va R.length vc, .slice xa R.length xc] rfl rfl (World.news_of_block (at_newN (by simp))) (by intro u hu; simp at hu; rcases hu with rfl | rfl | rfl | rfl <;> rfl) (by omega) (by unfold maxLen; omega) (by omega) (by simp <;> omega) _ rfl ?_); intro g6 cap6 w6 hown hgrow hat hlt6; have BX := box_far (FI.out.grow ((Below.refl _ _).alloc (Nat.le_refl _) _)).box hgrow FI.out.nb; have p0 := BX.2.1 0; have p1 := BX.2.1 1; have p2 := BX.2.1 2; have p3 := BX.2.1 3; have p4 := BX.2.1 4; have pf := BX.2.2; have hm6 := BX.1; simp at p0 p1 p2 p3 p4; have HN := hidIt (FL.out.app (HBI.out.trans ((Below.refl wi.heap.size wi).alloc (Nat.le_refl _) _ |>.mono hwi)) hlt HTT.out (HO.out.below ((Below.refl _ _).alloc (Nat.le_refl _) _)) HND.out HGG.out hown hgrow hat); clear BX hown hgrow hat)
            go_roundg (ts.length - (k + 1))
            case measure => rw [HG.out]; omega
            case rel =>
              refine ⟨k + 1, _, _, _, by omega, rfl, by go_num, HN.out, ?_⟩
              intro j hj hjk
              by_cases ej : j = k
              · subst ej; exact HTB.out
              · exact HOK.out j hj (by omega)
      · have h12' : (12 : Int) < (y.cs.length : Int) := by omega
        have Y := HX0.out.below FL.out.below
        have m0 := Y.2.1 0
        have m1 := Y.2.1 1
        have m2 := Y.2.1 2
        have m3 := Y.2.1 3
        have m4 := Y.2.1 4
        have q1 := Y.2.2
        have qlt := Y.1
        simp at m0 m1 m2 m3 m4
        have hno : ¬ cnOkN what size ts := fun h => by have h1 := h.2.2 k hlt; rw [HY.out, thOkB_no (fun g => h12 g.1)] at h1; cases h1
        have hB := hidIt (cnOkB_no hno)
        have hT := hidIt (cwNewC_no (full := full) hno)
        have HB4 := hidIt hbw
        clear Y hno h12 hcs
        go_wp2
        refine bodyPost_ret (v := .tuple #[.agg #[.int .i64 0, .int .i64 0, .slice none 0 0, .slice none 0 0, .int .i64 0], .bool false]) (by simp [results, Try.results5, go_sem, m0, m1, m2, m3, m4, qlt]) rfl ⟨.slice none 0 0, .slice none 0 0, by rw [hB.out, hT.out]; rfl, ?_⟩
        rw [hT.out]
        exact ⟨[], zero_owns _, List.nodup_nil, by simp, by repeat (first | (with_reducible exact HB4.out) | (with_reducible refine Below.setCell ?_ (by simp) _) | (with_reducible refine Below.alloc ?_ (by simp <;> omega) _))⟩
    · obtain rfl : k = ts.length := by omega
      obtain ⟨ta, tc, rfl, -⟩ := (Rw.of_owns FL.out.own).form
      have c := FL.out.box.2.1
      have e0 := c 0
      have e1 := c 1
      have e2 := c 2
      have e3 := c 3
      have e4 := c 4
      simp at e0 e1 e2 e3 e4
      have Y := HX0.out.below FL.out.below
      have m0 := Y.2.1 0
      have m1 := Y.2.1 1
      have m2 := Y.2.1 2
      have m3 := Y.2.1 3
      have m4 := Y.2.1 4
      have q1 := Y.2.2
      have qlt := Y.1
      simp at m0 m1 m2 m3 m4
      have hyes : cnOkN what size ts := ⟨HK.out, hn, fun j h => HOK.out j h h⟩
      have hB := hidIt (cnOkB_yes hyes)
      have hT := hidIt (cwNewC_yes (full := full) hyes)
      have hb4 := hidIt (HBW.out.trans (FL.out.below.mono (by omega)) : Below w.heap.size w wr)
      clear Y c hyes
      go_wp2
      refine bodyPost_ret (v := .tuple #[.agg #[.int .i64 what, .int .i64 size, .slice a1 L.length c1, .slice ta ts.length tc, .int .i64 0], .bool true]) (by simp [results, Try.results5, go_sem, m0, m1, m2, m3, m4]) rfl ⟨.slice a1 L.length c1, .slice ta ts.length tc, by rw [hB.out, hT.out]; rfl, ?_⟩
      rw [hT.out]
      obtain ⟨fp, o, nd, gg⟩ := FL.out.owns (full := full) (by rw [hL]; exact HO1.out) nd1 HL1.out hz1
      have hp : ¬ w.heap.size ∈ fp := fun h => by have := gg _ h; omega
      exact ⟨_, ((((o.set hp).set hp).set hp).set hp).set hp, nd, fun x hx => by have := gg x hx; omega, ((((hb4.out.setCell (Nat.le_refl _) _).setCell (Nat.le_refl _) _).setCell (Nat.le_refl _) _).setCell (Nat.le_refl _) _).setCell (Nat.le_refl _) _⟩

end Go.Proofs.Ytpfofjcfaelocaa
