/- A new crew, by the program: an object that is good, at most six threads. -/
import Derived.Test.YtpfofjcfaelocaaRows
import Derived.WalkKit
import Derived.ProofKit
import Derived.OpenShut
import Derived.ShutString
import Derived.Test.YtpfofjcfaelocaaCrewNewC
namespace Go.Proofs.Ytpfofjcfaelocaa
open Go.ChangeShapes Go.WideShapes Go.ChangeAt Go.RowKit
set_option linter.unusedVariables false

set_option maxHeartbeats 3200000 in
set_option maxRecDepth 100000 in
theorem impl_crewnew_some (what size : Int) (full : Bool) (xt : Option Addr) (ts : List Th) (xd : Nat) (w : World) (hn : ts.length ≤ 6) (hk : objOk what size = true) (hf : ∀ j (hj : j < ts.length), ThFit ts[j]) (R4 : Array Value) (hR4 : R4.size = ts.length * 4)
    (hA : ts = [] ∨ ∃ b off, xt = some ⟨b, off, none⟩ ∧ b < w.heap.size ∧ ∀ j (hj : j < ts.length), ∃ v0 v2 v3, At4 w b (off + j * 4) v0 (.int .i64 ts[j].at_) v2 v3 ∧ ThIn w v0 v2 v3 ts[j])
    (hm : ∀ W : World, (Instr.makeSlice 27 (.int .i64 (ts.length : Int)) (.int .i64 (ts.length : Int))).run Try.prog W = .ok (.slice (some ⟨W.heap.size, 0, none⟩) ts.length ts.length) (W.alloc (.cells R4 46))) :
    Calls Try.prog 7 #[.int .i64 what, .int .i64 size, .bool full, .slice xt ts.length xd] w fun e w' => ∃ vm vt, e = .returned (.tuple #[.agg #[.int .i64 (cwNewC what size full ts).what, .int .i64 (cwNewC what size full ts).size, vm, vt, .int .i64 (cwNewC what size full ts).clock], .bool (cnOkB what size ts)]) ∧ CwNew w w' vm vt (cwNewC what size full ts) := by
  have HK := hidIt hk
  have HA := hidIt hA
  have HF := hidIt hf
  have HR4 := hidIt hR4
  clear hk hA hf hR4
  go_enter Try.func7, Try.ntmps7
  go_wp2_with fail
  have X0 := Bx.new w #[.int .i64 0, .int .i64 0, .slice none 0 0, .slice none 0 0, .int .i64 0] 29
  have b0 : Below w.heap.size w (w.alloc (.cells #[.int .i64 0, .int .i64 0, .slice none 0 0, .slice none 0 0, .int .i64 0] 29)) := (Below.refl _ _).alloc (Nat.le_refl _) _
  refine (impl_newmem what size full _).mono ?_
  rintro e w1 ⟨v1, rfl, f1, o1, nd1, g1, b1⟩
  rw [HK.out]
  obtain ⟨a1, c1, rfl, -⟩ := o1.rd.form
  go_wp2_with fail
  generalize hL : objL what size full = L at o1 ⊢
  generalize hW : World.alloc w1 _ = W1
  have Y : Bx W1 w.heap.size #[.int .i64 0, .int .i64 0, .slice none 0 0, .slice none 0 0, .int .i64 0] ∧ Bx W1 w1.heap.size #[.slice a1 L.length c1] ∧ Below w.heap.size w W1 ∧ W1.heap.size = w1.heap.size + 1 ∧ IntsO W1 (.slice a1 L.length c1) L f1 ∧ ∀ g ∈ f1, w.heap.size < g ∧ g < W1.heap.size := by
    rw [← hW]
    have z1 := b1.size
    have l1 := o1.lt
    have e := (Below.refl w1.heap.size w1).alloc (Nat.le_refl _) (.cells #[.slice a1 L.length c1] 26)
    exact ⟨(X0.below b1).alloc _, Bx.new _ _ _, (below_step b0 b1).alloc (by simp at z1; omega) _, by simp, o1.below e, fun g hg => by have h1 := g1 g hg; have h2 := l1 g hg; simp at h1 ⊢; omega⟩
  clear hW X0 b0 b1 o1 g1
  obtain ⟨X0, X1, bW, zW, O1, l1⟩ := Y
  have hz1 : w.heap.size ≤ w1.heap.size := by have := bW.size; have := X0.1; omega
  have k0 := X1.2.1 0
  simp at k0
  go_cut [12] from 30 to 37 (fun x12 wc => NewC W1 what size (.slice a1 L.length c1) ts.length R4 x12 wc)
  case first =>
    have q0 : w1.heap.size < W1.heap.size := by omega
    have h0 : Below W1.heap.size W1 W1 ∧ W1.cell? ⟨w1.heap.size, 0, none⟩ = some (.slice a1 L.length c1) ∧ w1.heap.size < W1.heap.size := ⟨Below.refl _ _, k0, q0⟩
    go_region_held3 (fun W => Below W1.heap.size W1 W ∧ W.cell? ⟨w1.heap.size, 0, none⟩ = some (.slice a1 L.length c1) ∧ w1.heap.size < W1.heap.size)
      (first | ((repeat (first | (with_reducible assumption) | (with_reducible refine nc_drew ?_) | (with_reducible refine nc_al ?_ _) | (with_reducible refine nc_set ?_ (by simp <;> omega) _))); done)) (fail)
    all_goals
      go_wp2_with fail
      go_meet
      apply newC_of
      · first | exact ch2_0 zW | exact ch2_1 zW
      · first | exact ch2_0 zW | exact ch2_1 zW
      · exact ch2_b
      · omega
      · omega
      · omega
  case rest =>
    rename World => W2
    obtain ⟨m, g, rfl, G1, G2, G3, bC, Xm, Xg⟩ := hcut
    have HC : Hid (CrewAt what size (.slice a1 L.length c1) ts m g 0 (fun _ => []) W1 W2) := ⟨bC, Xm, fun j _ h => by omega, fun j _ h => ⟨_, (Xg.2.1 j).trans (Array.getElem?_eq_getElem (by rw [HR4.out]; exact h))⟩, Xg.2.2, by simp, by simp, G2, Xg.1, G1, G3⟩
    have HX0 := hidIt X0
    have HBW := hidIt bW
    have HO1 := hidIt O1
    have HL1 := hidIt l1
    clear Xm Xg bC X0 X1 bW hm HR4 O1 l1 k0
    go_wp2
    go_loopg [39] ts.length (fun gk si wr => ∃ k : Nat, ∃ fps, k ≤ ts.length ∧ gk = ts.length - k ∧ si = .int .i64 k ∧ CrewAt what size (.slice a1 L.length c1) ts m g k fps W1 wr ∧ ∀ j (h : j < ts.length), j < k → thOkB what ts[j] = true)
    case atStart => exact ⟨0, _, Nat.zero_le _, rfl, rfl, HC.out, fun j _ h => by omega⟩
    case round =>
      obtain ⟨k, fps, hk, hgk, rfl, hF, hok⟩ := hrel
      have HOK := hidIt hok
      have FL := hidIt hF
      have HG := hidIt hgk
      have hsz := hF.below.size
      clear hok hF hgk
      by_cases hlt : k < ts.length
      · have hlt' : (k : Int) < (ts.length : Int) := by omega
        obtain ⟨cb, co, rfl, hcb, hA⟩ : ∃ cb co, xt = some ⟨cb, co, none⟩ ∧ cb < w.heap.size ∧ ∀ j (hj : j < ts.length), ∃ v0 v2 v3, At4 w cb (co + j * 4) v0 (.int .i64 ts[j].at_) v2 v3 ∧ ThIn w v0 v2 v3 ts[j] := by
          rcases HA.out with h | h
          · rw [h] at hlt; simp at hlt
          · exact h
        have hbw : Below w.heap.size w wr := HBW.out.trans (FL.out.below.mono (by have := HBW.out.size; omega))
        obtain ⟨v0, v2, v3, h4, h5⟩ := hA k hlt
        obtain ⟨r0, r1, r2, r3⟩ := h4.of (fun q => hbw.cell (p := ⟨cb, q, none⟩) hcb)
        have H5 := hidIt (h5.below hbw)
        have HFit := hidIt (HF.out k hlt)
        clear h4 h5 hA
        obtain ⟨y, hy⟩ : ∃ y, ts[k] = y := ⟨_, rfl⟩
        rw [hy] at r1 H5 HFit
        have HY := hidIt hy
        clear hy
        obtain ⟨a0, d0, rfl, -⟩ := H5.out.cs.form
        obtain ⟨a2, d2, rfl, -⟩ := H5.out.bs.form
        obtain ⟨a3, d3, rfl, -⟩ := H5.out.es.form
        go_wp2_with fail
        clear r0 r1 r2 r3
        generalize hW : World.alloc wr _ = W3
        have b3 : Below wr.heap.size wr W3 := by rw [← hW]; exact (Below.refl _ _).alloc (Nat.le_refl _) _
        have XN : Bx W3 wr.heap.size #[.slice a0 y.cs.length d0, .int .i64 y.at_, .slice a2 y.bs.length d2, .slice a3 y.es.length d3] := by rw [← hW]; exact Bx.new _ _ _
        clear hW
        have C3 := hidIt ((FL.out.grow b3).grow (Below.refl _ _).drew)
        have HT := hidIt ((H5.out.below b3).below (Below.refl _ _).drew)
        have n1 : m < W3.drew.heap.size := C3.out.box.1
        have n2 : wr.heap.size < W3.drew.heap.size := XN.1
        have n3 : wr.heap.size ≠ g := by have := FL.out.low.2.1; omega
        have h8 : W3.cell? ⟨m, 3, none⟩ = some (.slice (some ⟨g, 0, none⟩) ts.length ts.length) ∧ W3.cell? ⟨wr.heap.size, 0, none⟩ = some (.slice a0 y.cs.length d0) ∧ W3.cell? ⟨wr.heap.size, 1, none⟩ = some (.int .i64 y.at_) ∧ W3.cell? ⟨wr.heap.size, 2, none⟩ = some (.slice a2 y.bs.length d2) ∧ W3.cell? ⟨wr.heap.size, 3, none⟩ = some (.slice a3 y.es.length d3) := by
          have c := (FL.out.grow b3).box.2.1 3
          have c0 := XN.2.1 0
          have c1 := XN.2.1 1
          have c2 := XN.2.1 2
          have c3 := XN.2.1 3
          simp at c c0 c1 c2 c3
          exact ⟨c, c0, c1, c2, c3⟩
        have hCALL := impl_newthread what _ _ _ y W3.drew (new_wh HK.out) HFit.out HT.out
        obtain ⟨T, hT⟩ : ∃ T, thNewT what y = T := ⟨_, rfl⟩
        obtain ⟨bb, hbb⟩ : ∃ bb, thOkB what y = bb := ⟨_, rfl⟩
        rw [hT, hbb] at hCALL
        have HCALL := hidIt hCALL
        have HTT : Hid (thNewT what ts[k] = T) := by rw [HY.out]; exact hT
        have HBB : Hid (thOkB what ts[k] = bb) := by rw [HY.out]; exact hbb
        clear hCALL hT hbb XN b3 HT H5 HFit
        go_region_held3 (fun W => W.cell? ⟨m, 3, none⟩ = some (.slice (some ⟨g, 0, none⟩) ts.length ts.length) ∧ W.cell? ⟨wr.heap.size, 0, none⟩ = some (.slice a0 y.cs.length d0) ∧ W.cell? ⟨wr.heap.size, 1, none⟩ = some (.int .i64 y.at_) ∧ W.cell? ⟨wr.heap.size, 2, none⟩ = some (.slice a2 y.bs.length d2) ∧ W.cell? ⟨wr.heap.size, 3, none⟩ = some (.slice a3 y.es.length d3))
          (first | exact s8_grow (by assumption) (Below.refl _ _).drew n1 n2 | exact s8_grow (by assumption) bt n1 n2 | exact s8_set (s8_set (s8_set (s8_set (by assumption) _ _ G3 n3) _ _ G3 n3) _ _ G3 n3) _ _ G3 n3)
          (first | (go_at_call 18; refine HCALL.out.mono ?_; rintro e wa ⟨v0', v2', v3', rfl, fp, o, nd, gg, bt⟩; obtain ⟨a0', d0', rfl, -⟩ := o.rd.cs.form; obtain ⟨a2', d2', rfl, -⟩ := o.rd.bs.form; obtain ⟨a3', d3', rfl, -⟩ := o.rd.es.form; have KA := hidIt (C3.out.put hlt HTT.out bt o nd gg); have hx : ∀ i, i < 4 → ∃ z, wa.cell? ⟨g, k * 4 + i, none⟩ = some z := (fun i hi => by obtain ⟨z, hz⟩ := C3.out.todo (k * 4 + i) (by omega) (by omega); exact ⟨z, below_cell bt C3.out.low.2.1 hz⟩); obtain ⟨x0, s0⟩ := hx 0 (by omega); obtain ⟨x1, s1⟩ := hx 1 (by omega); obtain ⟨x2, s2⟩ := hx 2 (by omega); obtain ⟨x3, s3⟩ := hx 3 (by omega); rw [Nat.add_zero] at s0; have fz : ∀ j, wa.frozen? ⟨g, j, none⟩ = false := (fun j => below_frozen bt C3.out.low.2.1 (C3.out.free j)); clear hx o nd gg))
        all_goals
          have F4 := KA.out
          unfold put4 at F4
          generalize hW4 : World.setCell (World.setCell (World.setCell (World.setCell wa _ _) _ _) _ _) _ _ = W4 at F4 ⊢
          have HF4 := hidIt F4
          clear F4 hW4 KA s0 s1 s2 s3 fz bt C3 h8 n1 n2
          have hs4 := HF4.out.below.size
          cases bb
          · have Y := HX0.out.below HF4.out.below
            have m0 := Y.2.1 0
            have m1 := Y.2.1 1
            have m2 := Y.2.1 2
            have m3 := Y.2.1 3
            have m4 := Y.2.1 4
            have q1 := Y.2.2
            simp at m0 m1 m2 m3 m4
            have hno : ¬ cnOkN what size ts := fun h => by have h1 := h.2.2 k hlt; rw [HBB.out] at h1; cases h1
            have hB := hidIt (cnOkB_no hno)
            have hT := hidIt (cwNewC_no (full := full) hno)
            have hb4 : Below w.heap.size w W4 := HBW.out.trans (HF4.out.below.mono (by have := HBW.out.size; omega))
            clear Y hno
            go_wp2
            refine bodyPost_ret (v := .tuple #[.agg #[.int .i64 0, .int .i64 0, .slice none 0 0, .slice none 0 0, .int .i64 0], .bool false]) (by simp [results, Try.results7, go_sem, m0, m1, m2, m3, m4]) rfl ⟨.slice none 0 0, .slice none 0 0, by rw [hB.out, hT.out]; rfl, ?_⟩
            rw [hT.out]
            exact ⟨[], zero_owns _, List.nodup_nil, by simp, ((((hb4.setCell (Nat.le_refl _) _).setCell (Nat.le_refl _) _).setCell (Nat.le_refl _) _).setCell (Nat.le_refl _) _).setCell (Nat.le_refl _) _⟩
          · go_wp2
            go_roundg (ts.length - (k + 1))
            case measure => rw [HG.out]; omega
            case rel =>
              refine ⟨k + 1, _, by omega, rfl, by go_num, HF4.out, ?_⟩
              intro j hj hjk
              by_cases ej : j = k
              · subst ej; exact HBB.out
              · exact HOK.out j hj (by omega)
      · obtain rfl : k = ts.length := by omega
        have c := FL.out.box.2.1
        have e0 := c 0
        have e1 := c 1
        have e2 := c 2
        have e3 := c 3
        have e4 := c 4
        simp at e0 e1 e2 e3 e4
        have Y := HX0.out.below FL.out.below
        have m0 := Y.2.1 0
        have m1 := Y.2.1 1
        have m2 := Y.2.1 2
        have m3 := Y.2.1 3
        have m4 := Y.2.1 4
        have q1 := Y.2.2
        simp at m0 m1 m2 m3 m4
        have hyes : cnOkN what size ts := ⟨HK.out, hn, fun j h => HOK.out j h h⟩
        have hB := hidIt (cnOkB_yes hyes)
        have hT := hidIt (cwNewC_yes (full := full) hyes)
        have hlw : w.heap.size < W1.heap.size := HX0.out.1
        have hfp := hidIt (FL.out.fp (s := w.heap.size) nd1 HL1.out hlw)
        have hb4 : Below w.heap.size w wr := HBW.out.trans (FL.out.below.mono (by omega))
        clear Y c hyes
        go_wp2
        refine bodyPost_ret (v := .tuple #[.agg #[.int .i64 what, .int .i64 size, .slice a1 L.length c1, .slice (some ⟨g, 0, none⟩) ts.length ts.length, .int .i64 0], .bool true]) (by simp [results, Try.results7, go_sem, m0, m1, m2, m3, m4]) rfl ⟨.slice a1 L.length c1, .slice (some ⟨g, 0, none⟩) ts.length ts.length, by rw [hB.out, hT.out]; rfl, ?_⟩
        rw [hT.out]
        have hp : ¬ w.heap.size ∈ f1 ++ (g :: (List.range ts.length).flatMap fps) := fun h => by have := hfp.out.2 _ h; omega
        have o := FL.out.owns (full := full) (by rw [hL]; exact HO1.out)
        exact ⟨_, ((((o.set hp).set hp).set hp).set hp).set hp, hfp.out.1, fun x hx => by have := hfp.out.2 x hx; omega, ((((hb4.setCell (Nat.le_refl _) _).setCell (Nat.le_refl _) _).setCell (Nat.le_refl _) _).setCell (Nat.le_refl _) _).setCell (Nat.le_refl _) _⟩

end Go.Proofs.Ytpfofjcfaelocaa
