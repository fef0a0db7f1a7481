/- The walk of the law of a stack that is used by one caller. -/
import Derived.Test.YtabcmnoadoebpaaRows
import Derived.WalkKit
import Derived.ProofKit
import Derived.OpenShut
import Derived.ShutString
import Derived.Test.YtabcmnoadoebpaaStStepSome
import Derived.Test.YtabcmnoadoebpaaStItemsImpl
import Derived.Test.YtabcmnoadoebpaaDrawOut
import Derived.Test.YtabcmnoadoebpaaSameInts
import Derived.Test.YtabcmnoadoebpaaStOneSk
import Derived.Deep.LoopGhost
import Derived.Deep.Light
import Derived.Deep.AppendLies
namespace Go.Proofs.Ytabcmnoadoebpaa
open Go.ChangeShapes Go.WideShapes Go.ChangeAt Go.RowKit
set_option linter.unusedVariables false

theorem stNewL_full (N : Nat) (h1 : 1 ≤ N) (h2 : N ≤ 16) : stNewL N true = stRow N N := by
  unfold stNewL
  rw [if_pos (show szB N = true from decide_eq_true ⟨by omega, by omega⟩)]
  simp
set_option maxHeartbeats 16000000 in
set_option maxRecDepth 100000 in
theorem walk_StackOne (a : Option Addr) (len cap : Nat) (w : World) (hB : Bytes w w.heap.size a len) :
    Calls Try.prog 3 #[.slice a len cap] w fun e w' => e = .returned (.bool true) ∧ Below w.heap.size w w' := by
  obtain ⟨i0, hi0, hz0, hz1, hz2⟩ := info_parts info3
  have hlen := hB.1
  have HB := hidIt hB
  clear hB
  have hlen' : ¬ (1048576 : Int) < (len : Int) := by omega
  go_enter Try.func3, Try.ntmps3
  go_wp2_with fail
  refine (make_num_small _ a len cap 5 HB.out (by omega) (by omega)).mono ?_
  rintro e w1 ⟨x, rfl, x1, x2, b1⟩
  obtain ⟨N, hN⟩ : ∃ N : Nat, 1 + x = (N : Int) := ⟨(1 + x).toNat, by omega⟩
  have n1 : 1 ≤ N := by omega
  have n2 : N ≤ 5 := by omega
  have B1 := hidIt b1
  have z1 := b1.size
  have hz : szB N = true := decide_eq_true ⟨by omega, by omega⟩
  have HZ := hidIt hz
  have HI := hidIt (Inv.full N n1 (by omega))
  clear b1 hz
  go_wp2_with fail
  refine (impl_stnew N true _).mono ?_
  rintro e w2 ⟨v2, rfl, r2, b2⟩
  rw [HZ.out]
  rw [stNewL_full N n1 (by omega)] at r2
  have B2 := hidIt (B1.out.trans (b2.mono z1))
  have z2 := b2.size
  have R2 := hidIt r2
  obtain ⟨a2, c2, rfl⟩ := r2.form
  clear r2 b2 B1
  go_wp2_with fail
  refine (impl_stitems_cap N _ _ _ _ _ (by rw [stRow_len]; omega) (fun z hz => by have := HI.out.bd z hz; omega) (by simp) (R2.out.alloc (Nat.le_refl _) _)).mono ?_
  rintro e w3 ⟨v3, rfl, k3, r3, b3⟩
  rw [HI.out.items] at r3
  have z3 := b3.size
  simp at z3
  have m3 : w3.cell? ⟨w2.heap.size, 0, none⟩ = some (.slice a2 (stRow N N).length c2) ∧ w3.frozen? ⟨w2.heap.size, 0, none⟩ = false := ⟨below_cell b3 (by simp) (by simp [go_sem]), below_frozen b3 (by simp) (by simp [go_sem])⟩
  have B3 := hidIt ((B2.out.alloc (by omega) _).trans (b3.mono (by simp; omega)))
  have R3 := hidIt ((R2.out.alloc (Nat.le_refl _) (.cells #[.slice a2 (stRow N N).length c2] 26)).below (b3.mono (by simp)))
  obtain ⟨gw, cw, rfl, gw1, gw2, gw3, -⟩ := r3.ofSome (by simp; omega)
  simp at gw1
  have k3 : N ≤ cw := by simpa [CapOk] using k3
  have W3 := hidIt gw3
  clear r3 b3 B2 R2 gw3
  simp only [List.length_map, List.length_range]
  go_wp2_with fail
  have hal4 : Below w3.heap.size w3 (w3.alloc (.cells #[] 3)) := (Below.refl _ _).alloc (Nat.le_refl _) _
  refine (make_picks _ a len cap 20 (HB.out.below (B3.out.trans (hal4.mono (by omega))) |>.up (by simp; omega)) (by omega)).mono ?_
  rintro e w4 ⟨v4, P, rfl, p1, p2, r4, b4⟩
  have z4 := b4.size
  simp at z4
  have P2 := hidIt p2
  obtain ⟨ap, cp, rfl⟩ := r4.form
  have b34 : Below w3.heap.size w3 w4 := hal4.trans (b4.mono (by simp))
  have S0 := hidIt (show Sk w P (.slice ap P.length cp) (w3.heap.size + 1) w4.heap.size w2.heap.size w1.heap.size w2.heap.size (.slice a2 (stRow N N).length c2) (stRow N N) ((List.range N).map Int.ofNat) gw 0 w3.heap.size 0 [] w4 from by
    refine ⟨B3.out.trans (b34.mono (by omega)), by simpa using r4, Nat.le_refl _, R3.out.below (b34.mono (by omega)), by omega, fun j hj => below_cell b34 gw2 (by simpa using W3.out j hj), by omega, ?_, below_cell b34 (by omega) m3.1, below_frozen b34 (by omega) m3.2, by omega, by omega, by omega, by omega, .inl (by omega), .inr (by omega), by omega, .inl (by omega)⟩
    have := World.ownsRow_made (base := w.heap.size) (e := 3) (size := 1) w3 #[] 0 (by omega) (by unfold maxLen; omega) (by simp)
    exact own_below (by simpa using this) b4)
  have cells0 : w4.cell? ⟨w2.heap.size, 0, none⟩ = some (.slice a2 (stRow N N).length c2) ∧ w4.frozen? ⟨w2.heap.size, 0, none⟩ = false := ⟨S0.out.mc, S0.out.mf⟩
  clear p2 r4 b4 b34 hal4 R3 W3 B3 m3 HB HZ
  go_wp2
  go_loopg [6, 7, 41] P.length (fun gk s6 s7 s41 wr => ∃ (k : Nat) (xs want mine : List Int) (b off cw g gc lo hi : Nat) (am : Option Addr) (cm : Nat), k ≤ P.length ∧ gk = P.length - k ∧ s41 = .int .i64 k ∧ s6 = .slice (some ⟨b, off, none⟩) want.length cw ∧ s7 = .slice (some ⟨g, 0, none⟩) mine.length gc ∧ want.length ≤ cw ∧ mine.length ≤ gc ∧ want.length ≤ N ∧ mine.length ≤ N ∧ w2.heap.size < wr.heap.size ∧ wr.cell? ⟨w2.heap.size, 0, none⟩ = some (.slice am xs.length cm) ∧ wr.frozen? ⟨w2.heap.size, 0, none⟩ = false ∧ Hid (Sk w P (.slice ap P.length cp) (w3.heap.size + 1) w4.heap.size w2.heap.size lo hi (.slice am xs.length cm) xs want b off g gc mine wr ∧ Inv N xs want ∧ (want ++ mine).Nodup ∧ ∀ y ∈ mine, 0 ≤ y ∧ y < (N : Int)))
  case atStart =>
    refine ⟨0, _, _, [], gw, 0, _, _, 0, _, _, _, _, Nat.zero_le _, rfl, rfl, by simp; rfl, by simp, by simp; exact k3, by simp, by simp, by simp, by omega, cells0.1, cells0.2, ⟨S0.out, HI.out, by simpa using HI.out.nd, by simp⟩⟩
  case round =>
    obtain ⟨k, xs, want, mine, b, off, cw, g, gc, lo, hi, am, cm, hk, rfl, rfl, rfl, rfl, hcw, hgc, hwn, hmn, hzr, q1, q2, HR⟩ := hrel
    by_cases hlt : k < P.length
    · have hlt' : (k : Int) < (P.length : Int) := by omega
      obtain ⟨pg, pc, hpv, pg1, pg2, pg3, -⟩ := HR.out.1.picks.ofSome (by omega)
      simp at hpv
      obtain ⟨rfl, rfl⟩ := hpv
      have hpk := pg3 k hlt
      have hyb := P2.out P[k] (List.getElem_mem hlt)
      generalize P[k] = y at hpk hyb
      obtain ⟨y1, y2⟩ := hyb
      have hpz := HR.out.1.pz
      have hwz := HR.out.1.wz
      have hgz := HR.out.1.gz
      have hrz := HR.out.1.rz
      obtain ⟨c0, hc0⟩ : ∃ c0, stCall 2 0 = c0 := ⟨_, rfl⟩
      have HC0 := hidIt hc0
      clear pg3 hc0 S0 cells0 HI
      go_wp2_with fail
      refine (impl_stcall 2 0 _).mono ?_
      rintro e w5 ⟨rfl, b5⟩
      rw [HC0.out]
      have z5 := b5.size
      by_cases hbr : y % 2 = 0
      · have hb1 : (y % 2 == 0) = true := by simpa using hbr
        clear hbr
        by_cases hm : 0 < mine.length
        · obtain ⟨init, x', rfl⟩ : ∃ init x', mine = init ++ [x'] := ⟨mine.dropLast, mine.getLast (by intro e; simp [e] at hm), (List.dropLast_concat_getLast _).symm⟩
          simp only [List.length_append, List.length_cons, List.length_nil, Nat.zero_add] at hgc hmn ⊢
          have hm' : (0 : Int) < ((init.length + 1 : Nat) : Int) := by omega
          have S5 := hidIt (HR.out.1.grow b5)
          have hl5 := S5.out.last
          have hg5 : g < w5.heap.size := by omega
          have hx' := HR.out.2.2.2 x' (by simp)
          obtain ⟨xsF, cF, hst, hF1, hF2, hF3, hF4⟩ := HR.out.2.1.push (a := x') (fun hmem => by have := HR.out.2.2.1; rw [List.nodup_append] at this; exact this.2.2 x' hmem x' (by simp) rfl) hx'.1 hx'.2
          obtain ⟨c1, hc1⟩ : ∃ c1, stCall 1 x' = c1 := ⟨_, rfl⟩
          have HC1 := hidIt hc1
          rw [hc1] at hst
          have HST := hidIt hst
          have HF := hidIt (And.intro hF1 (And.intro hF2 (And.intro hF3 hF4)))
          have HBD := hidIt (show (∀ z ∈ xs, -9223372036854775808 ≤ z ∧ z ≤ 9223372036854775807) ∧ (-9223372036854775808 ≤ c1.w ∧ c1.w ≤ 9223372036854775807) ∧ xs.length ≤ 17 from ⟨HR.out.2.1.bds, by rw [← HC1.out]; simp [stCall, clZero], by have := HR.out.2.1.len; have := HR.out.2.1.n2; omega⟩)
          clear hst hF1 hF2 hF3 hF4 hc1 hm b5 hpk q1 q2
          go_wp2_with fail
          refine (impl_stcall 1 x' _).mono ?_
          rintro e w6 ⟨rfl, b6⟩
          rw [HC1.out]
          have z6 := b6.size
          simp at z6
          have k6 : (∀ o, w6.cell? ⟨w5.heap.size, o, none⟩ = #[Value.int .i64 c0.k, .int .i64 c0.a, .int .i64 c0.x, .int .i64 c0.pc, .int .i64 c0.p, .int .i64 c0.c, .int .i64 c0.w, .int .i64 c0.r, .int .i64 c0.v, .bool c0.d][o]?) ∧ (∀ o, w6.frozen? ⟨w5.heap.size, o, none⟩ = false) := ⟨fun o => below_cell b6 (by simp) (by simp [go_sem]), fun o => below_frozen b6 (by simp) (by simp [go_sem])⟩
          have B6 := hidIt (((Below.refl _ w5).alloc (Nat.le_refl _) _).trans (b6.mono (by simp)))
          clear b6 hl5
          go_wp2_with fail
          generalize hW : World.setCell _ _ (Value.bool c1.d) = W0
          have KP : Kp [w5.heap.size] w6 W0 := by rw [← hW]; exact (by repeat (first | with_reducible exact Kp.refl _ _ | with_reducible refine Kp.alloc ?_ _ | with_reducible refine Kp.drew ?_ | with_reducible refine Kp.setCell ?_ (by simp)))
          have S1 := hidIt (show Sk w P (.slice (some ⟨pg, 0, none⟩) P.length cp) (w3.heap.size + 1) w4.heap.size w2.heap.size lo hi (.slice am xs.length cm) xs want b off g gc (init ++ [x']) W0 from (S5.out.grow B6.out).keep KP (by have := S5.out.rz; have := S5.out.mw; simp; omega))
          have bm : W0.cell? ⟨w2.heap.size, 0, none⟩ = some (.slice am xs.length cm) ∧ W0.frozen? ⟨w2.heap.size, 0, none⟩ = false := ⟨S1.out.mc, S1.out.mf⟩
          have bc : (∀ o, W0.cell? ⟨w5.heap.size, o, none⟩ = #[Value.int .i64 c1.k, .int .i64 c1.a, .int .i64 c1.x, .int .i64 c1.pc, .int .i64 c1.p, .int .i64 c1.c, .int .i64 c1.w, .int .i64 c1.r, .int .i64 c1.v, .bool c1.d][o]?) ∧ (∀ o, W0.frozen? ⟨w5.heap.size, o, none⟩ = false) := by rw [← hW]; exact ⟨cells10 k6.1, fun o => by simp [go_sem, k6]⟩
          have bz : w5.heap.size < W0.heap.size := by have := KP.size; omega
          have hBC : w.heap.size ≤ w5.heap.size ∧ w5.heap.size ≠ g ∧ w5.heap.size ≠ b ∧ w2.heap.size < w5.heap.size ∧ w4.heap.size ≤ w5.heap.size := by omega
          clear hW KP k6 S5 B6 hb1
          go_loopg [11] 3 (fun ik s11 wi => ∃ (j : Nat) (xs' : List Int) (lo' hi' : Nat) (am' : Option Addr) (cm' : Nat) (c : Cl), j + ik = 3 ∧ s11 = .int .i64 j ∧ w5.heap.size < wi.heap.size ∧ w2.heap.size < wi.heap.size ∧ wi.cell? ⟨w2.heap.size, 0, none⟩ = some (.slice am' xs'.length cm') ∧ wi.frozen? ⟨w2.heap.size, 0, none⟩ = false ∧ (∀ o, wi.cell? ⟨w5.heap.size, o, none⟩ = #[Value.int .i64 c.k, .int .i64 c.a, .int .i64 c.x, .int .i64 c.pc, .int .i64 c.p, .int .i64 c.c, .int .i64 c.w, .int .i64 c.r, .int .i64 c.v, .bool c.d][o]?) ∧ (∀ o, wi.frozen? ⟨w5.heap.size, o, none⟩ = false) ∧ Hid (Sk w P (.slice (some ⟨pg, 0, none⟩) P.length cp) (w3.heap.size + 1) w4.heap.size w2.heap.size lo' hi' (.slice am' xs'.length cm') xs' want b off g gc (init ++ [x']) wi ∧ steps N ik xs' c = some (xsF, cF) ∧ (∀ z ∈ xs', -9223372036854775808 ≤ z ∧ z ≤ 9223372036854775807) ∧ (-9223372036854775808 ≤ c.w ∧ c.w ≤ 9223372036854775807) ∧ xs'.length ≤ 17))
          case atStart => exact ⟨0, xs, lo, hi, am, cm, c1, by omega, rfl, bz, by omega, bm.1, bm.2, bc.1, bc.2, ⟨S1.out, HST.out, HBD.out.1, HBD.out.2.1, HBD.out.2.2⟩⟩
          case round =>
            obtain ⟨j, xs', lo', hi', am', cm', c, hj, rfl, iz1, iz2, i1, i2, i3, i4, HJ⟩ := hrel
            clear bm bc S1 HST HBD bz
            cases hd : c.d with
            | false =>
              obtain ⟨f', L, co, rfl, hst, hst2⟩ := steps_some HJ.out.2.1 hd
              have hbd := iStep_bd hst HJ.out.2.2.1 HJ.out.2.2.2.1.1 HJ.out.2.2.2.1.2
              have HS := hidIt (And.intro hst2 hbd)
              have HST := hidIt hst
              have hj4 : (j : Int) < 4 := by omega
              have hrz' := HJ.out.1.rz
              clear hst hst2 hbd
              go_wp2_with fail
              have hcall := impl_ststep_some N c co lo' hi' _ xs' L wr (by have := HJ.out.2.2.2.2; omega) hrz' HJ.out.1.row HJ.out.2.2.1 HJ.out.2.2.2.1.1 HJ.out.2.2.2.1.2 HST.out
              rw [hd] at hcall
              refine hcall.mono ?_
              clear hcall
              rintro e w6 ⟨v6, rfl, r6, b6⟩
              obtain ⟨a6, c6, rfl⟩ := r6.form
              have R6 := hidIt r6
              have z6 := b6.size
              have KB := hidIt b6
              have S6 := hidIt (HJ.out.1.grow b6)
              have n1' : w6.cell? ⟨w2.heap.size, 0, none⟩ = some (.slice am' xs'.length cm') ∧ w6.frozen? ⟨w2.heap.size, 0, none⟩ = false := ⟨S6.out.mc, S6.out.mf⟩
              have n3 : (∀ o, w6.cell? ⟨w5.heap.size, o, none⟩ = #[Value.int .i64 c.k, .int .i64 c.a, .int .i64 c.x, .int .i64 c.pc, .int .i64 c.p, .int .i64 c.c, .int .i64 c.w, .int .i64 c.r, .int .i64 c.v, .bool false][o]?) ∧ (∀ o, w6.frozen? ⟨w5.heap.size, o, none⟩ = false) := ⟨fun o => below_cell b6 iz1 (by rw [i3 o, hd]), fun o => below_frozen b6 iz1 (i4 o)⟩
              have y1' : w2.heap.size < w6.heap.size := by omega
              have y2' : w5.heap.size < w6.heap.size := by omega
              have y3' : ¬ w2.heap.size = w5.heap.size := by omega
              have y4' : w5.heap.size ≠ w2.heap.size := by omega
              clear r6 b6 i1 i2 i3 i4
              go_wp2_with fail
              go_roundg f'
              case measure => go_light; omega
              case rel =>
                generalize hW : World.alloc _ _ = Wn
                have KP : Kp [w2.heap.size, w5.heap.size] w6 Wn := by rw [← hW]; exact (by repeat (first | with_reducible exact Kp.refl _ _ | with_reducible refine Kp.alloc ?_ _ | with_reducible refine Kp.drew ?_ | with_reducible refine Kp.setCell ?_ (by simp)))
                have e1 : Wn.cell? ⟨w2.heap.size, 0, none⟩ = some (.slice a6 L.length c6) ∧ Wn.frozen? ⟨w2.heap.size, 0, none⟩ = false := by rw [← hW]; exact ⟨by simp [go_sem, n1', y1'], by simp [go_sem, n1', y1']⟩
                have e2 : ∀ o, Wn.cell? ⟨w5.heap.size, o, none⟩ = #[Value.int .i64 co.k, .int .i64 co.a, .int .i64 co.x, .int .i64 co.pc, .int .i64 co.p, .int .i64 co.c, .int .i64 co.w, .int .i64 co.r, .int .i64 co.v, .bool co.d][o]? := by rw [← hW]; intro o; rw [World.cell?_alloc_lt _ _ _ (by simp; omega), World.cell?_alloc_lt _ _ _ (by simp; omega)]; exact cells10 (fun o => by rw [World.cell?_setCell_other _ _ _ _ (by simp <;> omega)]; exact n3.1 o) o
                have e3 : ∀ o, Wn.frozen? ⟨w5.heap.size, o, none⟩ = false := by rw [← hW]; intro o; simp [go_sem, n3, y2']
                have KQ := (Kp.of_below (bs := [w2.heap.size, w5.heap.size]) KB.out).trans KP
                have SN := HJ.out.1.newm KQ (by have := HJ.out.1.mw; have := HJ.out.1.a2; have := HJ.out.1.a5; have := HJ.out.1.a6; simp; omega) e1.1 e1.2 (KP.row R6.out (Nat.le_refl _) (by simp; omega)) (Nat.le_refl _) KP.size
                have hz := KP.size
                exact ⟨j + 1, L, _, _, a6, c6, co, by omega, by go_num, by omega, by omega, e1.1, e1.2, e2, e3, ⟨SN, HS.out.1, HS.out.2.2.1, HS.out.2.2.2, by rw [HS.out.2.1]; exact HJ.out.2.2.2.2⟩⟩
            | true =>
              have e := steps_end HJ.out.2.1 hd
              obtain ⟨h1, h2⟩ := Prod.mk.inj e
              subst h1 h2
              clear e
              have hj4 : (j : Int) < 4 := by omega
              obtain ⟨hF1, hF2, -, hF4⟩ := HF.out
              have HV := hidIt hF4
              have S1 := hidIt HJ.out.1
              have HB17 := hidIt HJ.out.2.2
              have hwz' := S1.out.wz
              have hown : (wr.alloc (.cells #[.int .i64 x'] 3)).ownsRow wr.heap.size 3 1 (.slice (some ⟨wr.heap.size, 0, none⟩) 1 1) 1 [.int .i64 x'] := by have := World.ownsRow_lit (base := wr.heap.size) (e := 3) (size := 1) wr #[.int .i64 x'] 1 (Nat.le_refl _) (by unfold maxLen; omega) (by simp); simpa using this
              clear HJ HF hF4
              go_wp2_with (at_builtin; refine wpList_append_own _ rfl (.tmp 111) (.tmp 112) 24 rfl wr.heap.size 3 i0 (.int .i64 0) 1 8 Try.underlying24 hi0 hz0 hz1 hz2 rfl (by decide) _ _ _ rfl hown ⟨b, off, none⟩ want.length cw (ints want) rfl (by simp) ?c1 ?c2 ?c3 ?c4 ?c5 ?_)
              case c1 => intro q u hq; obtain ⟨hq1, rfl⟩ := List.getElem?_eq_some_iff.1 hq; rw [addr_add, List.getElem_map, World.cell?_alloc_lt _ _ _ (by simp; omega)]; exact S1.out.want q (by simpa using hq1)
              case c2 => intro u hu; simp at hu; obtain ⟨z, -, rfl⟩ := hu; rfl
              case c3 => unfold maxLen; omega
              case c4 => omega
              case c5 => simp
              intro v9 w9 hown' hgrow hnn
              have hb9 : Below wr.heap.size wr w9 := ((Below.refl _ _).alloc (Nat.le_refl _) _).grown hgrow (by simp) (fun q hq => by have := (hown.lt q hq).1; omega)
              rw [Nat.add_comm 1 want.length] at hown'
              rcases own_cells hown' with ⟨e, -, -⟩ | ⟨g9, cap9, rfl, k1, k2, k3, -, -, k5, -⟩
              · exact absurd e hnn
              have S3 := hidIt ((S1.out.neww (want' := x' :: want) (b' := g9) (off' := 0) hb9 (fun q hq => by rw [Nat.zero_add, k5 q (by simpa using hq)]; cases q with | zero => rfl | succ q => simp) k1 k2).popmine)
              have hnd := nodup_back HR.out.2.2.1
              have hmm : ∀ y ∈ init, 0 ≤ y ∧ y < (N : Int) := fun y hy => HR.out.2.2.2 y (by simp [hy])
              have hfew := both_few hnd (fun y hy => chain_mem HV.out.ch y hy) hmm
              simp only [List.length_cons] at hfew
              have HND := hidIt (And.intro hnd hmm)
              have m9 : w9.cell? ⟨w2.heap.size, 0, none⟩ = some (.slice am' xsF.length cm') ∧ w9.frozen? ⟨w2.heap.size, 0, none⟩ = false := ⟨S3.out.mc, S3.out.mf⟩
              have hgc0 : ¬ gc = 0 := by omega
              clear hown hown' hgrow hnn S1 k5 hnd hmm hb9 i1 i2 i3 i4
              go_wp2_with fail
              refine (impl_stitems N lo' hi' _ xsF _ (by have := HB17.out.2.2; omega) (Inv.bds HV.out) (S3.out).rz (S3.out).row).mono ?_
              rintro e w7 ⟨v7, rfl, r7, b7⟩
              rw [Inv.items HV.out] at r7
              have S7 := hidIt ((S3.out).grow b7)
              have R7 := hidIt r7
              obtain ⟨a7, c7, rfl⟩ := r7.form
              clear r7 b7
              go_wp2_with fail
              refine (same_ints _ _ _ g9 (0) cap9 _ ((x' :: want)) (by simp; omega) R7.out S7.out.want).mono ?_
              rintro e w8 ⟨rfl, nd, rfl⟩
              have S8 := hidIt (S7.out.grow (below_drewN (Below.refl _ _) nd))
              clear R7 S7
              go_wp2_with fail
              go_roundg (P.length - (k + 1))
              case measure => go_light; omega
              case rel =>
                go_light
                exact ⟨k + 1, xsF, (x' :: want), init, g9, 0, cap9, g, gc, lo', hi', am', cm', by omega, rfl, by go_num, rfl, rfl, by simp; omega, by omega, by simp; omega, by omega, S8.out.mz, S8.out.mc, S8.out.mf, ⟨S8.out, HV.out, HND.out.1, HND.out.2⟩⟩
        · have hm' : ¬ (0 : Int) < (mine.length : Int) := by omega
          obtain ⟨xsF, cF, hst, hF1, hF2, hF3⟩ := HR.out.2.1.pop
          rw [HC0.out] at hst
          have HST := hidIt hst
          have HF := hidIt (And.intro hF1 (And.intro hF2 hF3))
          have HBD := hidIt (show (∀ z ∈ xs, -9223372036854775808 ≤ z ∧ z ≤ 9223372036854775807) ∧ (-9223372036854775808 ≤ c0.w ∧ c0.w ≤ 9223372036854775807) ∧ xs.length ≤ 17 from ⟨HR.out.2.1.bds, by rw [← HC0.out]; decide, by have := HR.out.2.1.len; have := HR.out.2.1.n2; omega⟩)
          clear hst hF1 hF2 hF3
          go_wp2_with fail
          generalize hW : World.alloc _ _ = W0
          have S1 := hidIt (show Sk w P (.slice (some ⟨pg, 0, none⟩) P.length cp) (w3.heap.size + 1) w4.heap.size w2.heap.size lo hi (.slice am xs.length cm) xs want b off g gc mine W0 by rw [← hW]; exact (HR.out.1.grow b5).grow ((Below.refl _ _).alloc (Nat.le_refl _) _))
          have bm : W0.cell? ⟨w2.heap.size, 0, none⟩ = some (.slice am xs.length cm) ∧ W0.frozen? ⟨w2.heap.size, 0, none⟩ = false := ⟨S1.out.mc, S1.out.mf⟩
          have bc : (∀ o, W0.cell? ⟨w5.heap.size, o, none⟩ = #[Value.int .i64 c0.k, .int .i64 c0.a, .int .i64 c0.x, .int .i64 c0.pc, .int .i64 c0.p, .int .i64 c0.c, .int .i64 c0.w, .int .i64 c0.r, .int .i64 c0.v, .bool c0.d][o]?) ∧ (∀ o, W0.frozen? ⟨w5.heap.size, o, none⟩ = false) := by rw [← hW]; exact ⟨fun o => by simp [go_sem], fun o => by simp [go_sem]⟩
          have bz : w5.heap.size < W0.heap.size := by rw [← hW]; simp
          have hBC : w.heap.size ≤ w5.heap.size ∧ w5.heap.size ≠ g ∧ w5.heap.size ≠ b ∧ w2.heap.size < w5.heap.size ∧ w4.heap.size ≤ w5.heap.size := by omega
          clear hW b5 hpk q1 q2 hb1
          go_loopg [11] 3 (fun ik s11 wi => ∃ (j : Nat) (xs' : List Int) (lo' hi' : Nat) (am' : Option Addr) (cm' : Nat) (c : Cl), j + ik = 3 ∧ s11 = .int .i64 j ∧ w5.heap.size < wi.heap.size ∧ w2.heap.size < wi.heap.size ∧ wi.cell? ⟨w2.heap.size, 0, none⟩ = some (.slice am' xs'.length cm') ∧ wi.frozen? ⟨w2.heap.size, 0, none⟩ = false ∧ (∀ o, wi.cell? ⟨w5.heap.size, o, none⟩ = #[Value.int .i64 c.k, .int .i64 c.a, .int .i64 c.x, .int .i64 c.pc, .int .i64 c.p, .int .i64 c.c, .int .i64 c.w, .int .i64 c.r, .int .i64 c.v, .bool c.d][o]?) ∧ (∀ o, wi.frozen? ⟨w5.heap.size, o, none⟩ = false) ∧ Hid (Sk w P (.slice (some ⟨pg, 0, none⟩) P.length cp) (w3.heap.size + 1) w4.heap.size w2.heap.size lo' hi' (.slice am' xs'.length cm') xs' want b off g gc mine wi ∧ steps N ik xs' c = some (xsF, cF) ∧ (∀ z ∈ xs', -9223372036854775808 ≤ z ∧ z ≤ 9223372036854775807) ∧ (-9223372036854775808 ≤ c.w ∧ c.w ≤ 9223372036854775807) ∧ xs'.length ≤ 17))
          case atStart => exact ⟨0, xs, lo, hi, am, cm, c0, by omega, rfl, bz, by omega, bm.1, bm.2, bc.1, bc.2, ⟨S1.out, HST.out, HBD.out.1, HBD.out.2.1, HBD.out.2.2⟩⟩
          case round =>
            obtain ⟨j, xs', lo', hi', am', cm', c, hj, rfl, iz1, iz2, i1, i2, i3, i4, HJ⟩ := hrel
            clear bm bc S1 HST HBD bz
            cases hd : c.d with
            | false =>
              obtain ⟨f', L, co, rfl, hst, hst2⟩ := steps_some HJ.out.2.1 hd
              have hbd := iStep_bd hst HJ.out.2.2.1 HJ.out.2.2.2.1.1 HJ.out.2.2.2.1.2
              have HS := hidIt (And.intro hst2 hbd)
              have HST := hidIt hst
              have hj4 : (j : Int) < 4 := by omega
              have hrz' := HJ.out.1.rz
              clear hst hst2 hbd
              go_wp2_with fail
              have hcall := impl_ststep_some N c co lo' hi' _ xs' L wr (by have := HJ.out.2.2.2.2; omega) hrz' HJ.out.1.row HJ.out.2.2.1 HJ.out.2.2.2.1.1 HJ.out.2.2.2.1.2 HST.out
              rw [hd] at hcall
              refine hcall.mono ?_
              clear hcall
              rintro e w6 ⟨v6, rfl, r6, b6⟩
              obtain ⟨a6, c6, rfl⟩ := r6.form
              have R6 := hidIt r6
              have z6 := b6.size
              have KB := hidIt b6
              have S6 := hidIt (HJ.out.1.grow b6)
              have n1' : w6.cell? ⟨w2.heap.size, 0, none⟩ = some (.slice am' xs'.length cm') ∧ w6.frozen? ⟨w2.heap.size, 0, none⟩ = false := ⟨S6.out.mc, S6.out.mf⟩
              have n3 : (∀ o, w6.cell? ⟨w5.heap.size, o, none⟩ = #[Value.int .i64 c.k, .int .i64 c.a, .int .i64 c.x, .int .i64 c.pc, .int .i64 c.p, .int .i64 c.c, .int .i64 c.w, .int .i64 c.r, .int .i64 c.v, .bool false][o]?) ∧ (∀ o, w6.frozen? ⟨w5.heap.size, o, none⟩ = false) := ⟨fun o => below_cell b6 iz1 (by rw [i3 o, hd]), fun o => below_frozen b6 iz1 (i4 o)⟩
              have y1' : w2.heap.size < w6.heap.size := by omega
              have y2' : w5.heap.size < w6.heap.size := by omega
              have y3' : ¬ w2.heap.size = w5.heap.size := by omega
              have y4' : w5.heap.size ≠ w2.heap.size := by omega
              clear r6 b6 i1 i2 i3 i4
              go_wp2_with fail
              go_roundg f'
              case measure => go_light; omega
              case rel =>
                generalize hW : World.alloc _ _ = Wn
                have KP : Kp [w2.heap.size, w5.heap.size] w6 Wn := by rw [← hW]; exact (by repeat (first | with_reducible exact Kp.refl _ _ | with_reducible refine Kp.alloc ?_ _ | with_reducible refine Kp.drew ?_ | with_reducible refine Kp.setCell ?_ (by simp)))
                have e1 : Wn.cell? ⟨w2.heap.size, 0, none⟩ = some (.slice a6 L.length c6) ∧ Wn.frozen? ⟨w2.heap.size, 0, none⟩ = false := by rw [← hW]; exact ⟨by simp [go_sem, n1', y1'], by simp [go_sem, n1', y1']⟩
                have e2 : ∀ o, Wn.cell? ⟨w5.heap.size, o, none⟩ = #[Value.int .i64 co.k, .int .i64 co.a, .int .i64 co.x, .int .i64 co.pc, .int .i64 co.p, .int .i64 co.c, .int .i64 co.w, .int .i64 co.r, .int .i64 co.v, .bool co.d][o]? := by rw [← hW]; intro o; rw [World.cell?_alloc_lt _ _ _ (by simp; omega), World.cell?_alloc_lt _ _ _ (by simp; omega)]; exact cells10 (fun o => by rw [World.cell?_setCell_other _ _ _ _ (by simp <;> omega)]; exact n3.1 o) o
                have e3 : ∀ o, Wn.frozen? ⟨w5.heap.size, o, none⟩ = false := by rw [← hW]; intro o; simp [go_sem, n3, y2']
                have KQ := (Kp.of_below (bs := [w2.heap.size, w5.heap.size]) KB.out).trans KP
                have SN := HJ.out.1.newm KQ (by have := HJ.out.1.mw; have := HJ.out.1.a2; have := HJ.out.1.a5; have := HJ.out.1.a6; simp; omega) e1.1 e1.2 (KP.row R6.out (Nat.le_refl _) (by simp; omega)) (Nat.le_refl _) KP.size
                have hz := KP.size
                exact ⟨j + 1, L, _, _, a6, c6, co, by omega, by go_num, by omega, by omega, e1.1, e1.2, e2, e3, ⟨SN, HS.out.1, HS.out.2.2.1, HS.out.2.2.2, by rw [HS.out.2.1]; exact HJ.out.2.2.2.2⟩⟩
            | true =>
              have e := steps_end HJ.out.2.1 hd
              obtain ⟨h1, h2⟩ := Prod.mk.inj e
              subst h1 h2
              clear e
              have hj4 : (j : Int) < 4 := by omega
              obtain ⟨hF1, hF2, hF3⟩ := HF.out
              have S1 := hidIt HJ.out.1
              have HB17 := hidIt HJ.out.2.2
              clear HJ HF hF2
              rcases hF3 with ⟨rfl, hF4, rfl⟩ | ⟨p, ws, rfl, hF4, hF5, hinv⟩
              · go_wp2_with fail
                refine (impl_stitems N lo' hi' _ xsF _ (by have := HB17.out.2.2; omega) (Inv.bds HR.out.2.1) (S1.out).rz (S1.out).row).mono ?_
                rintro e w7 ⟨v7, rfl, r7, b7⟩
                rw [Inv.items HR.out.2.1] at r7
                have S7 := hidIt ((S1.out).grow b7)
                have R7 := hidIt r7
                obtain ⟨a7, c7, rfl⟩ := r7.form
                clear r7 b7
                go_wp2_with fail
                refine (same_ints _ _ _ b (off) cw _ ([]) (by simp) R7.out S7.out.want).mono ?_
                rintro e w8 ⟨rfl, nd, rfl⟩
                have S8 := hidIt (S7.out.grow (below_drewN (Below.refl _ _) nd))
                clear R7 S7
                go_wp2_with fail
                go_roundg (P.length - (k + 1))
                case measure => go_light; omega
                case rel =>
                  go_light
                  exact ⟨k + 1, xsF, [], mine, b, off, cw, g, gc, lo', hi', am', cm', by omega, rfl, by go_num, rfl, rfl, hcw, hgc, hwn, hmn, S8.out.mz, S8.out.mc, S8.out.mf, ⟨S8.out, HR.out.2.1, HR.out.2.2.1, HR.out.2.2.2⟩⟩
              · have HV := hidIt hinv
                clear hinv
                have hw0 := S1.out.want 0 (by simp)
                simp only [List.getElem_cons_zero, Nat.add_zero] at hw0
                simp only [List.length_cons] at hcw hwn
                go_wp2_with fail
                go_quiet (fail)
                generalize hX : World.drewN _ _ = X
                have S2 := hidIt (show Sk w P (.slice (some ⟨pg, 0, none⟩) P.length cp) (w3.heap.size + 1) w4.heap.size w2.heap.size lo' hi' (.slice am' xsF.length cm') xsF (p :: ws) b off g gc mine X by rw [← hX]; exact S1.out.grow (below_drewN (Below.refl _ _) _))
                have hw1 : X.cell? ⟨b, off, none⟩ = some (.int .i64 p) := by have := S2.out.want 0 (by simp); simpa using this
                have hcx : (∀ o, X.cell? ⟨w5.heap.size, o, none⟩ = #[Value.int .i64 cF.k, .int .i64 cF.a, .int .i64 cF.x, .int .i64 cF.pc, .int .i64 cF.p, .int .i64 cF.c, .int .i64 cF.w, .int .i64 cF.r, .int .i64 cF.v, .bool cF.d][o]?) := by intro o; rw [← hX]; exact i3 o
                have z2x : b < X.heap.size := S2.out.wz
                have hzx : w.heap.size ≤ X.heap.size := S2.out.below.size
                have hown := S2.out.own
                clear hX S1 i3 i1 i2 i4 hw0
                go_wp2_with (at_builtin; refine wpList_append_lies _ rfl (.tmp 93) (.tmp 97) 24 rfl w.heap.size 3 i0 (.int .i64 0) 1 8 Try.underlying24 hi0 hz0 hz1 hz2 rfl (by decide) _ _ _ rfl (hown.alloc _) ⟨X.heap.size, 0, none⟩ 1 1 [.int .i64 p] rfl rfl ?c1 ?c2 (by decide) ?c3 ?c4 ?c5 _ rfl ?_)
                case c1 => exact cell_one_new _ _ _
                case c2 => intro u hu; simp at hu; subst hu; rfl
                case c3 => unfold maxLen; omega
                case c4 => omega
                case c5 => simp; omega
                intro g' gc' w9 hown' hgrow hat hlt9
                have hat' : g' = g ∨ g' = (X.alloc (.cells #[.int .i64 p] 3)).heap.size := by rcases hat with h | h; exact .inl (by simpa [Value.ownBlock] using h.symm); exact .inr (by simpa using h)
                have S3 := hidIt (((S2.out.grow ((Below.refl _ _).alloc (Nat.le_refl _) (.cells #[.int .i64 p] 3))).addmine hgrow hat' (mine' := mine ++ [p]) (by simpa using hown')).tail)
                have hnd := nodup_move HR.out.2.2.1
                have hmm : ∀ y ∈ mine ++ [p], 0 ≤ y ∧ y < (N : Int) := fun y hy => by rcases List.mem_append.1 hy with hy | hy; exact HR.out.2.2.2 y hy; simp at hy; subst hy; exact chain_mem HR.out.2.1.ch _ (by simp)
                have hfew := both_few hnd (fun y hy => chain_mem HV.out.ch y hy) hmm
                simp only [List.length_append, List.length_cons, List.length_nil] at hfew
                have HND := hidIt (And.intro hnd hmm)
                have m9 : w9.cell? ⟨w2.heap.size, 0, none⟩ = some (.slice am' xsF.length cm') ∧ w9.frozen? ⟨w2.heap.size, 0, none⟩ = false := ⟨S3.out.mc, S3.out.mf⟩
                have hcap := S3.out.cap
                simp only [List.length_append, List.length_cons, List.length_nil] at hcap
                clear hown hown' hgrow hat hat' S2 hw1 hcx hnd hmm
                by_cases hc1 : cw = 1
                · subst hc1
                  obtain rfl : ws = [] := List.length_eq_zero_iff.1 (by omega)
                  have S4 := hidIt (S3.out.off0 (off' := off))
                  clear S3
                  go_wp2_with fail
                  refine (impl_stitems N lo' hi' _ xsF _ (by have := HB17.out.2.2; omega) (Inv.bds HV.out) (S4.out).rz (S4.out).row).mono ?_
                  rintro e w7 ⟨v7, rfl, r7, b7⟩
                  rw [Inv.items HV.out] at r7
                  have S7 := hidIt ((S4.out).grow b7)
                  have R7 := hidIt r7
                  obtain ⟨a7, c7, rfl⟩ := r7.form
                  clear r7 b7
                  go_wp2_with fail
                  refine (same_ints _ _ _ b (off) 0 _ (([] : List Int)) (by simp) R7.out S7.out.want).mono ?_
                  rintro e w8 ⟨rfl, nd, rfl⟩
                  have S8 := hidIt (S7.out.grow (below_drewN (Below.refl _ _) nd))
                  clear R7 S7
                  go_wp2_with fail
                  go_roundg (P.length - (k + 1))
                  case measure => go_light; omega
                  case rel =>
                    go_light
                    exact ⟨k + 1, xsF, ([] : List Int), (mine ++ [p]), b, off, 0, g', gc', lo', hi', am', cm', by omega, rfl, by go_num, by simp, by simp, by simp, by simp; omega, by simp, by simp at hfew ⊢; omega, S8.out.mz, S8.out.mc, S8.out.mf, ⟨S8.out, HV.out, HND.out.1, HND.out.2⟩⟩
                · go_wp2_with fail
                  refine (impl_stitems N lo' hi' _ xsF _ (by have := HB17.out.2.2; omega) (Inv.bds HV.out) (S3.out).rz (S3.out).row).mono ?_
                  rintro e w7 ⟨v7, rfl, r7, b7⟩
                  rw [Inv.items HV.out] at r7
                  have S7 := hidIt ((S3.out).grow b7)
                  have R7 := hidIt r7
                  obtain ⟨a7, c7, rfl⟩ := r7.form
                  clear r7 b7
                  go_wp2_with fail
                  refine (same_ints _ _ _ b (off + 1) (cw - 1) _ (ws) (by omega) R7.out S7.out.want).mono ?_
                  rintro e w8 ⟨rfl, nd, rfl⟩
                  have S8 := hidIt (S7.out.grow (below_drewN (Below.refl _ _) nd))
                  clear R7 S7
                  go_wp2_with fail
                  go_roundg (P.length - (k + 1))
                  case measure => go_light; omega
                  case rel =>
                    go_light
                    exact ⟨k + 1, xsF, ws, (mine ++ [p]), b, off + 1, (cw - 1), g', gc', lo', hi', am', cm', by omega, rfl, by go_num, by simp, by simp, by omega, by simp; omega, by omega, by simp; omega, S8.out.mz, S8.out.mc, S8.out.mf, ⟨S8.out, HV.out, HND.out.1, HND.out.2⟩⟩
      · have hb1 : (y % 2 == 0) = false := by simpa using hbr
        clear hbr
        obtain ⟨xsF, cF, hst, hF1, hF2, hF3⟩ := HR.out.2.1.pop
        rw [HC0.out] at hst
        have HST := hidIt hst
        have HF := hidIt (And.intro hF1 (And.intro hF2 hF3))
        have HBD := hidIt (show (∀ z ∈ xs, -9223372036854775808 ≤ z ∧ z ≤ 9223372036854775807) ∧ (-9223372036854775808 ≤ c0.w ∧ c0.w ≤ 9223372036854775807) ∧ xs.length ≤ 17 from ⟨HR.out.2.1.bds, by rw [← HC0.out]; decide, by have := HR.out.2.1.len; have := HR.out.2.1.n2; omega⟩)
        clear hst hF1 hF2 hF3
        go_wp2_with fail
        generalize hW : World.alloc _ _ = W0
        have S1 := hidIt (show Sk w P (.slice (some ⟨pg, 0, none⟩) P.length cp) (w3.heap.size + 1) w4.heap.size w2.heap.size lo hi (.slice am xs.length cm) xs want b off g gc mine W0 by rw [← hW]; exact (HR.out.1.grow b5).grow ((Below.refl _ _).alloc (Nat.le_refl _) _))
        have bm : W0.cell? ⟨w2.heap.size, 0, none⟩ = some (.slice am xs.length cm) ∧ W0.frozen? ⟨w2.heap.size, 0, none⟩ = false := ⟨S1.out.mc, S1.out.mf⟩
        have bc : (∀ o, W0.cell? ⟨w5.heap.size, o, none⟩ = #[Value.int .i64 c0.k, .int .i64 c0.a, .int .i64 c0.x, .int .i64 c0.pc, .int .i64 c0.p, .int .i64 c0.c, .int .i64 c0.w, .int .i64 c0.r, .int .i64 c0.v, .bool c0.d][o]?) ∧ (∀ o, W0.frozen? ⟨w5.heap.size, o, none⟩ = false) := by rw [← hW]; exact ⟨fun o => by simp [go_sem], fun o => by simp [go_sem]⟩
        have bz : w5.heap.size < W0.heap.size := by rw [← hW]; simp
        have hBC : w.heap.size ≤ w5.heap.size ∧ w5.heap.size ≠ g ∧ w5.heap.size ≠ b ∧ w2.heap.size < w5.heap.size ∧ w4.heap.size ≤ w5.heap.size := by omega
        clear hW b5 hpk q1 q2 hb1
        go_loopg [11] 3 (fun ik s11 wi => ∃ (j : Nat) (xs' : List Int) (lo' hi' : Nat) (am' : Option Addr) (cm' : Nat) (c : Cl), j + ik = 3 ∧ s11 = .int .i64 j ∧ w5.heap.size < wi.heap.size ∧ w2.heap.size < wi.heap.size ∧ wi.cell? ⟨w2.heap.size, 0, none⟩ = some (.slice am' xs'.length cm') ∧ wi.frozen? ⟨w2.heap.size, 0, none⟩ = false ∧ (∀ o, wi.cell? ⟨w5.heap.size, o, none⟩ = #[Value.int .i64 c.k, .int .i64 c.a, .int .i64 c.x, .int .i64 c.pc, .int .i64 c.p, .int .i64 c.c, .int .i64 c.w, .int .i64 c.r, .int .i64 c.v, .bool c.d][o]?) ∧ (∀ o, wi.frozen? ⟨w5.heap.size, o, none⟩ = false) ∧ Hid (Sk w P (.slice (some ⟨pg, 0, none⟩) P.length cp) (w3.heap.size + 1) w4.heap.size w2.heap.size lo' hi' (.slice am' xs'.length cm') xs' want b off g gc mine wi ∧ steps N ik xs' c = some (xsF, cF) ∧ (∀ z ∈ xs', -9223372036854775808 ≤ z ∧ z ≤ 9223372036854775807) ∧ (-9223372036854775808 ≤ c.w ∧ c.w ≤ 9223372036854775807) ∧ xs'.length ≤ 17))
        case atStart => exact ⟨0, xs, lo, hi, am, cm, c0, by omega, rfl, bz, by omega, bm.1, bm.2, bc.1, bc.2, ⟨S1.out, HST.out, HBD.out.1, HBD.out.2.1, HBD.out.2.2⟩⟩
        case round =>
          obtain ⟨j, xs', lo', hi', am', cm', c, hj, rfl, iz1, iz2, i1, i2, i3, i4, HJ⟩ := hrel
          clear bm bc S1 HST HBD bz
          cases hd : c.d with
          | false =>
            obtain ⟨f', L, co, rfl, hst, hst2⟩ := steps_some HJ.out.2.1 hd
            have hbd := iStep_bd hst HJ.out.2.2.1 HJ.out.2.2.2.1.1 HJ.out.2.2.2.1.2
            have HS := hidIt (And.intro hst2 hbd)
            have HST := hidIt hst
            have hj4 : (j : Int) < 4 := by omega
            have hrz' := HJ.out.1.rz
            clear hst hst2 hbd
            go_wp2_with fail
            have hcall := impl_ststep_some N c co lo' hi' _ xs' L wr (by have := HJ.out.2.2.2.2; omega) hrz' HJ.out.1.row HJ.out.2.2.1 HJ.out.2.2.2.1.1 HJ.out.2.2.2.1.2 HST.out
            rw [hd] at hcall
            refine hcall.mono ?_
            clear hcall
            rintro e w6 ⟨v6, rfl, r6, b6⟩
            obtain ⟨a6, c6, rfl⟩ := r6.form
            have R6 := hidIt r6
            have z6 := b6.size
            have KB := hidIt b6
            have S6 := hidIt (HJ.out.1.grow b6)
            have n1' : w6.cell? ⟨w2.heap.size, 0, none⟩ = some (.slice am' xs'.length cm') ∧ w6.frozen? ⟨w2.heap.size, 0, none⟩ = false := ⟨S6.out.mc, S6.out.mf⟩
            have n3 : (∀ o, w6.cell? ⟨w5.heap.size, o, none⟩ = #[Value.int .i64 c.k, .int .i64 c.a, .int .i64 c.x, .int .i64 c.pc, .int .i64 c.p, .int .i64 c.c, .int .i64 c.w, .int .i64 c.r, .int .i64 c.v, .bool false][o]?) ∧ (∀ o, w6.frozen? ⟨w5.heap.size, o, none⟩ = false) := ⟨fun o => below_cell b6 iz1 (by rw [i3 o, hd]), fun o => below_frozen b6 iz1 (i4 o)⟩
            have y1' : w2.heap.size < w6.heap.size := by omega
            have y2' : w5.heap.size < w6.heap.size := by omega
            have y3' : ¬ w2.heap.size = w5.heap.size := by omega
            have y4' : w5.heap.size ≠ w2.heap.size := by omega
            clear r6 b6 i1 i2 i3 i4
            go_wp2_with fail
            go_roundg f'
            case measure => go_light; omega
            case rel =>
              generalize hW : World.alloc _ _ = Wn
              have KP : Kp [w2.heap.size, w5.heap.size] w6 Wn := by rw [← hW]; exact (by repeat (first | with_reducible exact Kp.refl _ _ | with_reducible refine Kp.alloc ?_ _ | with_reducible refine Kp.drew ?_ | with_reducible refine Kp.setCell ?_ (by simp)))
              have e1 : Wn.cell? ⟨w2.heap.size, 0, none⟩ = some (.slice a6 L.length c6) ∧ Wn.frozen? ⟨w2.heap.size, 0, none⟩ = false := by rw [← hW]; exact ⟨by simp [go_sem, n1', y1'], by simp [go_sem, n1', y1']⟩
              have e2 : ∀ o, Wn.cell? ⟨w5.heap.size, o, none⟩ = #[Value.int .i64 co.k, .int .i64 co.a, .int .i64 co.x, .int .i64 co.pc, .int .i64 co.p, .int .i64 co.c, .int .i64 co.w, .int .i64 co.r, .int .i64 co.v, .bool co.d][o]? := by rw [← hW]; intro o; rw [World.cell?_alloc_lt _ _ _ (by simp; omega), World.cell?_alloc_lt _ _ _ (by simp; omega)]; exact cells10 (fun o => by rw [World.cell?_setCell_other _ _ _ _ (by simp <;> omega)]; exact n3.1 o) o
              have e3 : ∀ o, Wn.frozen? ⟨w5.heap.size, o, none⟩ = false := by rw [← hW]; intro o; simp [go_sem, n3, y2']
              have KQ := (Kp.of_below (bs := [w2.heap.size, w5.heap.size]) KB.out).trans KP
              have SN := HJ.out.1.newm KQ (by have := HJ.out.1.mw; have := HJ.out.1.a2; have := HJ.out.1.a5; have := HJ.out.1.a6; simp; omega) e1.1 e1.2 (KP.row R6.out (Nat.le_refl _) (by simp; omega)) (Nat.le_refl _) KP.size
              have hz := KP.size
              exact ⟨j + 1, L, _, _, a6, c6, co, by omega, by go_num, by omega, by omega, e1.1, e1.2, e2, e3, ⟨SN, HS.out.1, HS.out.2.2.1, HS.out.2.2.2, by rw [HS.out.2.1]; exact HJ.out.2.2.2.2⟩⟩
          | true =>
            have e := steps_end HJ.out.2.1 hd
            obtain ⟨h1, h2⟩ := Prod.mk.inj e
            subst h1 h2
            clear e
            have hj4 : (j : Int) < 4 := by omega
            obtain ⟨hF1, hF2, hF3⟩ := HF.out
            have S1 := hidIt HJ.out.1
            have HB17 := hidIt HJ.out.2.2
            clear HJ HF hF2
            rcases hF3 with ⟨rfl, hF4, rfl⟩ | ⟨p, ws, rfl, hF4, hF5, hinv⟩
            · go_wp2_with fail
              refine (impl_stitems N lo' hi' _ xsF _ (by have := HB17.out.2.2; omega) (Inv.bds HR.out.2.1) (S1.out).rz (S1.out).row).mono ?_
              rintro e w7 ⟨v7, rfl, r7, b7⟩
              rw [Inv.items HR.out.2.1] at r7
              have S7 := hidIt ((S1.out).grow b7)
              have R7 := hidIt r7
              obtain ⟨a7, c7, rfl⟩ := r7.form
              clear r7 b7
              go_wp2_with fail
              refine (same_ints _ _ _ b (off) cw _ ([]) (by simp) R7.out S7.out.want).mono ?_
              rintro e w8 ⟨rfl, nd, rfl⟩
              have S8 := hidIt (S7.out.grow (below_drewN (Below.refl _ _) nd))
              clear R7 S7
              go_wp2_with fail
              go_roundg (P.length - (k + 1))
              case measure => go_light; omega
              case rel =>
                go_light
                exact ⟨k + 1, xsF, [], mine, b, off, cw, g, gc, lo', hi', am', cm', by omega, rfl, by go_num, rfl, rfl, hcw, hgc, hwn, hmn, S8.out.mz, S8.out.mc, S8.out.mf, ⟨S8.out, HR.out.2.1, HR.out.2.2.1, HR.out.2.2.2⟩⟩
            · have HV := hidIt hinv
              clear hinv
              have hw0 := S1.out.want 0 (by simp)
              simp only [List.getElem_cons_zero, Nat.add_zero] at hw0
              simp only [List.length_cons] at hcw hwn
              go_wp2_with fail
              go_quiet (fail)
              generalize hX : World.drewN _ _ = X
              have S2 := hidIt (show Sk w P (.slice (some ⟨pg, 0, none⟩) P.length cp) (w3.heap.size + 1) w4.heap.size w2.heap.size lo' hi' (.slice am' xsF.length cm') xsF (p :: ws) b off g gc mine X by rw [← hX]; exact S1.out.grow (below_drewN (Below.refl _ _) _))
              have hw1 : X.cell? ⟨b, off, none⟩ = some (.int .i64 p) := by have := S2.out.want 0 (by simp); simpa using this
              have hcx : (∀ o, X.cell? ⟨w5.heap.size, o, none⟩ = #[Value.int .i64 cF.k, .int .i64 cF.a, .int .i64 cF.x, .int .i64 cF.pc, .int .i64 cF.p, .int .i64 cF.c, .int .i64 cF.w, .int .i64 cF.r, .int .i64 cF.v, .bool cF.d][o]?) := by intro o; rw [← hX]; exact i3 o
              have z2x : b < X.heap.size := S2.out.wz
              have hzx : w.heap.size ≤ X.heap.size := S2.out.below.size
              have hown := S2.out.own
              clear hX S1 i3 i1 i2 i4 hw0
              go_wp2_with (at_builtin; refine wpList_append_lies _ rfl (.tmp 93) (.tmp 97) 24 rfl w.heap.size 3 i0 (.int .i64 0) 1 8 Try.underlying24 hi0 hz0 hz1 hz2 rfl (by decide) _ _ _ rfl (hown.alloc _) ⟨X.heap.size, 0, none⟩ 1 1 [.int .i64 p] rfl rfl ?c1 ?c2 (by decide) ?c3 ?c4 ?c5 _ rfl ?_)
              case c1 => exact cell_one_new _ _ _
              case c2 => intro u hu; simp at hu; subst hu; rfl
              case c3 => unfold maxLen; omega
              case c4 => omega
              case c5 => simp; omega
              intro g' gc' w9 hown' hgrow hat hlt9
              have hat' : g' = g ∨ g' = (X.alloc (.cells #[.int .i64 p] 3)).heap.size := by rcases hat with h | h; exact .inl (by simpa [Value.ownBlock] using h.symm); exact .inr (by simpa using h)
              have S3 := hidIt (((S2.out.grow ((Below.refl _ _).alloc (Nat.le_refl _) (.cells #[.int .i64 p] 3))).addmine hgrow hat' (mine' := mine ++ [p]) (by simpa using hown')).tail)
              have hnd := nodup_move HR.out.2.2.1
              have hmm : ∀ y ∈ mine ++ [p], 0 ≤ y ∧ y < (N : Int) := fun y hy => by rcases List.mem_append.1 hy with hy | hy; exact HR.out.2.2.2 y hy; simp at hy; subst hy; exact chain_mem HR.out.2.1.ch _ (by simp)
              have hfew := both_few hnd (fun y hy => chain_mem HV.out.ch y hy) hmm
              simp only [List.length_append, List.length_cons, List.length_nil] at hfew
              have HND := hidIt (And.intro hnd hmm)
              have m9 : w9.cell? ⟨w2.heap.size, 0, none⟩ = some (.slice am' xsF.length cm') ∧ w9.frozen? ⟨w2.heap.size, 0, none⟩ = false := ⟨S3.out.mc, S3.out.mf⟩
              have hcap := S3.out.cap
              simp only [List.length_append, List.length_cons, List.length_nil] at hcap
              clear hown hown' hgrow hat hat' S2 hw1 hcx hnd hmm
              by_cases hc1 : cw = 1
              · subst hc1
                obtain rfl : ws = [] := List.length_eq_zero_iff.1 (by omega)
                have S4 := hidIt (S3.out.off0 (off' := off))
                clear S3
                go_wp2_with fail
                refine (impl_stitems N lo' hi' _ xsF _ (by have := HB17.out.2.2; omega) (Inv.bds HV.out) (S4.out).rz (S4.out).row).mono ?_
                rintro e w7 ⟨v7, rfl, r7, b7⟩
                rw [Inv.items HV.out] at r7
                have S7 := hidIt ((S4.out).grow b7)
                have R7 := hidIt r7
                obtain ⟨a7, c7, rfl⟩ := r7.form
                clear r7 b7
                go_wp2_with fail
                refine (same_ints _ _ _ b (off) 0 _ (([] : List Int)) (by simp) R7.out S7.out.want).mono ?_
                rintro e w8 ⟨rfl, nd, rfl⟩
                have S8 := hidIt (S7.out.grow (below_drewN (Below.refl _ _) nd))
                clear R7 S7
                go_wp2_with fail
                go_roundg (P.length - (k + 1))
                case measure => go_light; omega
                case rel =>
                  go_light
                  exact ⟨k + 1, xsF, ([] : List Int), (mine ++ [p]), b, off, 0, g', gc', lo', hi', am', cm', by omega, rfl, by go_num, by simp, by simp, by simp, by simp; omega, by simp, by simp at hfew ⊢; omega, S8.out.mz, S8.out.mc, S8.out.mf, ⟨S8.out, HV.out, HND.out.1, HND.out.2⟩⟩
              · go_wp2_with fail
                refine (impl_stitems N lo' hi' _ xsF _ (by have := HB17.out.2.2; omega) (Inv.bds HV.out) (S3.out).rz (S3.out).row).mono ?_
                rintro e w7 ⟨v7, rfl, r7, b7⟩
                rw [Inv.items HV.out] at r7
                have S7 := hidIt ((S3.out).grow b7)
                have R7 := hidIt r7
                obtain ⟨a7, c7, rfl⟩ := r7.form
                clear r7 b7
                go_wp2_with fail
                refine (same_ints _ _ _ b (off + 1) (cw - 1) _ (ws) (by omega) R7.out S7.out.want).mono ?_
                rintro e w8 ⟨rfl, nd, rfl⟩
                have S8 := hidIt (S7.out.grow (below_drewN (Below.refl _ _) nd))
                clear R7 S7
                go_wp2_with fail
                go_roundg (P.length - (k + 1))
                case measure => go_light; omega
                case rel =>
                  go_light
                  exact ⟨k + 1, xsF, ws, (mine ++ [p]), b, off + 1, (cw - 1), g', gc', lo', hi', am', cm', by omega, rfl, by go_num, by simp, by simp, by omega, by simp; omega, by omega, by simp; omega, S8.out.mz, S8.out.mc, S8.out.mf, ⟨S8.out, HV.out, HND.out.1, HND.out.2⟩⟩
    · go_wp2
      go_ret
      exact ⟨rfl, HR.out.1.below⟩

end Go.Proofs.Ytabcmnoadoebpaa
