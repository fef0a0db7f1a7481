/- The walk of the law of a ring that is used by one caller. -/
import Derived.Test.YtpafbijpncjgiaaRows
import Derived.WalkKit
import Derived.ProofKit
import Derived.OpenShut
import Derived.ShutString
import Derived.Test.YtpafbijpncjgiaaRiStepImpl
import Derived.Test.YtpafbijpncjgiaaRiItemsImpl
import Derived.Test.YtpafbijpncjgiaaRiNewFns
import Derived.Test.YtpafbijpncjgiaaRiCallFns
import Derived.Test.YtpafbijpncjgiaaDrawOut
import Derived.Test.YtpafbijpncjgiaaSameInts
import Derived.Test.YtpafbijpncjgiaaRiOneSk
import Derived.Deep.LoopGhost
import Derived.Deep.Light
namespace Go.Proofs.Ytpafbijpncjgiaa
open Go.ChangeShapes Go.WideShapes Go.ChangeAt Go.RowKit
set_option linter.unusedVariables false

theorem impl_ristep_some (n : Int) (c co : Cl) (lo hi : Nat) (mv : Value) (xs L : List Int) (w : World) (hn : xs.length ≤ 4194304) (hh : hi ≤ w.heap.size) (rm : Row w lo hi mv (ints xs)) (h : rStep n xs c = some (L, co)) :
    Calls Try.prog 13 #[.int .i64 n, .agg #[mv], .agg #[.int .i64 c.k, .int .i64 c.a, .int .i64 c.x, .int .i64 c.pc, .int .i64 c.p, .int .i64 c.c, .int .i64 c.w, .int .i64 c.r, .int .i64 c.v, .bool c.d]] w fun e w' => ∃ v', e = .returned (.tuple #[.agg #[v'], .agg #[.int .i64 co.k, .int .i64 co.a, .int .i64 co.x, .int .i64 co.pc, .int .i64 co.p, .int .i64 co.c, .int .i64 co.w, .int .i64 co.r, .int .i64 co.v, .bool co.d], .bool true]) ∧ Row w' w.heap.size w'.heap.size v' (ints L) ∧ Below w.heap.size w w' := by
  obtain ⟨h1, h2, h3⟩ := rStep_parts h
  have := impl_ristep n c lo hi mv xs w hn hh rm
  rw [h1, h2, h3] at this
  exact this
set_option maxHeartbeats 16000000 in
set_option maxRecDepth 100000 in
theorem walk_RingOne (a : Option Addr) (len cap : Nat) (w : World) (hB : Bytes w w.heap.size a len) :
    Calls Try.prog 3 #[.slice a len cap] w fun e w' => e = .returned (.bool true) ∧ Below w.heap.size w w' := by
  obtain ⟨i0, hi0, hz0, hz1, hz2⟩ := info_parts info3
  have hlen := hB.1
  have HB := hidIt hB
  clear hB
  have hlen' : ¬ (1048576 : Int) < (len : Int) := by omega
  go_enter Try.func3, Try.ntmps3
  go_wp2_with fail
  refine (make_num_small _ a len cap 3 HB.out (by omega) (by omega)).mono ?_
  rintro e w1 ⟨x, rfl, x1, x2, b1⟩
  obtain ⟨N, hN⟩ : ∃ N : Nat, 2 + x = (N : Int) := ⟨(2 + x).toNat, by omega⟩
  have n1 : 2 ≤ N := by omega
  have n2 : N ≤ 4 := by omega
  have B1 := hidIt b1
  have z1 := b1.size
  have HZ := hidIt (show rzB N = true from decide_eq_true ⟨by omega, by omega⟩)
  have HI := hidIt (RInv.new N n1 (by omega))
  have HL := hidIt (show riNewL N = riRow N N by unfold riNewL; rw [if_pos HZ.out]; simp)
  clear b1
  go_wp2_with fail
  refine (impl_rinew N _).mono ?_
  rintro e w2 ⟨v2, rfl, r2, b2⟩
  rw [HZ.out]
  rw [HL.out] at r2
  have B2 := hidIt (B1.out.trans (b2.mono z1))
  have z2 := b2.size
  have R2 := hidIt r2
  obtain ⟨a2, c2, rfl⟩ := r2.form
  clear r2 b2 B1
  go_wp2_with fail
  generalize hW3 : World.alloc _ _ = w3
  have z3 : w3.heap.size = w2.heap.size + 2 := by rw [← hW3]; simp
  have b23 : Below w2.heap.size w2 w3 := by rw [← hW3]; exact ((Below.refl _ _).alloc (Nat.le_refl _) _).alloc (by simp) _
  have m3 : w3.cell? ⟨w2.heap.size, 0, none⟩ = some (.slice a2 (riRow N N).length c2) ∧ w3.frozen? ⟨w2.heap.size, 0, none⟩ = false := by rw [← hW3]; exact ⟨by simp [go_sem], by simp [go_sem]⟩
  have B3 := hidIt (B2.out.trans (b23.mono (by omega)))
  have R3 := hidIt (R2.out.below b23)
  clear hW3 b23 R2 B2
  refine (make_picks _ a len cap 24 (HB.out.below B3.out |>.up (by omega)) (by omega)).mono ?_
  rintro e w4 ⟨v4, P, rfl, p1, p2, r4, b4⟩
  have z4 := b4.size
  have P2 := hidIt p2
  obtain ⟨ap, cp, rfl⟩ := r4.form
  have S0 := hidIt (show Rk w P (.slice ap P.length cp) w3.heap.size w4.heap.size w2.heap.size w1.heap.size w2.heap.size (.slice a2 (riRow N N).length c2) (riRow N N) [] (w2.heap.size + 1) 0 0 w4 from
    ⟨B3.out.trans (b4.mono (by omega)), r4, Nat.le_refl _, R3.out.below (b4.mono (by omega)), by omega, ⟨Nat.le_refl _, fun j hj => by simp at hj, fun j _ hj => by omega, by omega⟩, below_cell b4 (by omega) m3.1, below_frozen b4 (by omega) m3.2, by omega, by omega, by omega, by omega, .inl (by omega), .inl (by omega), .inr (by omega)⟩)
  have cells0 : w4.cell? ⟨w2.heap.size, 0, none⟩ = some (.slice a2 (riRow N N).length c2) ∧ w4.frozen? ⟨w2.heap.size, 0, none⟩ = false := ⟨S0.out.mc, S0.out.mf⟩
  clear p2 r4 b4 R3 B3 m3 HB HZ
  go_wp2
  go_loopg [6, 31] P.length (fun gk s6 s31 wr => ∃ (k : Nat) (xs want : List Int) (b off cw h lo hi : Nat) (am : Option Addr) (cm : Nat), k ≤ P.length ∧ gk = P.length - k ∧ s31 = .int .i64 k ∧ s6 = .slice (some ⟨b, off, none⟩) want.length cw ∧ want.length ≤ N ∧ w2.heap.size < wr.heap.size ∧ wr.cell? ⟨w2.heap.size, 0, none⟩ = some (.slice am xs.length cm) ∧ wr.frozen? ⟨w2.heap.size, 0, none⟩ = false ∧ Hid (Rk w P (.slice ap P.length cp) w3.heap.size w4.heap.size w2.heap.size lo hi (.slice am xs.length cm) xs want b off cw wr ∧ RInv N xs want h ∧ h + want.length ≤ k))
  case atStart =>
    exact ⟨0, _, [], w2.heap.size + 1, 0, 0, 0, _, _, _, _, Nat.zero_le _, rfl, rfl, rfl, by simp, by omega, cells0.1, cells0.2, ⟨S0.out, HI.out, by simp⟩⟩
  case round =>
    obtain ⟨k, xs, want, b, off, cw, h, lo, hi, am, cm, hk, rfl, rfl, rfl, hwn, hzr, q1, q2, HR⟩ := hrel
    by_cases hlt : k < P.length
    · have hlt' : (k : Int) < (P.length : Int) := by omega
      obtain ⟨pg, pc, hpv, pg1, pg2, pg3, -⟩ := HR.out.1.picks.ofSome (by omega)
      simp at hpv
      obtain ⟨rfl, rfl⟩ := hpv
      have hpk := pg3 k hlt
      have hyb := P2.out P[k] (List.getElem_mem hlt)
      generalize P[k] = y at hpk hyb
      obtain ⟨y1, y2⟩ := hyb
      have hpz := HR.out.1.pz
      have hwz := HR.out.1.wn.lt
      have hrz := HR.out.1.rz
      have hcw := HR.out.1.wn.le
      have hbw := HR.out.1.bw
      obtain ⟨c0, hc0⟩ : ∃ c0, stCall 2 0 = c0 := ⟨_, rfl⟩
      have HC0 := hidIt hc0
      clear pg3 hc0 S0 cells0 HI
      go_wp2_with fail
      refine (impl_ricall 2 0 _).mono ?_
      rintro e w5 ⟨rfl, b5⟩
      rw [HC0.out]
      have z5 := b5.size
      by_cases hbr : y % 2 = 0
      · have hb1 : (y % 2 == 0) = true := by simpa using hbr
        clear hbr
        by_cases hf : want.length = N
        · obtain ⟨cF, hst, hF1, hF2, hF3⟩ := HR.out.2.1.full (100 + (k : Int)) hf
          obtain ⟨xsF, hxF⟩ : ∃ xsF, xsF = xs := ⟨_, rfl⟩
          have HXF := hidIt hxF
          have hst : rSteps N 5 xs (stCall 1 (100 + (k : Int))) = some (xsF, cF) := by rw [HXF.out]; exact hst
          have hfb : ((want.length : Int) == (N : Int)) = true := by simp [hf]
          have HFN := hidIt hf
          clear hxF hf
          obtain ⟨c1, hc1⟩ : ∃ c1, stCall 1 (100 + (k : Int)) = c1 := ⟨_, rfl⟩
          have HC1 := hidIt hc1
          rw [hc1] at hst
          have HST := hidIt hst
          have S5 := hidIt (HR.out.1.grow b5)
          clear hst hc1 b5 hpk q1 q2
          go_wp2_with fail
          refine (impl_ricall 1 (100 + (k : Int)) _).mono ?_
          rintro e w6 ⟨rfl, b6⟩
          rw [HC1.out]
          have z6 := b6.size
          simp at z6
          have k6 : (∀ o, w6.cell? ⟨w5.heap.size, o, none⟩ = #[Value.int .i64 c0.k, .int .i64 c0.a, .int .i64 c0.x, .int .i64 c0.pc, .int .i64 c0.p, .int .i64 c0.c, .int .i64 c0.w, .int .i64 c0.r, .int .i64 c0.v, .bool c0.d][o]?) ∧ (∀ o, w6.frozen? ⟨w5.heap.size, o, none⟩ = false) := ⟨fun o => below_cell b6 (by simp) (by simp [go_sem]), fun o => below_frozen b6 (by simp) (by simp [go_sem])⟩
          have B6 := hidIt (((Below.refl _ w5).alloc (Nat.le_refl _) _).trans (b6.mono (by simp)))
          clear b6
          go_wp2_with fail
          generalize hW : World.setCell _ _ (Value.bool c1.d) = W0
          have KP : Kp [w5.heap.size] w6 W0 := by rw [← hW]; exact (by repeat (first | with_reducible exact Kp.refl _ _ | with_reducible refine Kp.alloc ?_ _ | with_reducible refine Kp.drew ?_ | with_reducible refine Kp.setCell ?_ (by simp)))
          have S1 := hidIt (show Rk w P (.slice (some ⟨pg, 0, none⟩) P.length cp) w3.heap.size w4.heap.size w2.heap.size lo hi (.slice am xs.length cm) xs want b off cw W0 from (S5.out.grow B6.out).keep KP (by have := S5.out.rz; have := S5.out.mw; simp; omega))
          have bm : W0.cell? ⟨w2.heap.size, 0, none⟩ = some (.slice am xs.length cm) ∧ W0.frozen? ⟨w2.heap.size, 0, none⟩ = false := ⟨S1.out.mc, S1.out.mf⟩
          have bc : (∀ o, W0.cell? ⟨w5.heap.size, o, none⟩ = #[Value.int .i64 c1.k, .int .i64 c1.a, .int .i64 c1.x, .int .i64 c1.pc, .int .i64 c1.p, .int .i64 c1.c, .int .i64 c1.w, .int .i64 c1.r, .int .i64 c1.v, .bool c1.d][o]?) ∧ (∀ o, W0.frozen? ⟨w5.heap.size, o, none⟩ = false) := by rw [← hW]; exact ⟨cells10 k6.1, fun o => by simp [go_sem, k6]⟩
          have bz : w5.heap.size < W0.heap.size := by have := KP.size; omega
          have hBC : w.heap.size ≤ w5.heap.size ∧ w5.heap.size ≠ b ∧ w2.heap.size < w5.heap.size ∧ w4.heap.size ≤ w5.heap.size := by omega
          clear hW KP k6 S5 B6 hb1
          go_loopg [10] 5 (fun ik s10 wi => ∃ (j : Nat) (xs' : List Int) (lo' hi' : Nat) (am' : Option Addr) (cm' : Nat) (c : Cl), j + ik = 5 ∧ s10 = .int .i64 j ∧ w5.heap.size < wi.heap.size ∧ w2.heap.size < wi.heap.size ∧ wi.cell? ⟨w2.heap.size, 0, none⟩ = some (.slice am' xs'.length cm') ∧ wi.frozen? ⟨w2.heap.size, 0, none⟩ = false ∧ (∀ o, wi.cell? ⟨w5.heap.size, o, none⟩ = #[Value.int .i64 c.k, .int .i64 c.a, .int .i64 c.x, .int .i64 c.pc, .int .i64 c.p, .int .i64 c.c, .int .i64 c.w, .int .i64 c.r, .int .i64 c.v, .bool c.d][o]?) ∧ (∀ o, wi.frozen? ⟨w5.heap.size, o, none⟩ = false) ∧ Hid (Rk w P (.slice (some ⟨pg, 0, none⟩) P.length cp) w3.heap.size w4.heap.size w2.heap.size lo' hi' (.slice am' xs'.length cm') xs' want b off cw wi ∧ rSteps N ik xs' c = some (xsF, cF) ∧ xs'.length ≤ 34))
          case atStart => exact ⟨0, xs, lo, hi, am, cm, c1, by omega, rfl, bz, by omega, bm.1, bm.2, bc.1, bc.2, ⟨S1.out, HST.out, by have := HR.out.2.1.len; have := HR.out.2.1.n2; omega⟩⟩
          case round =>
            obtain ⟨j, xs', lo', hi', am', cm', c, hj, rfl, iz1, iz2, i1, i2, i3, i4, HJ⟩ := hrel
            clear bm bc S1 HST bz
            cases hd : c.d with
            | false =>
              obtain ⟨f', L, co, rfl, hst, hst2⟩ := rSteps_some HJ.out.2.1 hd
              have HS := hidIt (And.intro hst2 (rStep_len hst))
              have HST := hidIt hst
              have hj4 : (j : Int) < 5 := by omega
              have hrz' := HJ.out.1.rz
              clear hst hst2
              go_wp2_with fail
              have hcall := impl_ristep_some N c co lo' hi' _ xs' L wr (by have := HJ.out.2.2; omega) hrz' HJ.out.1.row HST.out
              rw [hd] at hcall
              refine hcall.mono ?_
              clear hcall
              rintro e w6 ⟨v6, rfl, r6, b6⟩
              obtain ⟨a6, c6, rfl⟩ := r6.form
              have R6 := hidIt r6
              have z6 := b6.size
              have KB := hidIt b6
              have S6 := hidIt (HJ.out.1.grow b6)
              have n1' : w6.cell? ⟨w2.heap.size, 0, none⟩ = some (.slice am' xs'.length cm') ∧ w6.frozen? ⟨w2.heap.size, 0, none⟩ = false := ⟨S6.out.mc, S6.out.mf⟩
              have n3 : (∀ o, w6.cell? ⟨w5.heap.size, o, none⟩ = #[Value.int .i64 c.k, .int .i64 c.a, .int .i64 c.x, .int .i64 c.pc, .int .i64 c.p, .int .i64 c.c, .int .i64 c.w, .int .i64 c.r, .int .i64 c.v, .bool false][o]?) ∧ (∀ o, w6.frozen? ⟨w5.heap.size, o, none⟩ = false) := ⟨fun o => below_cell b6 iz1 (by rw [i3 o, hd]), fun o => below_frozen b6 iz1 (i4 o)⟩
              have y1' : w2.heap.size < w6.heap.size := by omega
              have y2' : w5.heap.size < w6.heap.size := by omega
              have y3' : ¬ w2.heap.size = w5.heap.size := by omega
              have y4' : w5.heap.size ≠ w2.heap.size := by omega
              clear r6 b6 i1 i2 i3 i4
              go_wp2_with fail
              go_roundg f'
              case measure => go_light; omega
              case rel =>
                generalize hW : World.alloc _ _ = Wn
                have KP : Kp [w2.heap.size, w5.heap.size] w6 Wn := by rw [← hW]; exact (by repeat (first | with_reducible exact Kp.refl _ _ | with_reducible refine Kp.alloc ?_ _ | with_reducible refine Kp.drew ?_ | with_reducible refine Kp.setCell ?_ (by simp)))
                have e1 : Wn.cell? ⟨w2.heap.size, 0, none⟩ = some (.slice a6 L.length c6) ∧ Wn.frozen? ⟨w2.heap.size, 0, none⟩ = false := by rw [← hW]; exact ⟨by simp [go_sem, n1', y1'], by simp [go_sem, n1', y1']⟩
                have e2 : ∀ o, Wn.cell? ⟨w5.heap.size, o, none⟩ = #[Value.int .i64 co.k, .int .i64 co.a, .int .i64 co.x, .int .i64 co.pc, .int .i64 co.p, .int .i64 co.c, .int .i64 co.w, .int .i64 co.r, .int .i64 co.v, .bool co.d][o]? := by rw [← hW]; intro o; rw [World.cell?_alloc_lt _ _ _ (by simp; omega), World.cell?_alloc_lt _ _ _ (by simp; omega)]; exact cells10 (fun o => by rw [World.cell?_setCell_other _ _ _ _ (by simp <;> omega)]; exact n3.1 o) o
                have e3 : ∀ o, Wn.frozen? ⟨w5.heap.size, o, none⟩ = false := by rw [← hW]; intro o; simp [go_sem, n3, y2']
                have KQ := (Kp.of_below (bs := [w2.heap.size, w5.heap.size]) KB.out).trans KP
                have SN := HJ.out.1.newm KQ (by have := HJ.out.1.mw; have := HJ.out.1.a5; have := HJ.out.1.a6; simp; omega) e1.1 e1.2 (KP.row R6.out (Nat.le_refl _) (by simp; omega)) (Nat.le_refl _) KP.size
                have hz := KP.size
                exact ⟨j + 1, L, _, _, a6, c6, co, by omega, by go_num, by omega, by omega, e1.1, e1.2, e2, e3, ⟨SN, HS.out.1, by rw [HS.out.2]; exact HJ.out.2.2⟩⟩
            | true =>
              have e := rSteps_end HJ.out.2.1 hd
              obtain ⟨h1, h2⟩ := Prod.mk.inj e
              subst h1 h2
              clear e
              have S1 := hidIt HJ.out.1
              have HB17 := hidIt HJ.out.2.2
              clear HJ
              have HV := hidIt (show RInv N xsF want h by rw [HXF.out]; exact HR.out.2.1)
              by_cases hj5 : j < 5
              · have hj4 : (j : Int) < 5 := by omega
                go_wp2_with fail
                refine (impl_riitems N lo' hi' _ xsF _ (S1.out).rz (S1.out).row).mono ?_
                rintro e w7 ⟨v7, rfl, r7, b7⟩
                rw [RInv.items HV.out] at r7
                have S7 := hidIt ((S1.out).grow b7)
                have R7 := hidIt r7
                obtain ⟨a7, c7, rfl⟩ := r7.form
                clear r7 b7
                go_wp2_with fail
                refine (same_ints _ _ _ b (off) cw _ (want) (by omega) R7.out S7.out.wn.cells).mono ?_
                rintro e w8 ⟨rfl, nd, rfl⟩
                have S8 := hidIt (S7.out.grow (below_drewN (Below.refl _ _) nd))
                clear R7 S7
                go_wp2_with fail
                go_roundg (P.length - (k + 1))
                case measure => go_light; omega
                case rel =>
                  go_light
                  exact ⟨k + 1, xsF, want, b, off, cw, h, lo', hi', am', cm', by omega, rfl, by go_num, rfl, hwn, S8.out.mz, S8.out.mc, S8.out.mf, ⟨S8.out, HV.out, by have := HR.out.2.2; omega⟩⟩
              · have hj4 : ¬ (j : Int) < 5 := by omega
                go_wp2_with fail
                refine (impl_riitems N lo' hi' _ xsF _ (S1.out).rz (S1.out).row).mono ?_
                rintro e w7 ⟨v7, rfl, r7, b7⟩
                rw [RInv.items HV.out] at r7
                have S7 := hidIt ((S1.out).grow b7)
                have R7 := hidIt r7
                obtain ⟨a7, c7, rfl⟩ := r7.form
                clear r7 b7
                go_wp2_with fail
                refine (same_ints _ _ _ b (off) cw _ (want) (by omega) R7.out S7.out.wn.cells).mono ?_
                rintro e w8 ⟨rfl, nd, rfl⟩
                have S8 := hidIt (S7.out.grow (below_drewN (Below.refl _ _) nd))
                clear R7 S7
                go_wp2_with fail
                go_roundg (P.length - (k + 1))
                case measure => go_light; omega
                case rel =>
                  go_light
                  exact ⟨k + 1, xsF, want, b, off, cw, h, lo', hi', am', cm', by omega, rfl, by go_num, rfl, hwn, S8.out.mz, S8.out.mc, S8.out.mf, ⟨S8.out, HV.out, by have := HR.out.2.2; omega⟩⟩
        · obtain ⟨xsF, cF, hst, hF1, hF2, hF3, hinv⟩ := HR.out.2.1.put (100 + (k : Int)) (by omega) (by have := HR.out.2.2; omega)
          have HV := hidIt hinv
          have hfb : ((want.length : Int) == (N : Int)) = false := by simp; omega
          have hwn' : want.length < N := by omega
          clear hinv hf
          obtain ⟨c1, hc1⟩ : ∃ c1, stCall 1 (100 + (k : Int)) = c1 := ⟨_, rfl⟩
          have HC1 := hidIt hc1
          rw [hc1] at hst
          have HST := hidIt hst
          have S5 := hidIt (HR.out.1.grow b5)
          clear hst hc1 b5 hpk q1 q2
          go_wp2_with fail
          refine (impl_ricall 1 (100 + (k : Int)) _).mono ?_
          rintro e w6 ⟨rfl, b6⟩
          rw [HC1.out]
          have z6 := b6.size
          simp at z6
          have k6 : (∀ o, w6.cell? ⟨w5.heap.size, o, none⟩ = #[Value.int .i64 c0.k, .int .i64 c0.a, .int .i64 c0.x, .int .i64 c0.pc, .int .i64 c0.p, .int .i64 c0.c, .int .i64 c0.w, .int .i64 c0.r, .int .i64 c0.v, .bool c0.d][o]?) ∧ (∀ o, w6.frozen? ⟨w5.heap.size, o, none⟩ = false) := ⟨fun o => below_cell b6 (by simp) (by simp [go_sem]), fun o => below_frozen b6 (by simp) (by simp [go_sem])⟩
          have B6 := hidIt (((Below.refl _ w5).alloc (Nat.le_refl _) _).trans (b6.mono (by simp)))
          clear b6
          go_wp2_with fail
          generalize hW : World.setCell _ _ (Value.bool c1.d) = W0
          have KP : Kp [w5.heap.size] w6 W0 := by rw [← hW]; exact (by repeat (first | with_reducible exact Kp.refl _ _ | with_reducible refine Kp.alloc ?_ _ | with_reducible refine Kp.drew ?_ | with_reducible refine Kp.setCell ?_ (by simp)))
          have S1 := hidIt (show Rk w P (.slice (some ⟨pg, 0, none⟩) P.length cp) w3.heap.size w4.heap.size w2.heap.size lo hi (.slice am xs.length cm) xs want b off cw W0 from (S5.out.grow B6.out).keep KP (by have := S5.out.rz; have := S5.out.mw; simp; omega))
          have bm : W0.cell? ⟨w2.heap.size, 0, none⟩ = some (.slice am xs.length cm) ∧ W0.frozen? ⟨w2.heap.size, 0, none⟩ = false := ⟨S1.out.mc, S1.out.mf⟩
          have bc : (∀ o, W0.cell? ⟨w5.heap.size, o, none⟩ = #[Value.int .i64 c1.k, .int .i64 c1.a, .int .i64 c1.x, .int .i64 c1.pc, .int .i64 c1.p, .int .i64 c1.c, .int .i64 c1.w, .int .i64 c1.r, .int .i64 c1.v, .bool c1.d][o]?) ∧ (∀ o, W0.frozen? ⟨w5.heap.size, o, none⟩ = false) := by rw [← hW]; exact ⟨cells10 k6.1, fun o => by simp [go_sem, k6]⟩
          have bz : w5.heap.size < W0.heap.size := by have := KP.size; omega
          have hBC : w.heap.size ≤ w5.heap.size ∧ w5.heap.size ≠ b ∧ w2.heap.size < w5.heap.size ∧ w4.heap.size ≤ w5.heap.size := by omega
          clear hW KP k6 S5 B6 hb1
          go_loopg [10] 5 (fun ik s10 wi => ∃ (j : Nat) (xs' : List Int) (lo' hi' : Nat) (am' : Option Addr) (cm' : Nat) (c : Cl), j + ik = 5 ∧ s10 = .int .i64 j ∧ w5.heap.size < wi.heap.size ∧ w2.heap.size < wi.heap.size ∧ wi.cell? ⟨w2.heap.size, 0, none⟩ = some (.slice am' xs'.length cm') ∧ wi.frozen? ⟨w2.heap.size, 0, none⟩ = false ∧ (∀ o, wi.cell? ⟨w5.heap.size, o, none⟩ = #[Value.int .i64 c.k, .int .i64 c.a, .int .i64 c.x, .int .i64 c.pc, .int .i64 c.p, .int .i64 c.c, .int .i64 c.w, .int .i64 c.r, .int .i64 c.v, .bool c.d][o]?) ∧ (∀ o, wi.frozen? ⟨w5.heap.size, o, none⟩ = false) ∧ Hid (Rk w P (.slice (some ⟨pg, 0, none⟩) P.length cp) w3.heap.size w4.heap.size w2.heap.size lo' hi' (.slice am' xs'.length cm') xs' want b off cw wi ∧ rSteps N ik xs' c = some (xsF, cF) ∧ xs'.length ≤ 34))
          case atStart => exact ⟨0, xs, lo, hi, am, cm, c1, by omega, rfl, bz, by omega, bm.1, bm.2, bc.1, bc.2, ⟨S1.out, HST.out, by have := HR.out.2.1.len; have := HR.out.2.1.n2; omega⟩⟩
          case round =>
            obtain ⟨j, xs', lo', hi', am', cm', c, hj, rfl, iz1, iz2, i1, i2, i3, i4, HJ⟩ := hrel
            clear bm bc S1 HST bz
            cases hd : c.d with
            | false =>
              obtain ⟨f', L, co, rfl, hst, hst2⟩ := rSteps_some HJ.out.2.1 hd
              have HS := hidIt (And.intro hst2 (rStep_len hst))
              have HST := hidIt hst
              have hj4 : (j : Int) < 5 := by omega
              have hrz' := HJ.out.1.rz
              clear hst hst2
              go_wp2_with fail
              have hcall := impl_ristep_some N c co lo' hi' _ xs' L wr (by have := HJ.out.2.2; omega) hrz' HJ.out.1.row HST.out
              rw [hd] at hcall
              refine hcall.mono ?_
              clear hcall
              rintro e w6 ⟨v6, rfl, r6, b6⟩
              obtain ⟨a6, c6, rfl⟩ := r6.form
              have R6 := hidIt r6
              have z6 := b6.size
              have KB := hidIt b6
              have S6 := hidIt (HJ.out.1.grow b6)
              have n1' : w6.cell? ⟨w2.heap.size, 0, none⟩ = some (.slice am' xs'.length cm') ∧ w6.frozen? ⟨w2.heap.size, 0, none⟩ = false := ⟨S6.out.mc, S6.out.mf⟩
              have n3 : (∀ o, w6.cell? ⟨w5.heap.size, o, none⟩ = #[Value.int .i64 c.k, .int .i64 c.a, .int .i64 c.x, .int .i64 c.pc, .int .i64 c.p, .int .i64 c.c, .int .i64 c.w, .int .i64 c.r, .int .i64 c.v, .bool false][o]?) ∧ (∀ o, w6.frozen? ⟨w5.heap.size, o, none⟩ = false) := ⟨fun o => below_cell b6 iz1 (by rw [i3 o, hd]), fun o => below_frozen b6 iz1 (i4 o)⟩
              have y1' : w2.heap.size < w6.heap.size := by omega
              have y2' : w5.heap.size < w6.heap.size := by omega
              have y3' : ¬ w2.heap.size = w5.heap.size := by omega
              have y4' : w5.heap.size ≠ w2.heap.size := by omega
              clear r6 b6 i1 i2 i3 i4
              go_wp2_with fail
              go_roundg f'
              case measure => go_light; omega
              case rel =>
                generalize hW : World.alloc _ _ = Wn
                have KP : Kp [w2.heap.size, w5.heap.size] w6 Wn := by rw [← hW]; exact (by repeat (first | with_reducible exact Kp.refl _ _ | with_reducible refine Kp.alloc ?_ _ | with_reducible refine Kp.drew ?_ | with_reducible refine Kp.setCell ?_ (by simp)))
                have e1 : Wn.cell? ⟨w2.heap.size, 0, none⟩ = some (.slice a6 L.length c6) ∧ Wn.frozen? ⟨w2.heap.size, 0, none⟩ = false := by rw [← hW]; exact ⟨by simp [go_sem, n1', y1'], by simp [go_sem, n1', y1']⟩
                have e2 : ∀ o, Wn.cell? ⟨w5.heap.size, o, none⟩ = #[Value.int .i64 co.k, .int .i64 co.a, .int .i64 co.x, .int .i64 co.pc, .int .i64 co.p, .int .i64 co.c, .int .i64 co.w, .int .i64 co.r, .int .i64 co.v, .bool co.d][o]? := by rw [← hW]; intro o; rw [World.cell?_alloc_lt _ _ _ (by simp; omega), World.cell?_alloc_lt _ _ _ (by simp; omega)]; exact cells10 (fun o => by rw [World.cell?_setCell_other _ _ _ _ (by simp <;> omega)]; exact n3.1 o) o
                have e3 : ∀ o, Wn.frozen? ⟨w5.heap.size, o, none⟩ = false := by rw [← hW]; intro o; simp [go_sem, n3, y2']
                have KQ := (Kp.of_below (bs := [w2.heap.size, w5.heap.size]) KB.out).trans KP
                have SN := HJ.out.1.newm KQ (by have := HJ.out.1.mw; have := HJ.out.1.a5; have := HJ.out.1.a6; simp; omega) e1.1 e1.2 (KP.row R6.out (Nat.le_refl _) (by simp; omega)) (Nat.le_refl _) KP.size
                have hz := KP.size
                exact ⟨j + 1, L, _, _, a6, c6, co, by omega, by go_num, by omega, by omega, e1.1, e1.2, e2, e3, ⟨SN, HS.out.1, by rw [HS.out.2]; exact HJ.out.2.2⟩⟩
            | true =>
              have e := rSteps_end HJ.out.2.1 hd
              obtain ⟨h1, h2⟩ := Prod.mk.inj e
              subst h1 h2
              clear e
              have S1 := hidIt HJ.out.1
              have HB17 := hidIt HJ.out.2.2
              clear HJ
              by_cases hj5 : j < 5
              · have hj4 : (j : Int) < 5 := by omega
                have hl34 : want.length ≤ 16 := by omega
                go_wp2_with (at_builtin; refine wpList_append_want _ rfl (.tmp 101) (.tmp 104) 24 rfl 3 i0 (.int .i64 0) Try.underlying24 hi0 hz0 hz1 hz2 rfl b off cw want rfl (S1.out.wn.keep (Kp.alloc (Kp.refl [] _) _) (by simp)) ⟨wr.heap.size, 0, none⟩ 1 (100 + (k : Int)) rfl (cell_one_new _ _ _) (by omega) ?_)
                intro b' off' cap' w9 Wx hWx hWl kp9 hb9 wn9
                have HV2 := hidIt (show RInv N xsF Wx h by rw [hWx.out]; exact HV.out)
                have S3 := hidIt ((S1.out.grow ((Below.refl _ _).alloc (Nat.le_refl _) (.cells #[.int .i64 (100 + (k : Int))] 3))).neww kp9 (by rcases hb9 with hb9 | hb9; exact .inl hb9; exact .inr (by simp; omega)) wn9)
                have m9 : w9.cell? ⟨w2.heap.size, 0, none⟩ = some (.slice am' xsF.length cm') ∧ w9.frozen? ⟨w2.heap.size, 0, none⟩ = false := ⟨S3.out.mc, S3.out.mf⟩
                have z9 := kp9.size
                simp at z9
                clear kp9 hb9 wn9 S1 i1 i2 i3 i4 hWx
                go_wp2_with fail
                refine (impl_riitems N lo' hi' _ xsF _ (S3.out).rz (S3.out).row).mono ?_
                rintro e w7 ⟨v7, rfl, r7, b7⟩
                rw [RInv.items HV2.out] at r7
                have S7 := hidIt ((S3.out).grow b7)
                have R7 := hidIt r7
                obtain ⟨a7, c7, rfl⟩ := r7.form
                clear r7 b7
                go_wp2_with fail
                refine (same_ints _ _ _ b' (off') cap' _ (Wx) (by have := hWl.out; omega) R7.out S7.out.wn.cells).mono ?_
                rintro e w8 ⟨rfl, nd, rfl⟩
                have S8 := hidIt (S7.out.grow (below_drewN (Below.refl _ _) nd))
                clear R7 S7
                go_wp2_with fail
                go_roundg (P.length - (k + 1))
                case measure => go_light; omega
                case rel =>
                  go_light
                  exact ⟨k + 1, xsF, Wx, b', off', cap', h, lo', hi', am', cm', by omega, rfl, by go_num, rfl, by have := hWl.out; omega, S8.out.mz, S8.out.mc, S8.out.mf, ⟨S8.out, HV2.out, by have := HR.out.2.2; have := hWl.out; omega⟩⟩
              · have hj4 : ¬ (j : Int) < 5 := by omega
                have hl34 : want.length ≤ 16 := by omega
                go_wp2_with (at_builtin; refine wpList_append_want _ rfl (.tmp 101) (.tmp 104) 24 rfl 3 i0 (.int .i64 0) Try.underlying24 hi0 hz0 hz1 hz2 rfl b off cw want rfl (S1.out.wn.keep (Kp.alloc (Kp.refl [] _) _) (by simp)) ⟨wr.heap.size, 0, none⟩ 1 (100 + (k : Int)) rfl (cell_one_new _ _ _) (by omega) ?_)
                intro b' off' cap' w9 Wx hWx hWl kp9 hb9 wn9
                have HV2 := hidIt (show RInv N xsF Wx h by rw [hWx.out]; exact HV.out)
                have S3 := hidIt ((S1.out.grow ((Below.refl _ _).alloc (Nat.le_refl _) (.cells #[.int .i64 (100 + (k : Int))] 3))).neww kp9 (by rcases hb9 with hb9 | hb9; exact .inl hb9; exact .inr (by simp; omega)) wn9)
                have m9 : w9.cell? ⟨w2.heap.size, 0, none⟩ = some (.slice am' xsF.length cm') ∧ w9.frozen? ⟨w2.heap.size, 0, none⟩ = false := ⟨S3.out.mc, S3.out.mf⟩
                have z9 := kp9.size
                simp at z9
                clear kp9 hb9 wn9 S1 i1 i2 i3 i4 hWx
                go_wp2_with fail
                refine (impl_riitems N lo' hi' _ xsF _ (S3.out).rz (S3.out).row).mono ?_
                rintro e w7 ⟨v7, rfl, r7, b7⟩
                rw [RInv.items HV2.out] at r7
                have S7 := hidIt ((S3.out).grow b7)
                have R7 := hidIt r7
                obtain ⟨a7, c7, rfl⟩ := r7.form
                clear r7 b7
                go_wp2_with fail
                refine (same_ints _ _ _ b' (off') cap' _ (Wx) (by have := hWl.out; omega) R7.out S7.out.wn.cells).mono ?_
                rintro e w8 ⟨rfl, nd, rfl⟩
                have S8 := hidIt (S7.out.grow (below_drewN (Below.refl _ _) nd))
                clear R7 S7
                go_wp2_with fail
                go_roundg (P.length - (k + 1))
                case measure => go_light; omega
                case rel =>
                  go_light
                  exact ⟨k + 1, xsF, Wx, b', off', cap', h, lo', hi', am', cm', by omega, rfl, by go_num, rfl, by have := hWl.out; omega, S8.out.mz, S8.out.mc, S8.out.mf, ⟨S8.out, HV2.out, by have := HR.out.2.2; have := hWl.out; omega⟩⟩
      · have hb1 : (y % 2 == 0) = false := by simpa using hbr
        clear hbr
        by_cases hf : want.length = 0
        · obtain rfl : want = [] := List.length_eq_zero_iff.1 (by omega)
          obtain ⟨cF, hst, hF1, hF2, hF3⟩ := HR.out.2.1.empty
          rw [HC0.out] at hst
          obtain ⟨xsF, hxF⟩ : ∃ xsF, xsF = xs := ⟨_, rfl⟩
          rw [← hxF] at hst
          have HXF := hidIt hxF
          have HST := hidIt (show rSteps N 5 xs c0 = some (xsF, cF) by rw [← HXF.out]; exact hst)
          clear hst hxF
          go_wp2_with fail
          generalize hW : World.alloc _ _ = W0
          have S1 := hidIt (show Rk w P (.slice (some ⟨pg, 0, none⟩) P.length cp) w3.heap.size w4.heap.size w2.heap.size lo hi (.slice am xs.length cm) xs [] b off cw W0 by rw [← hW]; exact (HR.out.1.grow b5).grow ((Below.refl _ _).alloc (Nat.le_refl _) _))
          have bm : W0.cell? ⟨w2.heap.size, 0, none⟩ = some (.slice am xs.length cm) ∧ W0.frozen? ⟨w2.heap.size, 0, none⟩ = false := ⟨S1.out.mc, S1.out.mf⟩
          have bc : (∀ o, W0.cell? ⟨w5.heap.size, o, none⟩ = #[Value.int .i64 c0.k, .int .i64 c0.a, .int .i64 c0.x, .int .i64 c0.pc, .int .i64 c0.p, .int .i64 c0.c, .int .i64 c0.w, .int .i64 c0.r, .int .i64 c0.v, .bool c0.d][o]?) ∧ (∀ o, W0.frozen? ⟨w5.heap.size, o, none⟩ = false) := by rw [← hW]; exact ⟨fun o => by simp [go_sem], fun o => by simp [go_sem]⟩
          have bz : w5.heap.size < W0.heap.size := by rw [← hW]; simp
          have hBC : w.heap.size ≤ w5.heap.size ∧ w5.heap.size ≠ b ∧ w2.heap.size < w5.heap.size ∧ w4.heap.size ≤ w5.heap.size := by omega
          clear hW b5 hpk q1 q2 hb1
          go_loopg [10] 5 (fun ik s10 wi => ∃ (j : Nat) (xs' : List Int) (lo' hi' : Nat) (am' : Option Addr) (cm' : Nat) (c : Cl), j + ik = 5 ∧ s10 = .int .i64 j ∧ w5.heap.size < wi.heap.size ∧ w2.heap.size < wi.heap.size ∧ wi.cell? ⟨w2.heap.size, 0, none⟩ = some (.slice am' xs'.length cm') ∧ wi.frozen? ⟨w2.heap.size, 0, none⟩ = false ∧ (∀ o, wi.cell? ⟨w5.heap.size, o, none⟩ = #[Value.int .i64 c.k, .int .i64 c.a, .int .i64 c.x, .int .i64 c.pc, .int .i64 c.p, .int .i64 c.c, .int .i64 c.w, .int .i64 c.r, .int .i64 c.v, .bool c.d][o]?) ∧ (∀ o, wi.frozen? ⟨w5.heap.size, o, none⟩ = false) ∧ Hid (Rk w P (.slice (some ⟨pg, 0, none⟩) P.length cp) w3.heap.size w4.heap.size w2.heap.size lo' hi' (.slice am' xs'.length cm') xs' [] b off cw wi ∧ rSteps N ik xs' c = some (xsF, cF) ∧ xs'.length ≤ 34))
          case atStart => exact ⟨0, xs, lo, hi, am, cm, c0, by omega, rfl, bz, by omega, bm.1, bm.2, bc.1, bc.2, ⟨S1.out, HST.out, by have := HR.out.2.1.len; have := HR.out.2.1.n2; omega⟩⟩
          case round =>
            obtain ⟨j, xs', lo', hi', am', cm', c, hj, rfl, iz1, iz2, i1, i2, i3, i4, HJ⟩ := hrel
            clear bm bc S1 HST bz
            cases hd : c.d with
            | false =>
              obtain ⟨f', L, co, rfl, hst, hst2⟩ := rSteps_some HJ.out.2.1 hd
              have HS := hidIt (And.intro hst2 (rStep_len hst))
              have HST := hidIt hst
              have hj4 : (j : Int) < 5 := by omega
              have hrz' := HJ.out.1.rz
              clear hst hst2
              go_wp2_with fail
              have hcall := impl_ristep_some N c co lo' hi' _ xs' L wr (by have := HJ.out.2.2; omega) hrz' HJ.out.1.row HST.out
              rw [hd] at hcall
              refine hcall.mono ?_
              clear hcall
              rintro e w6 ⟨v6, rfl, r6, b6⟩
              obtain ⟨a6, c6, rfl⟩ := r6.form
              have R6 := hidIt r6
              have z6 := b6.size
              have KB := hidIt b6
              have S6 := hidIt (HJ.out.1.grow b6)
              have n1' : w6.cell? ⟨w2.heap.size, 0, none⟩ = some (.slice am' xs'.length cm') ∧ w6.frozen? ⟨w2.heap.size, 0, none⟩ = false := ⟨S6.out.mc, S6.out.mf⟩
              have n3 : (∀ o, w6.cell? ⟨w5.heap.size, o, none⟩ = #[Value.int .i64 c.k, .int .i64 c.a, .int .i64 c.x, .int .i64 c.pc, .int .i64 c.p, .int .i64 c.c, .int .i64 c.w, .int .i64 c.r, .int .i64 c.v, .bool false][o]?) ∧ (∀ o, w6.frozen? ⟨w5.heap.size, o, none⟩ = false) := ⟨fun o => below_cell b6 iz1 (by rw [i3 o, hd]), fun o => below_frozen b6 iz1 (i4 o)⟩
              have y1' : w2.heap.size < w6.heap.size := by omega
              have y2' : w5.heap.size < w6.heap.size := by omega
              have y3' : ¬ w2.heap.size = w5.heap.size := by omega
              have y4' : w5.heap.size ≠ w2.heap.size := by omega
              clear r6 b6 i1 i2 i3 i4
              go_wp2_with fail
              go_roundg f'
              case measure => go_light; omega
              case rel =>
                generalize hW : World.alloc _ _ = Wn
                have KP : Kp [w2.heap.size, w5.heap.size] w6 Wn := by rw [← hW]; exact (by repeat (first | with_reducible exact Kp.refl _ _ | with_reducible refine Kp.alloc ?_ _ | with_reducible refine Kp.drew ?_ | with_reducible refine Kp.setCell ?_ (by simp)))
                have e1 : Wn.cell? ⟨w2.heap.size, 0, none⟩ = some (.slice a6 L.length c6) ∧ Wn.frozen? ⟨w2.heap.size, 0, none⟩ = false := by rw [← hW]; exact ⟨by simp [go_sem, n1', y1'], by simp [go_sem, n1', y1']⟩
                have e2 : ∀ o, Wn.cell? ⟨w5.heap.size, o, none⟩ = #[Value.int .i64 co.k, .int .i64 co.a, .int .i64 co.x, .int .i64 co.pc, .int .i64 co.p, .int .i64 co.c, .int .i64 co.w, .int .i64 co.r, .int .i64 co.v, .bool co.d][o]? := by rw [← hW]; intro o; rw [World.cell?_alloc_lt _ _ _ (by simp; omega), World.cell?_alloc_lt _ _ _ (by simp; omega)]; exact cells10 (fun o => by rw [World.cell?_setCell_other _ _ _ _ (by simp <;> omega)]; exact n3.1 o) o
                have e3 : ∀ o, Wn.frozen? ⟨w5.heap.size, o, none⟩ = false := by rw [← hW]; intro o; simp [go_sem, n3, y2']
                have KQ := (Kp.of_below (bs := [w2.heap.size, w5.heap.size]) KB.out).trans KP
                have SN := HJ.out.1.newm KQ (by have := HJ.out.1.mw; have := HJ.out.1.a5; have := HJ.out.1.a6; simp; omega) e1.1 e1.2 (KP.row R6.out (Nat.le_refl _) (by simp; omega)) (Nat.le_refl _) KP.size
                have hz := KP.size
                exact ⟨j + 1, L, _, _, a6, c6, co, by omega, by go_num, by omega, by omega, e1.1, e1.2, e2, e3, ⟨SN, HS.out.1, by rw [HS.out.2]; exact HJ.out.2.2⟩⟩
            | true =>
              have e := rSteps_end HJ.out.2.1 hd
              obtain ⟨h1, h2⟩ := Prod.mk.inj e
              subst h1 h2
              clear e
              have S1 := hidIt HJ.out.1
              have HB17 := hidIt HJ.out.2.2
              clear HJ
              have HV := hidIt (show RInv N xsF [] h by rw [HXF.out]; exact HR.out.2.1)
              by_cases hj5 : j < 5
              · have hj4 : (j : Int) < 5 := by omega
                go_wp2_with fail
                refine (impl_riitems N lo' hi' _ xsF _ (S1.out).rz (S1.out).row).mono ?_
                rintro e w7 ⟨v7, rfl, r7, b7⟩
                rw [RInv.items HV.out] at r7
                have S7 := hidIt ((S1.out).grow b7)
                have R7 := hidIt r7
                obtain ⟨a7, c7, rfl⟩ := r7.form
                clear r7 b7
                go_wp2_with fail
                refine (same_ints _ _ _ b (off) cw _ ([]) (by simp) R7.out S7.out.wn.cells).mono ?_
                rintro e w8 ⟨rfl, nd, rfl⟩
                have S8 := hidIt (S7.out.grow (below_drewN (Below.refl _ _) nd))
                clear R7 S7
                go_wp2_with fail
                go_roundg (P.length - (k + 1))
                case measure => go_light; omega
                case rel =>
                  go_light
                  exact ⟨k + 1, xsF, [], b, off, cw, h, lo', hi', am', cm', by omega, rfl, by go_num, rfl, by simp, S8.out.mz, S8.out.mc, S8.out.mf, ⟨S8.out, HV.out, by have := HR.out.2.2; simp at this ⊢; omega⟩⟩
              · have hj4 : ¬ (j : Int) < 5 := by omega
                go_wp2_with fail
                refine (impl_riitems N lo' hi' _ xsF _ (S1.out).rz (S1.out).row).mono ?_
                rintro e w7 ⟨v7, rfl, r7, b7⟩
                rw [RInv.items HV.out] at r7
                have S7 := hidIt ((S1.out).grow b7)
                have R7 := hidIt r7
                obtain ⟨a7, c7, rfl⟩ := r7.form
                clear r7 b7
                go_wp2_with fail
                refine (same_ints _ _ _ b (off) cw _ ([]) (by simp) R7.out S7.out.wn.cells).mono ?_
                rintro e w8 ⟨rfl, nd, rfl⟩
                have S8 := hidIt (S7.out.grow (below_drewN (Below.refl _ _) nd))
                clear R7 S7
                go_wp2_with fail
                go_roundg (P.length - (k + 1))
                case measure => go_light; omega
                case rel =>
                  go_light
                  exact ⟨k + 1, xsF, [], b, off, cw, h, lo', hi', am', cm', by omega, rfl, by go_num, rfl, by simp, S8.out.mz, S8.out.mc, S8.out.mf, ⟨S8.out, HV.out, by have := HR.out.2.2; simp at this ⊢; omega⟩⟩
        · obtain ⟨p0, ws, rfl⟩ : ∃ p0 ws, want = p0 :: ws := by cases want with | nil => simp at hf | cons p0 ws => exact ⟨p0, ws, rfl⟩
          clear hf
          obtain ⟨xsF, cF, hst, hF1, hF2, hF4, hF3, hinv⟩ := HR.out.2.1.get
          rw [HC0.out] at hst
          have HST := hidIt hst
          have HV := hidIt hinv
          clear hst hinv
          go_wp2_with fail
          generalize hW : World.alloc _ _ = W0
          have S1 := hidIt (show Rk w P (.slice (some ⟨pg, 0, none⟩) P.length cp) w3.heap.size w4.heap.size w2.heap.size lo hi (.slice am xs.length cm) xs (p0 :: ws) b off cw W0 by rw [← hW]; exact (HR.out.1.grow b5).grow ((Below.refl _ _).alloc (Nat.le_refl _) _))
          have bm : W0.cell? ⟨w2.heap.size, 0, none⟩ = some (.slice am xs.length cm) ∧ W0.frozen? ⟨w2.heap.size, 0, none⟩ = false := ⟨S1.out.mc, S1.out.mf⟩
          have bc : (∀ o, W0.cell? ⟨w5.heap.size, o, none⟩ = #[Value.int .i64 c0.k, .int .i64 c0.a, .int .i64 c0.x, .int .i64 c0.pc, .int .i64 c0.p, .int .i64 c0.c, .int .i64 c0.w, .int .i64 c0.r, .int .i64 c0.v, .bool c0.d][o]?) ∧ (∀ o, W0.frozen? ⟨w5.heap.size, o, none⟩ = false) := by rw [← hW]; exact ⟨fun o => by simp [go_sem], fun o => by simp [go_sem]⟩
          have bz : w5.heap.size < W0.heap.size := by rw [← hW]; simp
          have hBC : w.heap.size ≤ w5.heap.size ∧ w5.heap.size ≠ b ∧ w2.heap.size < w5.heap.size ∧ w4.heap.size ≤ w5.heap.size := by omega
          clear hW b5 hpk q1 q2 hb1
          go_loopg [10] 5 (fun ik s10 wi => ∃ (j : Nat) (xs' : List Int) (lo' hi' : Nat) (am' : Option Addr) (cm' : Nat) (c : Cl), j + ik = 5 ∧ s10 = .int .i64 j ∧ w5.heap.size < wi.heap.size ∧ w2.heap.size < wi.heap.size ∧ wi.cell? ⟨w2.heap.size, 0, none⟩ = some (.slice am' xs'.length cm') ∧ wi.frozen? ⟨w2.heap.size, 0, none⟩ = false ∧ (∀ o, wi.cell? ⟨w5.heap.size, o, none⟩ = #[Value.int .i64 c.k, .int .i64 c.a, .int .i64 c.x, .int .i64 c.pc, .int .i64 c.p, .int .i64 c.c, .int .i64 c.w, .int .i64 c.r, .int .i64 c.v, .bool c.d][o]?) ∧ (∀ o, wi.frozen? ⟨w5.heap.size, o, none⟩ = false) ∧ Hid (Rk w P (.slice (some ⟨pg, 0, none⟩) P.length cp) w3.heap.size w4.heap.size w2.heap.size lo' hi' (.slice am' xs'.length cm') xs' (p0 :: ws) b off cw wi ∧ rSteps N ik xs' c = some (xsF, cF) ∧ xs'.length ≤ 34))
          case atStart => exact ⟨0, xs, lo, hi, am, cm, c0, by omega, rfl, bz, by omega, bm.1, bm.2, bc.1, bc.2, ⟨S1.out, HST.out, by have := HR.out.2.1.len; have := HR.out.2.1.n2; omega⟩⟩
          case round =>
            obtain ⟨j, xs', lo', hi', am', cm', c, hj, rfl, iz1, iz2, i1, i2, i3, i4, HJ⟩ := hrel
            clear bm bc S1 HST bz
            cases hd : c.d with
            | false =>
              obtain ⟨f', L, co, rfl, hst, hst2⟩ := rSteps_some HJ.out.2.1 hd
              have HS := hidIt (And.intro hst2 (rStep_len hst))
              have HST := hidIt hst
              have hj4 : (j : Int) < 5 := by omega
              have hrz' := HJ.out.1.rz
              clear hst hst2
              go_wp2_with fail
              have hcall := impl_ristep_some N c co lo' hi' _ xs' L wr (by have := HJ.out.2.2; omega) hrz' HJ.out.1.row HST.out
              rw [hd] at hcall
              refine hcall.mono ?_
              clear hcall
              rintro e w6 ⟨v6, rfl, r6, b6⟩
              obtain ⟨a6, c6, rfl⟩ := r6.form
              have R6 := hidIt r6
              have z6 := b6.size
              have KB := hidIt b6
              have S6 := hidIt (HJ.out.1.grow b6)
              have n1' : w6.cell? ⟨w2.heap.size, 0, none⟩ = some (.slice am' xs'.length cm') ∧ w6.frozen? ⟨w2.heap.size, 0, none⟩ = false := ⟨S6.out.mc, S6.out.mf⟩
              have n3 : (∀ o, w6.cell? ⟨w5.heap.size, o, none⟩ = #[Value.int .i64 c.k, .int .i64 c.a, .int .i64 c.x, .int .i64 c.pc, .int .i64 c.p, .int .i64 c.c, .int .i64 c.w, .int .i64 c.r, .int .i64 c.v, .bool false][o]?) ∧ (∀ o, w6.frozen? ⟨w5.heap.size, o, none⟩ = false) := ⟨fun o => below_cell b6 iz1 (by rw [i3 o, hd]), fun o => below_frozen b6 iz1 (i4 o)⟩
              have y1' : w2.heap.size < w6.heap.size := by omega
              have y2' : w5.heap.size < w6.heap.size := by omega
              have y3' : ¬ w2.heap.size = w5.heap.size := by omega
              have y4' : w5.heap.size ≠ w2.heap.size := by omega
              clear r6 b6 i1 i2 i3 i4
              go_wp2_with fail
              go_roundg f'
              case measure => go_light; omega
              case rel =>
                generalize hW : World.alloc _ _ = Wn
                have KP : Kp [w2.heap.size, w5.heap.size] w6 Wn := by rw [← hW]; exact (by repeat (first | with_reducible exact Kp.refl _ _ | with_reducible refine Kp.alloc ?_ _ | with_reducible refine Kp.drew ?_ | with_reducible refine Kp.setCell ?_ (by simp)))
                have e1 : Wn.cell? ⟨w2.heap.size, 0, none⟩ = some (.slice a6 L.length c6) ∧ Wn.frozen? ⟨w2.heap.size, 0, none⟩ = false := by rw [← hW]; exact ⟨by simp [go_sem, n1', y1'], by simp [go_sem, n1', y1']⟩
                have e2 : ∀ o, Wn.cell? ⟨w5.heap.size, o, none⟩ = #[Value.int .i64 co.k, .int .i64 co.a, .int .i64 co.x, .int .i64 co.pc, .int .i64 co.p, .int .i64 co.c, .int .i64 co.w, .int .i64 co.r, .int .i64 co.v, .bool co.d][o]? := by rw [← hW]; intro o; rw [World.cell?_alloc_lt _ _ _ (by simp; omega), World.cell?_alloc_lt _ _ _ (by simp; omega)]; exact cells10 (fun o => by rw [World.cell?_setCell_other _ _ _ _ (by simp <;> omega)]; exact n3.1 o) o
                have e3 : ∀ o, Wn.frozen? ⟨w5.heap.size, o, none⟩ = false := by rw [← hW]; intro o; simp [go_sem, n3, y2']
                have KQ := (Kp.of_below (bs := [w2.heap.size, w5.heap.size]) KB.out).trans KP
                have SN := HJ.out.1.newm KQ (by have := HJ.out.1.mw; have := HJ.out.1.a5; have := HJ.out.1.a6; simp; omega) e1.1 e1.2 (KP.row R6.out (Nat.le_refl _) (by simp; omega)) (Nat.le_refl _) KP.size
                have hz := KP.size
                exact ⟨j + 1, L, _, _, a6, c6, co, by omega, by go_num, by omega, by omega, e1.1, e1.2, e2, e3, ⟨SN, HS.out.1, by rw [HS.out.2]; exact HJ.out.2.2⟩⟩
            | true =>
              have e := rSteps_end HJ.out.2.1 hd
              obtain ⟨h1, h2⟩ := Prod.mk.inj e
              subst h1 h2
              clear e
              have S1 := hidIt HJ.out.1
              have HB17 := hidIt HJ.out.2.2
              clear HJ
              by_cases hj5 : j < 5
              · have hj4 : (j : Int) < 5 := by omega
                have hw0 := S1.out.wn.cells 0 (by simp)
                simp only [List.getElem_cons_zero, Nat.add_zero] at hw0
                simp only [List.length_cons] at hcw hwn
                go_wp2_with fail
                go_quiet (fail)
                generalize hX : World.drewN _ _ = X
                have S2 := hidIt (show Rk w P (.slice (some ⟨pg, 0, none⟩) P.length cp) w3.heap.size w4.heap.size w2.heap.size lo' hi' (.slice am' xsF.length cm') xsF (p0 :: ws) b off cw X by rw [← hX]; exact S1.out.grow (below_drewN (Below.refl _ _) _))
                have S3 := hidIt S2.out.tail
                have m9 : X.cell? ⟨w2.heap.size, 0, none⟩ = some (.slice am' xsF.length cm') ∧ X.frozen? ⟨w2.heap.size, 0, none⟩ = false := ⟨S3.out.mc, S3.out.mf⟩
                clear hX S1 i3 i1 i2 i4 hw0 S2
                by_cases hc1 : cw = 1
                · subst hc1
                  obtain rfl : ws = [] := List.length_eq_zero_iff.1 (by omega)
                  have S4 := hidIt (S3.out.void (off' := off))
                  clear S3
                  go_wp2_with fail
                  refine (impl_riitems N lo' hi' _ xsF _ (S4.out).rz (S4.out).row).mono ?_
                  rintro e w7 ⟨v7, rfl, r7, b7⟩
                  rw [RInv.items HV.out] at r7
                  have S7 := hidIt ((S4.out).grow b7)
                  have R7 := hidIt r7
                  obtain ⟨a7, c7, rfl⟩ := r7.form
                  clear r7 b7
                  go_wp2_with fail
                  refine (same_ints _ _ _ b (off) 0 _ (([] : List Int)) (by simp) R7.out S7.out.wn.cells).mono ?_
                  rintro e w8 ⟨rfl, nd, rfl⟩
                  have S8 := hidIt (S7.out.grow (below_drewN (Below.refl _ _) nd))
                  clear R7 S7
                  go_wp2_with fail
                  go_roundg (P.length - (k + 1))
                  case measure => go_light; omega
                  case rel =>
                    go_light
                    exact ⟨k + 1, xsF, ([] : List Int), b, off, 0, (h + 1), lo', hi', am', cm', by omega, rfl, by go_num, by simp, by simp, S8.out.mz, S8.out.mc, S8.out.mf, ⟨S8.out, HV.out, by have := HR.out.2.2; simp at this ⊢; omega⟩⟩
                · go_wp2_with fail
                  refine (impl_riitems N lo' hi' _ xsF _ (S3.out).rz (S3.out).row).mono ?_
                  rintro e w7 ⟨v7, rfl, r7, b7⟩
                  rw [RInv.items HV.out] at r7
                  have S7 := hidIt ((S3.out).grow b7)
                  have R7 := hidIt r7
                  obtain ⟨a7, c7, rfl⟩ := r7.form
                  clear r7 b7
                  go_wp2_with fail
                  refine (same_ints _ _ _ b ((off + 1)) (cw - 1) _ (ws) (by omega) R7.out S7.out.wn.cells).mono ?_
                  rintro e w8 ⟨rfl, nd, rfl⟩
                  have S8 := hidIt (S7.out.grow (below_drewN (Below.refl _ _) nd))
                  clear R7 S7
                  go_wp2_with fail
                  go_roundg (P.length - (k + 1))
                  case measure => go_light; omega
                  case rel =>
                    go_light
                    exact ⟨k + 1, xsF, ws, b, (off + 1), (cw - 1), (h + 1), lo', hi', am', cm', by omega, rfl, by go_num, by simp, by omega, S8.out.mz, S8.out.mc, S8.out.mf, ⟨S8.out, HV.out, by have := HR.out.2.2; simp at this; omega⟩⟩
              · have hj4 : ¬ (j : Int) < 5 := by omega
                have hw0 := S1.out.wn.cells 0 (by simp)
                simp only [List.getElem_cons_zero, Nat.add_zero] at hw0
                simp only [List.length_cons] at hcw hwn
                go_wp2_with fail
                go_quiet (fail)
                generalize hX : World.drewN _ _ = X
                have S2 := hidIt (show Rk w P (.slice (some ⟨pg, 0, none⟩) P.length cp) w3.heap.size w4.heap.size w2.heap.size lo' hi' (.slice am' xsF.length cm') xsF (p0 :: ws) b off cw X by rw [← hX]; exact S1.out.grow (below_drewN (Below.refl _ _) _))
                have S3 := hidIt S2.out.tail
                have m9 : X.cell? ⟨w2.heap.size, 0, none⟩ = some (.slice am' xsF.length cm') ∧ X.frozen? ⟨w2.heap.size, 0, none⟩ = false := ⟨S3.out.mc, S3.out.mf⟩
                clear hX S1 i3 i1 i2 i4 hw0 S2
                by_cases hc1 : cw = 1
                · subst hc1
                  obtain rfl : ws = [] := List.length_eq_zero_iff.1 (by omega)
                  have S4 := hidIt (S3.out.void (off' := off))
                  clear S3
                  go_wp2_with fail
                  refine (impl_riitems N lo' hi' _ xsF _ (S4.out).rz (S4.out).row).mono ?_
                  rintro e w7 ⟨v7, rfl, r7, b7⟩
                  rw [RInv.items HV.out] at r7
                  have S7 := hidIt ((S4.out).grow b7)
                  have R7 := hidIt r7
                  obtain ⟨a7, c7, rfl⟩ := r7.form
                  clear r7 b7
                  go_wp2_with fail
                  refine (same_ints _ _ _ b (off) 0 _ (([] : List Int)) (by simp) R7.out S7.out.wn.cells).mono ?_
                  rintro e w8 ⟨rfl, nd, rfl⟩
                  have S8 := hidIt (S7.out.grow (below_drewN (Below.refl _ _) nd))
                  clear R7 S7
                  go_wp2_with fail
                  go_roundg (P.length - (k + 1))
                  case measure => go_light; omega
                  case rel =>
                    go_light
                    exact ⟨k + 1, xsF, ([] : List Int), b, off, 0, (h + 1), lo', hi', am', cm', by omega, rfl, by go_num, by simp, by simp, S8.out.mz, S8.out.mc, S8.out.mf, ⟨S8.out, HV.out, by have := HR.out.2.2; simp at this ⊢; omega⟩⟩
                · go_wp2_with fail
                  refine (impl_riitems N lo' hi' _ xsF _ (S3.out).rz (S3.out).row).mono ?_
                  rintro e w7 ⟨v7, rfl, r7, b7⟩
                  rw [RInv.items HV.out] at r7
                  have S7 := hidIt ((S3.out).grow b7)
                  have R7 := hidIt r7
                  obtain ⟨a7, c7, rfl⟩ := r7.form
                  clear r7 b7
                  go_wp2_with fail
                  refine (same_ints _ _ _ b ((off + 1)) (cw - 1) _ (ws) (by omega) R7.out S7.out.wn.cells).mono ?_
                  rintro e w8 ⟨rfl, nd, rfl⟩
                  have S8 := hidIt (S7.out.grow (below_drewN (Below.refl _ _) nd))
                  clear R7 S7
                  go_wp2_with fail
                  go_roundg (P.length - (k + 1))
                  case measure => go_light; omega
                  case rel =>
                    go_light
                    exact ⟨k + 1, xsF, ws, b, (off + 1), (cw - 1), (h + 1), lo', hi', am', cm', by omega, rfl, by go_num, by simp, by omega, S8.out.mz, S8.out.mc, S8.out.mf, ⟨S8.out, HV.out, by have := HR.out.2.2; simp at this; omega⟩⟩
    · have hl34 := HR.out.2.1.len
      have hne : ((xs.length : Int) == 2 + 2 * (N : Int)) = true := by simp; omega
      go_wp2
      go_ret
      exact ⟨rfl, HR.out.1.below⟩

end Go.Proofs.Ytpafbijpncjgiaa
