/- Whether a thread is as it must be, by the program: the loop. -/
import Derived.Test.YtehgacidfepomaaRows
import Derived.WalkKit
import Derived.ProofKit
import Derived.OpenShut
import Derived.ShutString
import Derived.Test.YtehgacidfepomaaCrewThImpl
namespace Go.Proofs.Ytehgacidfepomaa
open Go.ChangeShapes Go.WideShapes Go.ChangeAt Go.RowKit
set_option linter.unusedVariables false

/- what a round knows of the world: the thread's box, the call's box -/
def Pt (w : World) (n : Nat) (T4 C10 : Array Value) (W : World) : Prop := Below w.heap.size w W ∧ Bx W w.heap.size T4 ∧ Bx W n C10
theorem Pt.drew {w W : World} {n : Nat} {T4 C10 : Array Value} (h : Pt w n T4 C10 W) : Pt w n T4 C10 W.drew := ⟨h.1.drew, h.2.1.drew, h.2.2.drew⟩
theorem Pt.grow {w W W' : World} {n : Nat} {T4 C10 : Array Value} (h : Pt w n T4 C10 W) (b : Below W.heap.size W W') : Pt w n T4 C10 W' := ⟨below_step h.1 b, h.2.1.below b, h.2.2.below b⟩
theorem Pt.pack {w W : World} {n : Nat} {T4 C10 : Array Value} (h : Pt w n T4 C10 W) : ∃ P : World → Prop, P W ∧ (∀ X, P X → P X.drew) ∧ (∀ X Y, P X → Below X.heap.size X Y → P Y) ∧ ∀ X, P X → Pt w n T4 C10 X :=
  ⟨Pt w n T4 C10, h, fun _ p => p.drew, fun _ _ p b => p.grow b, fun _ p => p⟩
theorem pt_quiet {P : World → Prop} (h : ∀ X, P X → P X.drew) (n : Nat) (W : World) (p : P W) : P (W.drewN n) := by
  induction n generalizing W with
  | zero => exact p
  | succ n ih => exact h _ (ih W p)
theorem pt_cells_t (w W : World) (n : Nat) (t : Th) (c : Cl) (cb co cc bb bo bc eb eo ec k : Nat) (bv ev : Int) (hd : c.d = true) (h : Pt w n #[.slice (some ⟨cb, co, none⟩) t.cs.length cc, .int .i64 t.at_, .slice (some ⟨bb, bo, none⟩) t.cs.length bc, .slice (some ⟨eb, eo, none⟩) t.cs.length ec] #[.int .i64 c.k, .int .i64 c.a, .int .i64 c.x, .int .i64 c.pc, .int .i64 c.p, .int .i64 c.c, .int .i64 c.w, .int .i64 c.r, .int .i64 c.v, .bool c.d] W) (c8 : bb < w.heap.size ∧ w.cell? ⟨bb, bo + k, none⟩ = some (.int .i64 bv)) (c9 : eb < w.heap.size ∧ w.cell? ⟨eb, eo + k, none⟩ = some (.int .i64 ev)) :
    W.cell? ⟨n, 0, none⟩ = some (.int .i64 c.k) ∧ W.cell? ⟨n, 1, none⟩ = some (.int .i64 c.a) ∧ W.cell? ⟨n, 2, none⟩ = some (.int .i64 c.x) ∧ W.cell? ⟨n, 3, none⟩ = some (.int .i64 c.pc) ∧ W.cell? ⟨n, 4, none⟩ = some (.int .i64 c.p) ∧ W.cell? ⟨n, 5, none⟩ = some (.int .i64 c.c) ∧ W.cell? ⟨n, 6, none⟩ = some (.int .i64 c.w) ∧ W.cell? ⟨n, 7, none⟩ = some (.int .i64 c.r) ∧ W.cell? ⟨n, 8, none⟩ = some (.int .i64 c.v) ∧ W.cell? ⟨n, 9, none⟩ = some (.bool true) ∧ W.cell? ⟨w.heap.size, 1, none⟩ = some (.int .i64 t.at_) ∧ W.cell? ⟨w.heap.size, 2, none⟩ = some (.slice (some ⟨bb, bo, none⟩) t.cs.length bc) ∧ W.cell? ⟨w.heap.size, 3, none⟩ = some (.slice (some ⟨eb, eo, none⟩) t.cs.length ec) ∧ W.cell? ⟨bb, bo + k, none⟩ = some (.int .i64 bv) ∧ W.cell? ⟨eb, eo + k, none⟩ = some (.int .i64 ev) := by
  obtain ⟨h1, h2, h3⟩ := h
  have a0 := h3.2.1 0
  have a1 := h3.2.1 1
  have a2 := h3.2.1 2
  have a3 := h3.2.1 3
  have a4 := h3.2.1 4
  have a5 := h3.2.1 5
  have a6 := h3.2.1 6
  have a7 := h3.2.1 7
  have a8 := h3.2.1 8
  have a9 := h3.2.1 9
  have b1 := h2.2.1 1
  have b2 := h2.2.1 2
  have b3 := h2.2.1 3
  simp at a0 a1 a2 a3 a4 a5 a6 a7 a8 a9 b1 b2 b3
  exact ⟨a0, a1, a2, a3, a4, a5, a6, a7, a8, hd ▸ a9, b1, b2, b3, below_cell h1 c8.1 c8.2, below_cell h1 c9.1 c9.2⟩
theorem pt_cells_f (w W : World) (n : Nat) (t : Th) (c : Cl) (cb co cc bb bo bc eb eo ec k : Nat) (bv ev : Int) (hd : c.d = false) (h : Pt w n #[.slice (some ⟨cb, co, none⟩) t.cs.length cc, .int .i64 t.at_, .slice (some ⟨bb, bo, none⟩) t.cs.length bc, .slice (some ⟨eb, eo, none⟩) t.cs.length ec] #[.int .i64 c.k, .int .i64 c.a, .int .i64 c.x, .int .i64 c.pc, .int .i64 c.p, .int .i64 c.c, .int .i64 c.w, .int .i64 c.r, .int .i64 c.v, .bool c.d] W) (c8 : bb < w.heap.size ∧ w.cell? ⟨bb, bo + k, none⟩ = some (.int .i64 bv)) (c9 : eb < w.heap.size ∧ w.cell? ⟨eb, eo + k, none⟩ = some (.int .i64 ev)) :
    W.cell? ⟨n, 0, none⟩ = some (.int .i64 c.k) ∧ W.cell? ⟨n, 1, none⟩ = some (.int .i64 c.a) ∧ W.cell? ⟨n, 2, none⟩ = some (.int .i64 c.x) ∧ W.cell? ⟨n, 3, none⟩ = some (.int .i64 c.pc) ∧ W.cell? ⟨n, 4, none⟩ = some (.int .i64 c.p) ∧ W.cell? ⟨n, 5, none⟩ = some (.int .i64 c.c) ∧ W.cell? ⟨n, 6, none⟩ = some (.int .i64 c.w) ∧ W.cell? ⟨n, 7, none⟩ = some (.int .i64 c.r) ∧ W.cell? ⟨n, 8, none⟩ = some (.int .i64 c.v) ∧ W.cell? ⟨n, 9, none⟩ = some (.bool false) ∧ W.cell? ⟨w.heap.size, 1, none⟩ = some (.int .i64 t.at_) ∧ W.cell? ⟨w.heap.size, 2, none⟩ = some (.slice (some ⟨bb, bo, none⟩) t.cs.length bc) ∧ W.cell? ⟨w.heap.size, 3, none⟩ = some (.slice (some ⟨eb, eo, none⟩) t.cs.length ec) ∧ W.cell? ⟨bb, bo + k, none⟩ = some (.int .i64 bv) ∧ W.cell? ⟨eb, eo + k, none⟩ = some (.int .i64 ev) := by
  obtain ⟨h1, h2, h3⟩ := h
  have a0 := h3.2.1 0
  have a1 := h3.2.1 1
  have a2 := h3.2.1 2
  have a3 := h3.2.1 3
  have a4 := h3.2.1 4
  have a5 := h3.2.1 5
  have a6 := h3.2.1 6
  have a7 := h3.2.1 7
  have a8 := h3.2.1 8
  have a9 := h3.2.1 9
  have b1 := h2.2.1 1
  have b2 := h2.2.1 2
  have b3 := h2.2.1 3
  simp at a0 a1 a2 a3 a4 a5 a6 a7 a8 a9 b1 b2 b3
  exact ⟨a0, a1, a2, a3, a4, a5, a6, a7, a8, hd ▸ a9, b1, b2, b3, below_cell h1 c8.1 c8.2, below_cell h1 c9.1 c9.2⟩
set_option maxHeartbeats 3200000 in
set_option maxRecDepth 100000 in
theorem impl_thread_some (what clock : Int) (t : Th) (cb co cc bb bo bc eb eo ec : Nat) (w : World) (hw : whB what = true) (hc0 : 0 ≤ clock)
    (l1 : t.cs.length ≤ 12) (l2 : t.bs.length = t.cs.length) (l3 : t.es.length = t.cs.length) (l4 : 0 ≤ t.at_) (l5 : t.at_ ≤ (t.cs.length : Int))
    (hcb : cb < w.heap.size) (hbb : bb < w.heap.size) (heb : eb < w.heap.size)
    (hA : ∀ j (hj : j < t.cs.length), At10 w cb (co + j * 10) t.cs[j]) (hB : ∀ j, j < t.cs.length → w.cell? ⟨bb, bo + j, none⟩ = some (.int .i64 (t.bs.getD j 0))) (hE : ∀ j, j < t.cs.length → w.cell? ⟨eb, eo + j, none⟩ = some (.int .i64 (t.es.getD j 0))) :
    Calls Try.prog 46 #[.int .i64 what, .int .i64 clock, .agg #[.slice (some ⟨cb, co, none⟩) t.cs.length cc, .int .i64 t.at_, .slice (some ⟨bb, bo, none⟩) t.cs.length bc, .slice (some ⟨eb, eo, none⟩) t.cs.length ec]] w fun x w' => x = .returned (.bool (thB what clock t)) ∧ Below w.heap.size w w' := by
  have HA := hidIt hA
  have HBB := hidIt hB
  have HEE := hidIt hE
  have h0 := hidIt hc0
  have HW := hidIt hw
  have L2 := hidIt l2
  have L3 := hidIt l3
  clear hA hB hE hc0 hw l2 l3
  go_enter Try.func46, Try.ntmps46
  have hX0 := Bx.new w #[.slice (some ⟨cb, co, none⟩) t.cs.length cc, .int .i64 t.at_, .slice (some ⟨bb, bo, none⟩) t.cs.length bc, .slice (some ⟨eb, eo, none⟩) t.cs.length ec] 55
  have HX0 := hidIt hX0
  clear hX0
  go_wp2
  go_loopg [43] t.cs.length (fun gk si wr => ∃ k : Nat, k ≤ t.cs.length ∧ gk = t.cs.length - k ∧ si = .int .i64 k ∧ Below w.heap.size w wr ∧ Bx wr w.heap.size #[.slice (some ⟨cb, co, none⟩) t.cs.length cc, .int .i64 t.at_, .slice (some ⟨bb, bo, none⟩) t.cs.length bc, .slice (some ⟨eb, eo, none⟩) t.cs.length ec] ∧ ∀ j (hj : j < t.cs.length), j < k → CallOk what clock t.at_ j t.cs[j] (t.bs.getD j 0) (t.es.getD j 0))
  case atStart => exact ⟨0, Nat.zero_le _, rfl, rfl, (Below.refl _ _).alloc (Nat.le_refl _) _, HX0.out, fun j hj hjk => by omega⟩
  case round =>
    obtain ⟨k, hk, hgk, rfl, hbw, hX, hok⟩ := hrel
    have HOK := hidIt hok
    have HX := hidIt hX
    have HG := hidIt hgk
    clear hok hX hgk
    by_cases hlt : k < t.cs.length
    · have hlt' : (k : Int) < (t.cs.length : Int) := by omega
      obtain ⟨r0, r1, r2, r3, r4, r5, r6, r7, r8, r9⟩ := (HA.out k hlt).of (fun q => hbw.cell (p := ⟨cb, q, none⟩) hcb)
      obtain ⟨bv, hbv⟩ : ∃ bv, t.bs.getD k 0 = bv := ⟨_, rfl⟩
      obtain ⟨ev, hev⟩ : ∃ ev, t.es.getD k 0 = ev := ⟨_, rfl⟩
      have C8 := hidIt (And.intro hbb (hbv ▸ HBB.out k hlt))
      have C9 := hidIt (And.intro heb (hev ▸ HEE.out k hlt))
      have HBV := hidIt hbv
      have HEV := hidIt hev
      obtain ⟨c, hy⟩ : ∃ c, t.cs[k] = c := ⟨_, rfl⟩
      rw [hy] at r0 r1 r2 r3 r4 r5 r6 r7 r8 r9
      have HY := hidIt hy
      clear hbv hev hy
      have t1 := HX.out.2.1 1
      simp at t1
      go_wp2_with fail
      clear r0 r1 r2 r3 r4 r5 r6 r7 r8 r9 t1
      generalize hW : World.alloc wr _ = W1
      have hp1 : Pt w wr.heap.size #[.slice (some ⟨cb, co, none⟩) t.cs.length cc, .int .i64 t.at_, .slice (some ⟨bb, bo, none⟩) t.cs.length bc, .slice (some ⟨eb, eo, none⟩) t.cs.length ec] #[.int .i64 c.k, .int .i64 c.a, .int .i64 c.x, .int .i64 c.pc, .int .i64 c.p, .int .i64 c.c, .int .i64 c.w, .int .i64 c.r, .int .i64 c.v, .bool c.d] W1 := by
        rw [← hW]
        exact ⟨hbw.alloc hbw.size _, HX.out.alloc _, Bx.new _ _ _⟩
      obtain ⟨PT, p0, pd, pg, pt⟩ := hp1.pack
      have HP := hidIt p0
      have PD := hidIt pd
      have PG := hidIt pg
      have PTI := hidIt pt
      have PB := hidIt (fun W (h : PT W) => (pt W h).1)
      have PX := hidIt (fun W (h : PT W) => (pt W h).2.1)
      clear hW hbw HX hp1 p0 pd pg pt
      by_cases hd0 : c.d = true
      · have hd := hidIt hd0
        have PC := hidIt (fun W (h : PT W) => pt_cells_t w W wr.heap.size t c cb co cc bb bo bc eb eo ec k bv ev hd0 (PTI.out W h) C8.out C9.out)
        have h6 := and_mk PC.out HP.out
        clear hd0
        by_cases hlat : (k : Int) < t.at_
        · have hgt : decide (t.at_ < (k : Int)) = false := decide_eq_false (by omega)
          have HLT := hidIt hlat
          go_quiet (fail)
          go_wp2_with fail
          generalize hW2 : World.drewN _ _ = W2
          have HP2 := hidIt (show PT W2 from hW2 ▸ pt_quiet PD.out _ _ HP.out)
          clear hW2 h6 hlat hgt
          have h6 := and_mk PC.out HP2.out
          obtain ⟨q, hq⟩ : ∃ q, timesB clock c bv ev = q := ⟨_, rfl⟩
          have HQ := hidIt hq
          have HTM := hidIt (fun W => impl_times clock c bv ev W h0.out)
          rw [hq] at HTM
          rw [show (.agg #[.int .i64 c.k, .int .i64 c.a, .int .i64 c.x, .int .i64 c.pc, .int .i64 c.p, .int .i64 c.c, .int .i64 c.w, .int .i64 c.r, .int .i64 c.v, .bool c.d] : Value) = .agg #[.int .i64 c.k, .int .i64 c.a, .int .i64 c.x, .int .i64 c.pc, .int .i64 c.p, .int .i64 c.c, .int .i64 c.w, .int .i64 c.r, .int .i64 c.v, .bool true] by rw [hd.out]] at HTM
          clear hq
          cases q
          · go_region_held3 (fun W => PT W ∧ W.cell? ⟨wr.heap.size, 0, none⟩ = some (.int .i64 c.k) ∧ W.cell? ⟨wr.heap.size, 1, none⟩ = some (.int .i64 c.a) ∧ W.cell? ⟨wr.heap.size, 2, none⟩ = some (.int .i64 c.x) ∧ W.cell? ⟨wr.heap.size, 3, none⟩ = some (.int .i64 c.pc) ∧ W.cell? ⟨wr.heap.size, 4, none⟩ = some (.int .i64 c.p) ∧ W.cell? ⟨wr.heap.size, 5, none⟩ = some (.int .i64 c.c) ∧ W.cell? ⟨wr.heap.size, 6, none⟩ = some (.int .i64 c.w) ∧ W.cell? ⟨wr.heap.size, 7, none⟩ = some (.int .i64 c.r) ∧ W.cell? ⟨wr.heap.size, 8, none⟩ = some (.int .i64 c.v) ∧ W.cell? ⟨wr.heap.size, 9, none⟩ = some (.bool true) ∧ W.cell? ⟨w.heap.size, 1, none⟩ = some (.int .i64 t.at_) ∧ W.cell? ⟨w.heap.size, 2, none⟩ = some (.slice (some ⟨bb, bo, none⟩) t.cs.length bc) ∧ W.cell? ⟨w.heap.size, 3, none⟩ = some (.slice (some ⟨eb, eo, none⟩) t.cs.length ec) ∧ W.cell? ⟨bb, bo + k, none⟩ = some (.int .i64 bv) ∧ W.cell? ⟨eb, eo + k, none⟩ = some (.int .i64 ev))
              (first | exact and_mk PC.out (PD.out _ (And.left (by assumption))) | exact and_mk PC.out (PG.out _ _ (And.left (by assumption)) (by assumption)))
              (first | (go_at_call 67; refine (HTM.out _).mono ?_; rintro e wa ⟨rfl, ba⟩))
            rename_i h7
            go_wp2
            go_ret
            exact ⟨ret_boolx (thB_no (fun hh => by have := (hh.2.2.2.2.2 k hlt).2.2; rw [HY.out, HBV.out, HEV.out, HQ.out] at this; cases this)).symm, PB.out _ h7.1⟩
          · go_region_held3 (fun W => PT W ∧ W.cell? ⟨wr.heap.size, 0, none⟩ = some (.int .i64 c.k) ∧ W.cell? ⟨wr.heap.size, 1, none⟩ = some (.int .i64 c.a) ∧ W.cell? ⟨wr.heap.size, 2, none⟩ = some (.int .i64 c.x) ∧ W.cell? ⟨wr.heap.size, 3, none⟩ = some (.int .i64 c.pc) ∧ W.cell? ⟨wr.heap.size, 4, none⟩ = some (.int .i64 c.p) ∧ W.cell? ⟨wr.heap.size, 5, none⟩ = some (.int .i64 c.c) ∧ W.cell? ⟨wr.heap.size, 6, none⟩ = some (.int .i64 c.w) ∧ W.cell? ⟨wr.heap.size, 7, none⟩ = some (.int .i64 c.r) ∧ W.cell? ⟨wr.heap.size, 8, none⟩ = some (.int .i64 c.v) ∧ W.cell? ⟨wr.heap.size, 9, none⟩ = some (.bool true) ∧ W.cell? ⟨w.heap.size, 1, none⟩ = some (.int .i64 t.at_) ∧ W.cell? ⟨w.heap.size, 2, none⟩ = some (.slice (some ⟨bb, bo, none⟩) t.cs.length bc) ∧ W.cell? ⟨w.heap.size, 3, none⟩ = some (.slice (some ⟨eb, eo, none⟩) t.cs.length ec) ∧ W.cell? ⟨bb, bo + k, none⟩ = some (.int .i64 bv) ∧ W.cell? ⟨eb, eo + k, none⟩ = some (.int .i64 ev))
              (first | exact and_mk PC.out (PD.out _ (And.left (by assumption))) | exact and_mk PC.out (PG.out _ _ (And.left (by assumption)) (by assumption)))
              (first | (go_at_call 67; refine (HTM.out _).mono ?_; rintro e wa ⟨rfl, ba⟩))
            rename_i h7
            go_wp2
            go_roundg (t.cs.length - (k + 1))
            case measure => rw [HG.out]; omega
            case rel =>
              refine ⟨k + 1, by omega, rfl, by go_num, PB.out _ h7.1, PX.out _ h7.1, ?_⟩
              intro j hj hjk
              by_cases ej : j = k
              · subst ej
                rw [HY.out, HBV.out, HEV.out]
                exact ⟨⟨fun _ => HLT.out, fun _ => hd.out⟩, fun h => absurd h (by have := HLT.out; omega), HQ.out⟩
              · exact HOK.out j hj (by omega)
        · have HLT := hidIt hlat
          go_quiet (fail)
          go_wp2
          go_ret
          exact ⟨ret_boolx (thB_no (fun hh => by have h1 := (hh.2.2.2.2.2 k hlt).1; rw [HY.out] at h1; have := h1.1 hd.out; have := HLT.out; omega)).symm, PB.out _ (pt_quiet PD.out _ _ HP.out)⟩
      · have hd1 : c.d = false := by simpa using hd0
        have hd := hidIt hd1
        have PC := hidIt (fun W (h : PT W) => pt_cells_f w W wr.heap.size t c cb co cc bb bo bc eb eo ec k bv ev hd1 (PTI.out W h) C8.out C9.out)
        have h6 := and_mk PC.out HP.out
        have hcf : (.agg #[.int .i64 c.k, .int .i64 c.a, .int .i64 c.x, .int .i64 c.pc, .int .i64 c.p, .int .i64 c.c, .int .i64 c.w, .int .i64 c.r, .int .i64 c.v, .bool c.d] : Value) = .agg #[.int .i64 c.k, .int .i64 c.a, .int .i64 c.x, .int .i64 c.pc, .int .i64 c.p, .int .i64 c.c, .int .i64 c.w, .int .i64 c.r, .int .i64 c.v, .bool false] := by rw [hd1]
        have HCF := hidIt hcf
        clear hd0 hd1 hcf
        by_cases hlat : (k : Int) < t.at_
        · have HLT := hidIt hlat
          go_quiet (fail)
          go_wp2
          go_ret
          exact ⟨ret_boolx (thB_no (fun hh => by have h1 := (hh.2.2.2.2.2 k hlt).1; rw [HY.out] at h1; have h2 := h1.2 HLT.out; rw [hd.out] at h2; cases h2)).symm, PB.out _ (pt_quiet PD.out _ _ HP.out)⟩
        · by_cases hgt : t.at_ < (k : Int)
          · have HGT := hidIt hgt
            have HLT := hidIt hlat
            have HBG := hidIt (fun W => impl_begin what c W HW.out)
            rw [HCF.out] at HBG
            by_cases hcb0 : c = begC what c
            · have HCB := hidIt hcb0
              rw [← hcb0, HCF.out] at HBG
              clear hcb0
              go_region_held3 (fun W => PT W ∧ W.cell? ⟨wr.heap.size, 0, none⟩ = some (.int .i64 c.k) ∧ W.cell? ⟨wr.heap.size, 1, none⟩ = some (.int .i64 c.a) ∧ W.cell? ⟨wr.heap.size, 2, none⟩ = some (.int .i64 c.x) ∧ W.cell? ⟨wr.heap.size, 3, none⟩ = some (.int .i64 c.pc) ∧ W.cell? ⟨wr.heap.size, 4, none⟩ = some (.int .i64 c.p) ∧ W.cell? ⟨wr.heap.size, 5, none⟩ = some (.int .i64 c.c) ∧ W.cell? ⟨wr.heap.size, 6, none⟩ = some (.int .i64 c.w) ∧ W.cell? ⟨wr.heap.size, 7, none⟩ = some (.int .i64 c.r) ∧ W.cell? ⟨wr.heap.size, 8, none⟩ = some (.int .i64 c.v) ∧ W.cell? ⟨wr.heap.size, 9, none⟩ = some (.bool false) ∧ W.cell? ⟨w.heap.size, 1, none⟩ = some (.int .i64 t.at_) ∧ W.cell? ⟨w.heap.size, 2, none⟩ = some (.slice (some ⟨bb, bo, none⟩) t.cs.length bc) ∧ W.cell? ⟨w.heap.size, 3, none⟩ = some (.slice (some ⟨eb, eo, none⟩) t.cs.length ec) ∧ W.cell? ⟨bb, bo + k, none⟩ = some (.int .i64 bv) ∧ W.cell? ⟨eb, eo + k, none⟩ = some (.int .i64 ev))
                (first | exact and_mk PC.out (PD.out _ (And.left (by assumption))) | exact and_mk PC.out (PG.out _ _ (And.left (by assumption)) (by assumption)))
                (first | (go_at_call 61; refine (HBG.out _).mono ?_; rintro e wa ⟨rfl, ba⟩))
              rename_i h7
              have HP2 := hidIt h7.1
              clear h6 h7 hlat hgt
              go_wp2_with fail
              have h6 := and_mk PC.out HP2.out
              obtain ⟨q, hq⟩ : ∃ q, timesB clock c bv ev = q := ⟨_, rfl⟩
              have HQ := hidIt hq
              have HTM := hidIt (fun W => impl_times clock c bv ev W h0.out)
              rw [hq] at HTM
              rw [show (.agg #[.int .i64 c.k, .int .i64 c.a, .int .i64 c.x, .int .i64 c.pc, .int .i64 c.p, .int .i64 c.c, .int .i64 c.w, .int .i64 c.r, .int .i64 c.v, .bool c.d] : Value) = .agg #[.int .i64 c.k, .int .i64 c.a, .int .i64 c.x, .int .i64 c.pc, .int .i64 c.p, .int .i64 c.c, .int .i64 c.w, .int .i64 c.r, .int .i64 c.v, .bool false] by rw [hd.out]] at HTM
              clear hq
              cases q
              · go_region_held3 (fun W => PT W ∧ W.cell? ⟨wr.heap.size, 0, none⟩ = some (.int .i64 c.k) ∧ W.cell? ⟨wr.heap.size, 1, none⟩ = some (.int .i64 c.a) ∧ W.cell? ⟨wr.heap.size, 2, none⟩ = some (.int .i64 c.x) ∧ W.cell? ⟨wr.heap.size, 3, none⟩ = some (.int .i64 c.pc) ∧ W.cell? ⟨wr.heap.size, 4, none⟩ = some (.int .i64 c.p) ∧ W.cell? ⟨wr.heap.size, 5, none⟩ = some (.int .i64 c.c) ∧ W.cell? ⟨wr.heap.size, 6, none⟩ = some (.int .i64 c.w) ∧ W.cell? ⟨wr.heap.size, 7, none⟩ = some (.int .i64 c.r) ∧ W.cell? ⟨wr.heap.size, 8, none⟩ = some (.int .i64 c.v) ∧ W.cell? ⟨wr.heap.size, 9, none⟩ = some (.bool false) ∧ W.cell? ⟨w.heap.size, 1, none⟩ = some (.int .i64 t.at_) ∧ W.cell? ⟨w.heap.size, 2, none⟩ = some (.slice (some ⟨bb, bo, none⟩) t.cs.length bc) ∧ W.cell? ⟨w.heap.size, 3, none⟩ = some (.slice (some ⟨eb, eo, none⟩) t.cs.length ec) ∧ W.cell? ⟨bb, bo + k, none⟩ = some (.int .i64 bv) ∧ W.cell? ⟨eb, eo + k, none⟩ = some (.int .i64 ev))
                  (first | exact and_mk PC.out (PD.out _ (And.left (by assumption))) | exact and_mk PC.out (PG.out _ _ (And.left (by assumption)) (by assumption)))
                  (first | (go_at_call 67; refine (HTM.out _).mono ?_; rintro e wa ⟨rfl, ba⟩))
                rename_i h7
                go_wp2
                go_ret
                exact ⟨ret_boolx (thB_no (fun hh => by have := (hh.2.2.2.2.2 k hlt).2.2; rw [HY.out, HBV.out, HEV.out, HQ.out] at this; cases this)).symm, PB.out _ h7.1⟩
              · go_region_held3 (fun W => PT W ∧ W.cell? ⟨wr.heap.size, 0, none⟩ = some (.int .i64 c.k) ∧ W.cell? ⟨wr.heap.size, 1, none⟩ = some (.int .i64 c.a) ∧ W.cell? ⟨wr.heap.size, 2, none⟩ = some (.int .i64 c.x) ∧ W.cell? ⟨wr.heap.size, 3, none⟩ = some (.int .i64 c.pc) ∧ W.cell? ⟨wr.heap.size, 4, none⟩ = some (.int .i64 c.p) ∧ W.cell? ⟨wr.heap.size, 5, none⟩ = some (.int .i64 c.c) ∧ W.cell? ⟨wr.heap.size, 6, none⟩ = some (.int .i64 c.w) ∧ W.cell? ⟨wr.heap.size, 7, none⟩ = some (.int .i64 c.r) ∧ W.cell? ⟨wr.heap.size, 8, none⟩ = some (.int .i64 c.v) ∧ W.cell? ⟨wr.heap.size, 9, none⟩ = some (.bool false) ∧ W.cell? ⟨w.heap.size, 1, none⟩ = some (.int .i64 t.at_) ∧ W.cell? ⟨w.heap.size, 2, none⟩ = some (.slice (some ⟨bb, bo, none⟩) t.cs.length bc) ∧ W.cell? ⟨w.heap.size, 3, none⟩ = some (.slice (some ⟨eb, eo, none⟩) t.cs.length ec) ∧ W.cell? ⟨bb, bo + k, none⟩ = some (.int .i64 bv) ∧ W.cell? ⟨eb, eo + k, none⟩ = some (.int .i64 ev))
                  (first | exact and_mk PC.out (PD.out _ (And.left (by assumption))) | exact and_mk PC.out (PG.out _ _ (And.left (by assumption)) (by assumption)))
                  (first | (go_at_call 67; refine (HTM.out _).mono ?_; rintro e wa ⟨rfl, ba⟩))
                rename_i h7
                go_wp2
                go_roundg (t.cs.length - (k + 1))
                case measure => rw [HG.out]; omega
                case rel =>
                  refine ⟨k + 1, by omega, rfl, by go_num, PB.out _ h7.1, PX.out _ h7.1, ?_⟩
                  intro j hj hjk
                  by_cases ej : j = k
                  · subst ej
                    rw [HY.out, HBV.out, HEV.out]
                    exact ⟨⟨fun h => (by rw [hd.out] at h; cases h), fun h => absurd h (by have := HLT.out; omega)⟩, fun _ => HCB.out, HQ.out⟩
                  · exact HOK.out j hj (by omega)
            · have HCB := hidIt hcb0
              have hdf := fun W => call_diff c (begC what c) W hcb0
              rw [HCF.out] at hdf
              generalize begC what c = b at HBG hdf
              clear hcb0
              go_region_held3 (fun W => PT W ∧ W.cell? ⟨wr.heap.size, 0, none⟩ = some (.int .i64 c.k) ∧ W.cell? ⟨wr.heap.size, 1, none⟩ = some (.int .i64 c.a) ∧ W.cell? ⟨wr.heap.size, 2, none⟩ = some (.int .i64 c.x) ∧ W.cell? ⟨wr.heap.size, 3, none⟩ = some (.int .i64 c.pc) ∧ W.cell? ⟨wr.heap.size, 4, none⟩ = some (.int .i64 c.p) ∧ W.cell? ⟨wr.heap.size, 5, none⟩ = some (.int .i64 c.c) ∧ W.cell? ⟨wr.heap.size, 6, none⟩ = some (.int .i64 c.w) ∧ W.cell? ⟨wr.heap.size, 7, none⟩ = some (.int .i64 c.r) ∧ W.cell? ⟨wr.heap.size, 8, none⟩ = some (.int .i64 c.v) ∧ W.cell? ⟨wr.heap.size, 9, none⟩ = some (.bool false) ∧ W.cell? ⟨w.heap.size, 1, none⟩ = some (.int .i64 t.at_) ∧ W.cell? ⟨w.heap.size, 2, none⟩ = some (.slice (some ⟨bb, bo, none⟩) t.cs.length bc) ∧ W.cell? ⟨w.heap.size, 3, none⟩ = some (.slice (some ⟨eb, eo, none⟩) t.cs.length ec) ∧ W.cell? ⟨bb, bo + k, none⟩ = some (.int .i64 bv) ∧ W.cell? ⟨eb, eo + k, none⟩ = some (.int .i64 ev))
                (first | exact and_mk PC.out (PD.out _ (And.left (by assumption))) | exact and_mk PC.out (PG.out _ _ (And.left (by assumption)) (by assumption)))
                (first | (go_at_call 61; refine (HBG.out _).mono ?_; rintro e wa ⟨rfl, ba⟩))
              rename_i h7
              go_wp2
              go_ret
              exact ⟨ret_boolx (thB_no (fun hh => by have h1 := (hh.2.2.2.2.2 k hlt).2.1; rw [HY.out] at h1; exact HCB.out (h1 HGT.out))).symm, PB.out _ h7.1⟩
          · have hgt' : decide (t.at_ < (k : Int)) = false := decide_eq_false hgt
            have HLT := hidIt hlat
            have HGT := hidIt hgt
            go_quiet (fail)
            go_wp2_with fail
            generalize hW2 : World.drewN _ _ = W2
            have HP2 := hidIt (show PT W2 from hW2 ▸ pt_quiet PD.out _ _ HP.out)
            clear hW2 h6 hlat hgt hgt'
            have h6 := and_mk PC.out HP2.out
            obtain ⟨q, hq⟩ : ∃ q, timesB clock c bv ev = q := ⟨_, rfl⟩
            have HQ := hidIt hq
            have HTM := hidIt (fun W => impl_times clock c bv ev W h0.out)
            rw [hq] at HTM
            rw [show (.agg #[.int .i64 c.k, .int .i64 c.a, .int .i64 c.x, .int .i64 c.pc, .int .i64 c.p, .int .i64 c.c, .int .i64 c.w, .int .i64 c.r, .int .i64 c.v, .bool c.d] : Value) = .agg #[.int .i64 c.k, .int .i64 c.a, .int .i64 c.x, .int .i64 c.pc, .int .i64 c.p, .int .i64 c.c, .int .i64 c.w, .int .i64 c.r, .int .i64 c.v, .bool false] by rw [hd.out]] at HTM
            clear hq
            cases q
            · go_region_held3 (fun W => PT W ∧ W.cell? ⟨wr.heap.size, 0, none⟩ = some (.int .i64 c.k) ∧ W.cell? ⟨wr.heap.size, 1, none⟩ = some (.int .i64 c.a) ∧ W.cell? ⟨wr.heap.size, 2, none⟩ = some (.int .i64 c.x) ∧ W.cell? ⟨wr.heap.size, 3, none⟩ = some (.int .i64 c.pc) ∧ W.cell? ⟨wr.heap.size, 4, none⟩ = some (.int .i64 c.p) ∧ W.cell? ⟨wr.heap.size, 5, none⟩ = some (.int .i64 c.c) ∧ W.cell? ⟨wr.heap.size, 6, none⟩ = some (.int .i64 c.w) ∧ W.cell? ⟨wr.heap.size, 7, none⟩ = some (.int .i64 c.r) ∧ W.cell? ⟨wr.heap.size, 8, none⟩ = some (.int .i64 c.v) ∧ W.cell? ⟨wr.heap.size, 9, none⟩ = some (.bool false) ∧ W.cell? ⟨w.heap.size, 1, none⟩ = some (.int .i64 t.at_) ∧ W.cell? ⟨w.heap.size, 2, none⟩ = some (.slice (some ⟨bb, bo, none⟩) t.cs.length bc) ∧ W.cell? ⟨w.heap.size, 3, none⟩ = some (.slice (some ⟨eb, eo, none⟩) t.cs.length ec) ∧ W.cell? ⟨bb, bo + k, none⟩ = some (.int .i64 bv) ∧ W.cell? ⟨eb, eo + k, none⟩ = some (.int .i64 ev))
                (first | exact and_mk PC.out (PD.out _ (And.left (by assumption))) | exact and_mk PC.out (PG.out _ _ (And.left (by assumption)) (by assumption)))
                (first | (go_at_call 67; refine (HTM.out _).mono ?_; rintro e wa ⟨rfl, ba⟩))
              rename_i h7
              go_wp2
              go_ret
              exact ⟨ret_boolx (thB_no (fun hh => by have := (hh.2.2.2.2.2 k hlt).2.2; rw [HY.out, HBV.out, HEV.out, HQ.out] at this; cases this)).symm, PB.out _ h7.1⟩
            · go_region_held3 (fun W => PT W ∧ W.cell? ⟨wr.heap.size, 0, none⟩ = some (.int .i64 c.k) ∧ W.cell? ⟨wr.heap.size, 1, none⟩ = some (.int .i64 c.a) ∧ W.cell? ⟨wr.heap.size, 2, none⟩ = some (.int .i64 c.x) ∧ W.cell? ⟨wr.heap.size, 3, none⟩ = some (.int .i64 c.pc) ∧ W.cell? ⟨wr.heap.size, 4, none⟩ = some (.int .i64 c.p) ∧ W.cell? ⟨wr.heap.size, 5, none⟩ = some (.int .i64 c.c) ∧ W.cell? ⟨wr.heap.size, 6, none⟩ = some (.int .i64 c.w) ∧ W.cell? ⟨wr.heap.size, 7, none⟩ = some (.int .i64 c.r) ∧ W.cell? ⟨wr.heap.size, 8, none⟩ = some (.int .i64 c.v) ∧ W.cell? ⟨wr.heap.size, 9, none⟩ = some (.bool false) ∧ W.cell? ⟨w.heap.size, 1, none⟩ = some (.int .i64 t.at_) ∧ W.cell? ⟨w.heap.size, 2, none⟩ = some (.slice (some ⟨bb, bo, none⟩) t.cs.length bc) ∧ W.cell? ⟨w.heap.size, 3, none⟩ = some (.slice (some ⟨eb, eo, none⟩) t.cs.length ec) ∧ W.cell? ⟨bb, bo + k, none⟩ = some (.int .i64 bv) ∧ W.cell? ⟨eb, eo + k, none⟩ = some (.int .i64 ev))
                (first | exact and_mk PC.out (PD.out _ (And.left (by assumption))) | exact and_mk PC.out (PG.out _ _ (And.left (by assumption)) (by assumption)))
                (first | (go_at_call 67; refine (HTM.out _).mono ?_; rintro e wa ⟨rfl, ba⟩))
              rename_i h7
              go_wp2
              go_roundg (t.cs.length - (k + 1))
              case measure => rw [HG.out]; omega
              case rel =>
                refine ⟨k + 1, by omega, rfl, by go_num, PB.out _ h7.1, PX.out _ h7.1, ?_⟩
                intro j hj hjk
                by_cases ej : j = k
                · subst ej
                  rw [HY.out, HBV.out, HEV.out]
                  exact ⟨⟨fun h => (by rw [hd.out] at h; cases h), fun h => absurd h (by have := HLT.out; omega)⟩, fun h => absurd h (by have := HGT.out; omega), HQ.out⟩
                · exact HOK.out j hj (by omega)
    · obtain rfl : k = t.cs.length := by omega
      go_wp2
      go_ret
      exact ⟨ret_boolx (thB_yes ⟨l1, L2.out, L3.out, l4, l5, fun j hj => HOK.out j hj hj⟩).symm, hbw⟩

end Go.Proofs.Ytehgacidfepomaa
