/- A pool copied, by the model: with the room of its free row. -/
import Derived.Test.YtikliofkplbdpaaRows
import Derived.WalkKit
import Derived.ProofKit
import Derived.OpenShut
import Derived.ShutString
import Derived.Test.YtikliofkplbdpaaPoolCopy
namespace Go.Proofs.Ytikliofkplbdpaa
open Go.ChangeShapes Go.WideShapes Go.ChangeAt Go.RowKit
set_option linter.unusedVariables false

theorem step_freshC {w : World} {ops : Array Oper} {o : Oper} {a : Act} {K : Act → World → Prop} {Q : Exit → Act → World → Prop} {E : Prop} (hgd : o.guard = none) (s x : Operand)
    (ho : o.op = .call { callee := .builtin .append, args := #[s, x], argTypes := #[22, 22] }) (g : Addr) (hs : a.eval s = .slice (some g) 0 0)
    (y : Value) (ys : List Int) (hy : a.eval x = y) (hx : IntsIn w y ys) (hl : ys.length ≤ 16777216)
    (h : ∀ a' c' w', ys.length ≤ c' → RowQ w' w.heap.size w'.heap.size (.slice a' ys.length c') ys → Below w.heap.size w w' → K (a.put o.dst (.slice a' ys.length c')) w') : if Region.wanted o (yielded ops a.tmps) = true then Oper.wp Try.prog o a w K Q else E := by
  obtain ⟨i0, hi0, hz0, hz1, hz2⟩ := info_parts info3
  by_cases h0 : 0 < ys.length
  · obtain ⟨⟨a', c', rfl, hx⟩, -⟩ := hx
    rcases hx with rfl | ⟨b, off, rfl, hb, hc⟩
    · exact absurd h0 (by simp)
    refine step_append_new hgd s x 22 ho 3 i0 (.int .i64 0) 1 8 Try.underlying22 hi0 hz0 hz1 hz2 rfl g hs ⟨b, off, none⟩ ys.length c' (ints ys) hy (by simp) (fun j u hj => ?_) h0 (by unfold maxLen; omega) (by omega) ?_
    · obtain ⟨hj1, rfl⟩ := List.getElem?_eq_some_iff.1 hj
      rw [add_none, List.getElem_map]
      exact hc j (by simpa using hj1)
    · intro Zs cap hZ
      have hz := hZ.out
      refine h _ _ _ hz.1 ⟨_, cap, rfl, .inr ⟨w.heap.size, 0, rfl, Nat.le_refl _, by simp, fun j hj => ?_⟩⟩ ((Below.refl _ _).drew.alloc (by simp) _)
      have e1 := congrArg (fun l => l[j]?) hz.2.2.2
      have hj2 : j < Zs.size := by omega
      simp [hj] at e1
      have e2 : Zs[j]? = some (.int .i64 ys[j]) := by
        rw [← Array.getElem?_toList]
        simpa [List.getElem?_take, hj] using e1
      rw [Nat.zero_add]
      exact ((Bx.new w.drew Zs 3).2.1 j).trans e2
  · obtain rfl : ys = [] := List.length_eq_zero_iff.1 (by omega)
    have hw : Region.wanted o (yielded ops a.tmps) = true := by simp [Region.wanted, hgd]
    rw [if_pos hw]
    have hr := run_append_nothing w 22 22 o.type 3 i0 Try.underlying22 hi0 (some g) 0 0 (Nat.le_refl _) _ (nothing_src hx i0.size)
    unfold Oper.wp execOp
    simp only [ho, resolve, invoke, builtin, Sem.run_bind, Sem.run_pure, Result.andThen_ok, List.map_toArray, List.map_cons, List.map_nil, hs, hy, hr]
    exact h (some g) 0 w (Nat.le_refl _) ⟨_, 0, rfl, .inl rfl⟩ (Below.refl _ _)
set_option maxHeartbeats 25600000 in
set_option maxRecDepth 100000 in
theorem spec_copypoolC (w : World) (f p l v : Value) (P : Pl) (hf : PlFit P) (hp : 0 < P.ps.length) (h : PlIn w f p l v P) :
    Calls Try.prog 14 #[.agg #[f, .int .i64 P.a, p, l, v]] w fun e w' => ∃ fa fk p' l' v', e = .returned (.agg #[.slice fa P.fr.length fk, .int .i64 P.a, p', l', v']) ∧ P.fr.length ≤ fk ∧ PlQ w.heap.size w'.heap.size (.slice fa P.fr.length fk) p' l' v' P w' ∧ Below w.heap.size w w' := by
  have H := hidIt h
  obtain ⟨fa, fc, pa, pc, la, lc, va, vc, rfl, rfl, rfl, rfl⟩ := h.form
  clear h
  unfold PlFit at hf
  go_enter Try.func14, Try.ntmps14
  go_wp2_with fail
  generalize hW : World.alloc (World.alloc w _) _ = W0
  have X := bx2 w #[.slice fa P.fr.length fc, .int .i64 P.a, .slice pa P.ps.length pc, .slice la P.L.length lc, .slice va P.lv.length vc] #[.slice none 0 0, .int .i64 0, .slice none 0 0, .slice none 0 0, .slice none 0 0] 33 33
  rw [hW] at X
  clear hW
  obtain ⟨X0, X1, bW, zW⟩ := X
  have H1 := hidIt X1
  have BW := hidIt bW
  have q0 := X0.2.1 0
  have q1 := X0.2.1 1
  have q2 := X0.2.1 2
  have q3 := X0.2.1 3
  have q4 := X0.2.1 4
  simp at q0 q1 q2 q3 q4
  have l0 := X0.1
  clear X0 X1 bW
  have hz2 : w.heap.size + 1 ≤ W0.heap.size := by omega
  have SO := hidIt (fun W (hb : RR (w.heap.size + 1) (w.heap.size + 1) W0 W) => (⟨hb, below_cell (b := w.heap.size) hb.1 (by omega) q0, below_cell (b := w.heap.size) hb.1 (by omega) q1, below_cell (b := w.heap.size) hb.1 (by omega) q2, below_cell (b := w.heap.size) hb.1 (by omega) q3, below_cell (b := w.heap.size) hb.1 (by omega) q4⟩ : RR (w.heap.size + 1) (w.heap.size + 1) W0 W ∧ W.cell? ⟨w.heap.size, 0, none⟩ = some (.slice fa P.fr.length fc) ∧ W.cell? ⟨w.heap.size, 1, none⟩ = some (.int .i64 P.a) ∧ W.cell? ⟨w.heap.size, 2, none⟩ = some (.slice pa P.ps.length pc) ∧ W.cell? ⟨w.heap.size, 3, none⟩ = some (.slice la P.L.length lc) ∧ W.cell? ⟨w.heap.size, 4, none⟩ = some (.slice va P.lv.length vc)))
  have hS := SO.out W0 ⟨Below.refl _ _, _, by simp, H1.out⟩
  have KD := hidIt (fun W (h : RR (w.heap.size + 1) (w.heap.size + 1) W0 W ∧ W.cell? ⟨w.heap.size, 0, none⟩ = some (.slice fa P.fr.length fc) ∧ W.cell? ⟨w.heap.size, 1, none⟩ = some (.int .i64 P.a) ∧ W.cell? ⟨w.heap.size, 2, none⟩ = some (.slice pa P.ps.length pc) ∧ W.cell? ⟨w.heap.size, 3, none⟩ = some (.slice la P.L.length lc) ∧ W.cell? ⟨w.heap.size, 4, none⟩ = some (.slice va P.lv.length vc)) => SO.out W.drew (RR.drew h.1))
  have KA := hidIt (fun W o (h : RR (w.heap.size + 1) (w.heap.size + 1) W0 W ∧ W.cell? ⟨w.heap.size, 0, none⟩ = some (.slice fa P.fr.length fc) ∧ W.cell? ⟨w.heap.size, 1, none⟩ = some (.int .i64 P.a) ∧ W.cell? ⟨w.heap.size, 2, none⟩ = some (.slice pa P.ps.length pc) ∧ W.cell? ⟨w.heap.size, 3, none⟩ = some (.slice la P.L.length lc) ∧ W.cell? ⟨w.heap.size, 4, none⟩ = some (.slice va P.lv.length vc)) => SO.out (W.alloc o) (RR.al hz2 h.1 o))
  have KC := hidIt (fun W Y (h : RR (w.heap.size + 1) (w.heap.size + 1) W0 W ∧ W.cell? ⟨w.heap.size, 0, none⟩ = some (.slice fa P.fr.length fc) ∧ W.cell? ⟨w.heap.size, 1, none⟩ = some (.int .i64 P.a) ∧ W.cell? ⟨w.heap.size, 2, none⟩ = some (.slice pa P.ps.length pc) ∧ W.cell? ⟨w.heap.size, 3, none⟩ = some (.slice la P.L.length lc) ∧ W.cell? ⟨w.heap.size, 4, none⟩ = some (.slice va P.lv.length vc)) (k : Below W.heap.size W Y) => SO.out Y (RR.call hz2 h.1 k))
  have KO := hidIt (fun W Y (h : RR (w.heap.size + 1) (w.heap.size + 1) W0 W ∧ W.cell? ⟨w.heap.size, 0, none⟩ = some (.slice fa P.fr.length fc) ∧ W.cell? ⟨w.heap.size, 1, none⟩ = some (.int .i64 P.a) ∧ W.cell? ⟨w.heap.size, 2, none⟩ = some (.slice pa P.ps.length pc) ∧ W.cell? ⟨w.heap.size, 3, none⟩ = some (.slice la P.L.length lc) ∧ W.cell? ⟨w.heap.size, 4, none⟩ = some (.slice va P.lv.length vc)) (k : Below W.heap.size W Y) => RR.opn (RR.call hz2 h.1 k))
  have KS := hidIt (fun W x0 x1 x2 x3 x4 (h : RR (w.heap.size + 1) (w.heap.size + 1) W0 W ∧ W.cell? ⟨w.heap.size, 0, none⟩ = some (.slice fa P.fr.length fc) ∧ W.cell? ⟨w.heap.size, 1, none⟩ = some (.int .i64 P.a) ∧ W.cell? ⟨w.heap.size, 2, none⟩ = some (.slice pa P.ps.length pc) ∧ W.cell? ⟨w.heap.size, 3, none⟩ = some (.slice la P.L.length lc) ∧ W.cell? ⟨w.heap.size, 4, none⟩ = some (.slice va P.lv.length vc)) => SO.out _ (RR.set5 (x0 := x0) (x1 := x1) (x2 := x2) (x3 := x3) (x4 := x4) h.1 (Nat.le_refl (w.heap.size + 1))))
  have IF := hidIt (fun W (h : RR (w.heap.size + 1) (w.heap.size + 1) W0 W ∧ W.cell? ⟨w.heap.size, 0, none⟩ = some (.slice fa P.fr.length fc) ∧ W.cell? ⟨w.heap.size, 1, none⟩ = some (.int .i64 P.a) ∧ W.cell? ⟨w.heap.size, 2, none⟩ = some (.slice pa P.ps.length pc) ∧ W.cell? ⟨w.heap.size, 3, none⟩ = some (.slice la P.L.length lc) ∧ W.cell? ⟨w.heap.size, 4, none⟩ = some (.slice va P.lv.length vc)) => (H.out.fr.below (BW.out.trans (h.1.1.mono (Nat.le_add_right _ 1))) : IntsIn W (.slice fa P.fr.length fc) P.fr))
  have IV := hidIt (fun W (h : RR (w.heap.size + 1) (w.heap.size + 1) W0 W ∧ W.cell? ⟨w.heap.size, 0, none⟩ = some (.slice fa P.fr.length fc) ∧ W.cell? ⟨w.heap.size, 1, none⟩ = some (.int .i64 P.a) ∧ W.cell? ⟨w.heap.size, 2, none⟩ = some (.slice pa P.ps.length pc) ∧ W.cell? ⟨w.heap.size, 3, none⟩ = some (.slice la P.L.length lc) ∧ W.cell? ⟨w.heap.size, 4, none⟩ = some (.slice va P.lv.length vc)) => (H.out.lv.below (BW.out.trans (h.1.1.mono (Nat.le_add_right _ 1))) : IntsIn W (.slice va P.lv.length vc) P.lv))
  have IA := hidIt (fun W (h : RR (w.heap.size + 1) (w.heap.size + 1) W0 W ∧ W.cell? ⟨w.heap.size, 0, none⟩ = some (.slice fa P.fr.length fc) ∧ W.cell? ⟨w.heap.size, 1, none⟩ = some (.int .i64 P.a) ∧ W.cell? ⟨w.heap.size, 2, none⟩ = some (.slice pa P.ps.length pc) ∧ W.cell? ⟨w.heap.size, 3, none⟩ = some (.slice la P.L.length lc) ∧ W.cell? ⟨w.heap.size, 4, none⟩ = some (.slice va P.lv.length vc)) => (H.out.ag.below (BW.out.trans (h.1.1.mono (Nat.le_add_right _ 1))) : AIn W (.slice pa P.ps.length pc) (.slice la P.L.length lc) P.ps P.L))
  clear q0 q1 q2 q3 q4
  go_region_held3 (fun W => RR (w.heap.size + 1) (w.heap.size + 1) W0 W ∧ W.cell? ⟨w.heap.size, 0, none⟩ = some (.slice fa P.fr.length fc) ∧ W.cell? ⟨w.heap.size, 1, none⟩ = some (.int .i64 P.a) ∧ W.cell? ⟨w.heap.size, 2, none⟩ = some (.slice pa P.ps.length pc) ∧ W.cell? ⟨w.heap.size, 3, none⟩ = some (.slice la P.L.length lc) ∧ W.cell? ⟨w.heap.size, 4, none⟩ = some (.slice va P.lv.length vc))
    (first | ((repeat (first | (with_reducible assumption) | (with_reducible refine KD.out _ ?_) | (with_reducible refine KA.out _ _ ?_) | (with_reducible refine KC.out _ _ ?_ b13) | (with_reducible refine KC.out _ _ ?_ b9') | (with_reducible refine KC.out _ _ ?_ b6) | (with_reducible refine KS.out _ _ _ _ _ _ ?_))); done))
    (first
    | (refine step_freshC rfl (.tmp 3) (.tmp 5) rfl _ rfl _ P.fr rfl ?_ (by omega) ?_; (focus (exact IF.out _ (by with_reducible assumption))); intro a6 k6 w6 hc6 r6 b6)
    | (refine step_freshC rfl (.tmp 10) (.tmp 12) rfl _ rfl _ P.lv rfl ?_ (by omega) ?_; (focus (exact IV.out _ (by with_reducible assumption))); intro a13 k13 w13 hc13 r13 b13; obtain ⟨v130, v131, v132, v133, v134, e130, e131, e132, e133, e134, ef13⟩ := KO.out _ _ (by with_reducible assumption) b13)
    | (go_at_call 34; refine (spec_copyages _ P.a _ _ P.ps P.L (by omega) (by omega) hp (IA.out _ (by with_reducible assumption))).mono ?_; rintro e w9 ⟨p9, l9', rfl, ao9, b9'⟩; have r9 := ao9.ar; obtain ⟨b9, l9, c9, m9, rfl, rfl, -⟩ := r9.form))
  all_goals
    have U6 : Below W0.heap.size W0 w6 := by first | exact bel_call (Below.drew (bel_al (Below.refl _ _) _)) b6 | exact bel_call (Below.drew (bel_al (bel_al (Below.refl _ _) _) _)) b6
    have U9 : Below w6.heap.size w6 w9 := by first | exact b9' | exact bel_call (bel_al (Below.refl _ _) _) b9'
    have U13 : Below w9.heap.size w9 w13 := by first | exact b13 | exact bel_call (bel_al (Below.refl _ _) _) b13
    have g6 := U6.size
    have g9 := U9.size
    have g13 := U13.size
    have HQ := hidIt (show PlQ W0.heap.size w13.heap.size (.slice a6 P.fr.length k6) (.slice b9 P.ps.length l9) (.slice c9 P.L.length m9) (.slice a13 P.lv.length k13) P w13 from
      ⟨(RowQ.loc _ _ _ _ w6 w13 r6 (fun k _ hk => (U9.trans (U13.mono g9)).block k hk)).wide (by first | omega | (simp <;> omega)) (by omega), (r9.below U13).wide (by first | omega | (simp <;> omega)) (by omega), r13.wide (by first | omega | (simp <;> omega)) (by omega)⟩)
    have HB := hidIt (bel_two BW.out (U6.trans ((U9.mono g6).trans (U13.mono (by omega)))))
    have hl2 : w.heap.size + 1 < w13.heap.size := by omega
    clear U6 U9 U13 r6 r9 r13 b6 b9' b13 ao9 KD KA KC KO KS IF IV IA SO hS
    go_wp2
    refine bodyPost_ret (v := .agg #[.slice a6 P.fr.length k6, .int .i64 P.a, .slice b9 P.ps.length l9, .slice c9 P.L.length m9, .slice a13 P.lv.length k13]) (by simp [results, Try.results14, go_sem, e130, e131, e132, e133, e134]) rfl ⟨_, _, _, _, _, rfl, hc6, ?_, ?_⟩
    · exact (((((HQ.out.set (by omega)).set (by omega)).set (by omega)).set (by omega)).set (by omega)).wide (by omega) (by simp)
    · exact bel_set5 HB.out (by omega)

end Go.Proofs.Ytikliofkplbdpaa
