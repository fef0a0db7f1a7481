/- Whether a pool is well, by the model. -/
import Derived.Test.YtikliofkplbdpaaRows
import Derived.WalkKit
import Derived.ProofKit
import Derived.OpenShut
import Derived.ShutString
import Derived.Test.YtikliofkplbdpaaPoolOkPlain
import Derived.Test.YtikliofkplbdpaaPoolRows
import Derived.Test.YtikliofkplbdpaaSpecAgesOk
import Derived.Test.YtikliofkplbdpaaSrcPlain
import Derived.Test.YtikliofkplbdpaaStItemsSpec
import Derived.Test.YtikliofkplbdpaaOwnInts
import Derived.Test.YtikliofkplbdpaaSpecCopy
import Derived.Deep.LoopGhost
import Derived.Deep.RegionHeld3
namespace Go.Proofs.Ytikliofkplbdpaa
open Go.ChangeShapes Go.WideShapes Go.ChangeAt Go.RowKit
set_option linter.unusedVariables false

theorem bel_al {W0 W : World} (h : Below W0.heap.size W0 W) (o : Obj) : Below W0.heap.size W0 (W.alloc o) := h.alloc h.size o
theorem bel_call {W0 W Y : World} (h : Below W0.heap.size W0 W) (k : Below W.heap.size W Y) : Below W0.heap.size W0 Y := h.trans (k.mono h.size)
theorem bel_two {w W0 W : World} (h : Below w.heap.size w W0) (k : Below W0.heap.size W0 W) : Below w.heap.size w W := h.trans (k.mono h.size)
theorem bel_grown {W0 W Y : World} {q : Option Nat} (h : Below W0.heap.size W0 W) (g : W.grownBy Y q) (hq : ∀ j, q = some j → W0.heap.size ≤ j) : Below W0.heap.size W0 Y := h.grown g h.size hq
theorem own_new {W : World} {lo g : Nat} {e : TypeId} {size : Nat} (hg : g = W.heap.size) (hl : lo ≤ g) : (W.alloc (.cells #[] e)).ownsRow lo e size (.slice (some ⟨g, 0, none⟩) 0 0) 0 [] := own_empty (at_new hg) hl
theorem own_new_drew {W : World} {lo g : Nat} {e : TypeId} {size : Nat} (hg : g = W.heap.size) (hl : lo ≤ g) : (W.alloc (.cells #[] e)).drew.ownsRow lo e size (.slice (some ⟨g, 0, none⟩) 0 0) 0 [] := own_empty (at_drew (at_new hg)) hl
theorem step_ints {w : World} {ops : Array Oper} {o : Oper} {a : Act} {K : Act → World → Prop} {Q : Exit → Act → World → Prop} {E : Prop} (hgd : o.guard = none) (s x : Operand)
    (ho : o.op = .call { callee := .builtin .append, args := #[s, x], argTypes := #[22, 22] }) (base : Nat) (v : Value) (xs : List Int) (hs : a.eval s = v) (hown : w.ownsRow base 3 1 v xs.length (ints xs))
    (y : Value) (ys : List Int) (hy : a.eval x = y) (hx : IntsIn w y ys) (h63 : xs.length + ys.length ≤ 16777216) (hbase : base ≤ w.heap.size)
    (h : ∀ v' w', w'.ownsRow base 3 1 v' (xs ++ ys).length (ints (xs ++ ys)) → w.grownBy w' v.ownBlock → (v'.ownBlock = v.ownBlock ∨ v'.ownBlock = some w.heap.size) → K (a.put o.dst v') w') : if Region.wanted o (yielded ops a.tmps) = true then Oper.wp Try.prog o a w K Q else E := by
  obtain ⟨i0, hi0, hz0, hz1, hz2⟩ := info_parts info3
  refine step_append_src w hgd s x 22 ho base 3 i0 (.int .i64 0) 1 8 Try.underlying22 hi0 hz0 hz1 hz2 rfl (by decide) v xs.length (ints xs) hs hown y ys.length (ints ys) hy (src_ints hx) (by unfold maxLen; omega) (by omega) hbase ?_
  intro v' w' h1 h2 h3
  exact h v' w' (by simpa using h1) h2 h3
theorem nodes_take (L : List (Int × Int)) (k : Nat) (hk : k < L.length) : (nodesL L).take (k + 1) = (nodesL L).take k ++ [(goneAt L k).1] := by
  unfold nodesL
  rw [List.take_succ_eq_append_getElem (by simpa using hk), List.getElem_map, goneAt_eq L k hk]
theorem nodes_all (L : List (Int × Int)) : (nodesL L).take L.length = nodesL L := List.take_of_length_le (by simp [nodesL])
theorem own_grow2 {w w' : World} {base : Nat} {e : TypeId} {size n : Nat} {v : Value} {xs : List Value} (h : w.ownsRow base e size v n xs) (hb : Below w.heap.size w w') : w'.ownsRow base e size v n xs := own_below h hb
set_option maxHeartbeats 1600000 in
set_option maxRecDepth 100000 in
theorem spec_all (w : World) (f p l v : Value) (P : Pl) (hf : PlFit P) (h : PlIn w f p l v P) :
    Calls Try.prog 31 #[.agg #[f, .int .i64 P.a, p, l, v]] w fun e w' => ∃ v', e = .returned v' ∧ w'.ownsRow (w.heap.size + 1) 3 1 v' (allOf P).length (ints (allOf P)) ∧ Below w.heap.size w w' := by
  obtain ⟨i0, hi0, hz0, hz1, hz2⟩ := info_parts info3
  have H := hidIt h
  have HF := hidIt hf
  obtain ⟨fa, fc, pa, pc, la, lc, va, vc, rfl, rfl, rfl, rfl⟩ := h.form
  clear h
  unfold PlFit at hf
  go_enter Try.func31, Try.ntmps31
  go_wp2_with fail
  generalize hW : World.alloc w _ = W0
  have X := Bx.new w #[.slice fa P.fr.length fc, .int .i64 P.a, .slice pa P.ps.length pc, .slice la P.L.length lc, .slice va P.lv.length vc] 33
  have bW : Below w.heap.size w W0 := by rw [← hW]; exact (Below.refl _ _).alloc (Nat.le_refl _) _
  have zW : W0.heap.size = w.heap.size + 1 := by rw [← hW]; simp
  rw [hW] at X
  clear hW
  have HX := hidIt X
  have BW := hidIt bW
  clear X bW
  have q0 := HX.out.2.1 0
  have q4 := HX.out.2.1 4
  simp at q0 q4
  have SO := hidIt (fun W (hb : Below W0.heap.size W0 W) => (⟨hb, below_cell hb HX.out.1 q0, below_cell hb HX.out.1 q4⟩ : Below W0.heap.size W0 W ∧ W.cell? ⟨w.heap.size, 0, none⟩ = some (.slice fa P.fr.length fc) ∧ W.cell? ⟨w.heap.size, 4, none⟩ = some (.slice va P.lv.length vc)))
  have hS := SO.out W0 (Below.refl _ _)
  clear q0 q4
  go_cut [3] from 6 to 12 (fun x3 wc => wc.ownsRow (w.heap.size + 1) 3 1 x3 (P.fr.length + P.lv.length) (ints (P.fr ++ P.lv)) ∧ Below W0.heap.size W0 wc)
  case first =>
    go_region_held3 (fun W => Below W0.heap.size W0 W ∧ W.cell? ⟨w.heap.size, 0, none⟩ = some (.slice fa P.fr.length fc) ∧ W.cell? ⟨w.heap.size, 4, none⟩ = some (.slice va P.lv.length vc))
      (first | exact SO.out _ (by assumption) | exact SO.out _ (Below.drew (And.left (by assumption))) | exact SO.out _ (bel_al (And.left (by assumption)) _))
      (first
      | (refine step_ints rfl (.tmp 6) (.tmp 8) rfl (w.heap.size + 1) (.slice (some ⟨w.heap.size + 1, 0, none⟩) 0 0) [] rfl ?_ _ P.fr rfl ?_ (by simp; omega) ?_ ?_; (focus (first | exact own_new_drew zW.symm (Nat.le_refl _) | exact own_new zW.symm (Nat.le_refl _))); (focus (exact H.out.fr.below (bel_two BW.out (And.left (by assumption))))); (focus (exact Nat.le_trans (Nat.le_of_eq zW.symm) (Below.size (And.left (by assumption))))); intro v1 w1 ho1 hg1 _; have hb1 : Below W0.heap.size W0 w1 := bel_grown (And.left (by assumption)) hg1 (fun q hq => by simp [Value.ownBlock] at hq; omega))
      | (refine step_ints rfl (.tmp 9) (.tmp 11) rfl (w.heap.size + 1) _ ([] ++ P.fr) rfl ?_ _ P.lv rfl ?_ (by simp; omega) ?_ ?_; (focus (exact ho1)); (focus (exact H.out.lv.below (bel_two BW.out (And.left (by assumption))))); (focus (exact Nat.le_trans (Nat.le_of_eq zW.symm) (Below.size (And.left (by assumption))))); intro v2 w2 ho2 hg2 _; have hb2 : Below W0.heap.size W0 w2 := bel_grown (And.left (by assumption)) hg2 (fun q hq => by have := (ho1.lt q hq).1; omega)))
    all_goals
      go_wp2_with fail
      go_meet
      exact ⟨by simpa using ho2, hb2⟩
  case rest =>
  obtain ⟨ho, hb⟩ := hcut
  rename World => w1
  have HO := hidIt ho
  have BB := hidIt (bel_two BW.out hb)
  have zz := hb.size
  have k3 := (HX.out.below hb).2.1 3
  have hl1 := (HX.out.below hb).1
  simp at k3
  clear ho hb SO hS
  go_wp2_with fail
  go_loopg [3, 17] P.L.length (fun gk v i wr => ∃ k : Nat, k ≤ P.L.length ∧ gk = P.L.length - k ∧ i = .int .i64 k ∧ wr.ownsRow (w.heap.size + 1) 3 1 v (P.fr.length + P.lv.length + k) (ints (P.fr ++ P.lv ++ (nodesL P.L).take k)) ∧ w.heap.size + 1 ≤ wr.heap.size ∧ Below w.heap.size w wr)
  case atStart => exact ⟨0, Nat.zero_le _, rfl, rfl, by simpa using HO.out, by omega, BB.out⟩
  case round =>
    rename World => wr
    obtain ⟨k, hk, hgk, rfl, hown, hz, hbw⟩ := hrel
    have HG := hidIt hgk
    clear hgk
    by_cases hlt : k < P.L.length
    · have hlt' : (k : Int) < (P.L.length : Int) := by omega
      obtain ⟨la', lc', hv, -, hp⟩ := H.out.ag.limbo.below hbw
      simp at hv
      obtain ⟨rfl, rfl⟩ := hv
      rcases hp with hp | ⟨b, off, rfl, hb, hp⟩
      · rw [hp] at hlt; simp at hlt
      have c1 := (PIn.at hp k hlt).1
      have c2 := (PIn.at hp k hlt).2
      have HS := hidIt (nodes_take P.L k hlt)
      have HO := hidIt (Row.of_owns hown)
      obtain ⟨av, cv, hv⟩ := own_form hown
      subst hv
      have zz2 := hbw.size
      clear hp
      generalize (goneAt P.L k).2 = y at c2
      generalize (goneAt P.L k).1 = q at c1 HS
      go_wp2_with (at_builtin; refine wpList_append_own _ rfl _ _ 22 rfl (w.heap.size + 1) 3 i0 (.int .i64 0) 1 8 Try.underlying22 hi0 hz0 hz1 hz2 rfl (by decide) _ _ _ rfl ((hown.alloc _).alloc _) ⟨wr.heap.size + 1, 0, none⟩ 1 1 [.int .i64 q] rfl rfl ?c1 ?c2 ?c3 ?c4 ?c5 ?_)
      case c1 => have := cell_one_new (wr.alloc (.cells #[.int .i64 q, .int .i64 y] 65)) (.int .i64 q) 3; simpa using this
      case c2 => intro u hu; simp at hu; subst hu; rfl
      case c3 => unfold maxLen; omega
      case c4 => omega
      case c5 => simp; omega
      intro v' w1' hown' hgrow _
      have hb1 : Below w.heap.size w w1' := ((hbw.alloc hbw.size _).alloc (by simp; omega) _).grown hgrow (by simp; omega) (fun j hj => by have := (hown.lt j hj).1; omega)
      have hzz := hgrow.size
      simp at hzz
      clear hgrow hown
      go_wp2
      go_roundg (P.L.length - (k + 1))
      case measure => rw [HG.out]; omega
      case rel =>
        refine ⟨k + 1, by omega, rfl, by go_num, ?_, by omega, hb1⟩
        rw [HS.out]
        simpa [Nat.add_assoc] using hown'
    · obtain rfl : k = P.L.length := by omega
      have e1 : (ints (P.fr ++ P.lv ++ (nodesL P.L).take P.L.length)) = ints (allOf P) := by rw [nodes_all]; simp [allOf]
      have e2 : P.fr.length + P.lv.length + P.L.length = (allOf P).length := (allOf_len P).symm
      rw [e1, e2] at hown
      have HN := hidIt hown
      obtain ⟨av, cv, hv⟩ := own_form hown
      subst hv
      clear hown
      go_wp2
      go_ret
      exact ⟨_, rfl, HN.out, hbw⟩

end Go.Proofs.Ytikliofkplbdpaa
