/- Epochs copied, by the model. -/
import Derived.Test.YtikliofkplbdpaaRows
import Derived.WalkKit
import Derived.ProofKit
import Derived.OpenShut
import Derived.ShutString
import Derived.Test.YtikliofkplbdpaaAtPlain
import Derived.Test.YtikliofkplbdpaaImplCopy
import Derived.Deep.RegionLaw
namespace Go.Proofs.Ytikliofkplbdpaa
open Go.ChangeShapes Go.WideShapes Go.ChangeAt Go.RowKit
set_option linter.unusedVariables false

/- what the model's copy leaves: two rows of its own, in the result -/
def CsR (w : World) (a : Int) (ps : List Int) (L : List (Int × Int)) (W : World) : Prop :=
  ∃ p l, W.cell? ⟨w.heap.size + 1, 0, none⟩ = some (.int .i64 a) ∧ W.cell? ⟨w.heap.size + 1, 1, none⟩ = some p ∧ W.cell? ⟨w.heap.size + 1, 2, none⟩ = some l ∧ AO w.heap.size p l ps L W ∧ Below w.heap.size w W
theorem own_empty {W : World} {lo g : Nat} {e : TypeId} {size : Nat} (hg : W.heap[g]? = some (.cells #[] e (0, 0))) (hl : lo ≤ g) : W.ownsRow lo e size (.slice (some ⟨g, 0, none⟩) 0 0) 0 [] := own_of_block hg hl (Nat.le_refl _) (by unfold maxLen; omega) (by simp) (by simp) (by simp)

theorem s_al {w W : World} {x0 x1 x2 : Value} (h : Below w.heap.size w W ∧ W.cell? ⟨w.heap.size, 0, none⟩ = some x0 ∧ W.cell? ⟨w.heap.size, 1, none⟩ = some x1 ∧ W.cell? ⟨w.heap.size, 2, none⟩ = some x2 ∧ w.heap.size + 2 ≤ W.heap.size) (o : Obj) : Below w.heap.size w (W.alloc o) ∧ (W.alloc o).cell? ⟨w.heap.size, 0, none⟩ = some x0 ∧ (W.alloc o).cell? ⟨w.heap.size, 1, none⟩ = some x1 ∧ (W.alloc o).cell? ⟨w.heap.size, 2, none⟩ = some x2 ∧ w.heap.size + 2 ≤ (W.alloc o).heap.size := by
  obtain ⟨h0, h1, h2, h3, h4⟩ := h
  have b : Below W.heap.size W (W.alloc o) := (Below.refl _ _).alloc (Nat.le_refl _) _
  exact ⟨below_step h0 b, below_cell b (by omega) h1, below_cell b (by omega) h2, below_cell b (by omega) h3, by simp; omega⟩
theorem s_drew {w W : World} {x0 x1 x2 : Value} (h : Below w.heap.size w W ∧ W.cell? ⟨w.heap.size, 0, none⟩ = some x0 ∧ W.cell? ⟨w.heap.size, 1, none⟩ = some x1 ∧ W.cell? ⟨w.heap.size, 2, none⟩ = some x2 ∧ w.heap.size + 2 ≤ W.heap.size) : Below w.heap.size w W.drew ∧ W.drew.cell? ⟨w.heap.size, 0, none⟩ = some x0 ∧ W.drew.cell? ⟨w.heap.size, 1, none⟩ = some x1 ∧ W.drew.cell? ⟨w.heap.size, 2, none⟩ = some x2 ∧ w.heap.size + 2 ≤ W.drew.heap.size := ⟨h.1.drew, h.2⟩
theorem s_st {w W : World} {x0 x1 x2 : Value} (h : Below w.heap.size w W ∧ W.cell? ⟨w.heap.size, 0, none⟩ = some x0 ∧ W.cell? ⟨w.heap.size, 1, none⟩ = some x1 ∧ W.cell? ⟨w.heap.size, 2, none⟩ = some x2 ∧ w.heap.size + 2 ≤ W.heap.size) (o : Nat) (v : Value) : Below w.heap.size w (W.setCell ⟨w.heap.size + 1, o, none⟩ v) ∧ (W.setCell ⟨w.heap.size + 1, o, none⟩ v).cell? ⟨w.heap.size, 0, none⟩ = some x0 ∧ (W.setCell ⟨w.heap.size + 1, o, none⟩ v).cell? ⟨w.heap.size, 1, none⟩ = some x1 ∧ (W.setCell ⟨w.heap.size + 1, o, none⟩ v).cell? ⟨w.heap.size, 2, none⟩ = some x2 ∧ w.heap.size + 2 ≤ (W.setCell ⟨w.heap.size + 1, o, none⟩ v).heap.size := by
  obtain ⟨h0, h1, h2, h3, h4⟩ := h
  have ne : ∀ i, (⟨w.heap.size + 1, o, none⟩ : Addr) ≠ ⟨w.heap.size, i, none⟩ := fun i e => by simp at e
  exact ⟨h0.setCell (by simp) _, by rw [World.cell?_setCell_other _ _ _ _ (ne _)]; exact h1, by rw [World.cell?_setCell_other _ _ _ _ (ne _)]; exact h2, by rw [World.cell?_setCell_other _ _ _ _ (ne _)]; exact h3, by simpa using h4⟩

set_option maxHeartbeats 1600000 in
set_option maxRecDepth 100000 in
theorem spec_copy_some (w : World) (a : Int) (p l : Value) (ps : List Int) (L : List (Int × Int)) (hn : ps.length ≤ 4194304) (hm : L.length ≤ 4194304) (hp : 0 < ps.length) (hl : 0 < L.length) (h : AIn w p l ps L) :
    Calls Try.prog 34 #[.agg #[.int .i64 a, p, l]] w fun e w' => ∃ p' l', e = .returned (.agg #[.int .i64 a, p', l']) ∧ AO w.heap.size p' l' ps L w' ∧ Below w.heap.size w w' := by
  obtain ⟨i1, hi1, hy0, hy1, hy2⟩ := info_parts info3
  obtain ⟨i2, hi2, hz0, hz1, hz2⟩ := info_parts infoGone
  have H := hidIt h
  obtain ⟨pa, pc, la, lc, rfl, rfl, -⟩ := h.form
  clear h
  go_enter Try.func34, Try.ntmps34
  go_wp2_with fail
  generalize hW : World.alloc (World.alloc w _) _ = W2
  have bW : Hid (Below w.heap.size w W2) := (by rw [← hW]; exact ((Below.refl w.heap.size w).alloc (Nat.le_refl _) _).alloc (by simp) _ : Below w.heap.size w W2)
  have zW : W2.heap.size = w.heap.size + 2 := by rw [← hW]; simp
  have c0 : W2.cell? ⟨w.heap.size, 0, none⟩ = some (.int .i64 a) := by rw [← hW]; simp [go_sem]
  have c1 : W2.cell? ⟨w.heap.size, 1, none⟩ = some (.slice pa ps.length pc) := by rw [← hW]; simp [go_sem]
  have c2 : W2.cell? ⟨w.heap.size, 2, none⟩ = some (.slice la L.length lc) := by rw [← hW]; simp [go_sem]
  have d0 : W2.cell? ⟨w.heap.size + 1, 0, none⟩ = some (.int .i64 0) := by rw [← hW]; simp [go_sem]
  have d1 : W2.cell? ⟨w.heap.size + 1, 1, none⟩ = some (.slice none 0 0) := by rw [← hW]; simp [go_sem]
  have d2 : W2.cell? ⟨w.heap.size + 1, 2, none⟩ = some (.slice none 0 0) := by rw [← hW]; simp [go_sem]
  have f0 : ∀ o, W2.frozen? ⟨w.heap.size + 1, o, none⟩ = false := by rw [← hW]; simp [go_sem]
  clear hW
  have l0 : w.heap.size < W2.heap.size := by omega
  have HI := hidIt (H.out.below bW.out)
  obtain ⟨ad1, rfl, sr1⟩ := inrow_src HI.out.pins (by simpa using hp)
  obtain ⟨ad2, rfl, sr2⟩ := pin_src HI.out.limbo (by rw [gones_len]; omega)
  have SR1 : Hid (∀ W, Below w.heap.size w W → ∀ j v, (ints ps)[j]? = some v → W.cell? (ad1.add j) = some v) := fun W hb j v hj => by
    obtain ⟨ad, he, hs⟩ := inrow_src (H.out.pins.below hb) (by simpa using hp)
    cases he
    exact hs j v hj
  have SR2 : Hid (∀ W, Below w.heap.size w W → ∀ j v, (gones L)[j]? = some v → W.cell? (ad2.add j) = some v) := fun W hb j v hj => by
    obtain ⟨ad, he, hs⟩ := pin_src (H.out.limbo.below hb) (by rw [gones_len]; omega)
    cases he
    exact hs j v hj
  clear sr1 sr2
  go_cut [] from 3 to 13 (fun wc => CsR w a ps L wc)
  case first =>
    have hS : Below w.heap.size w W2 ∧ W2.cell? ⟨w.heap.size, 0, none⟩ = some (.int .i64 a) ∧ W2.cell? ⟨w.heap.size, 1, none⟩ = some (.slice (some ad1) ps.length pc) ∧ W2.cell? ⟨w.heap.size, 2, none⟩ = some (.slice (some ad2) L.length lc) ∧ w.heap.size + 2 ≤ W2.heap.size := ⟨bW.out, c0, c1, c2, by omega⟩
    go_region_held3 (fun W => Below w.heap.size w W ∧ W.cell? ⟨w.heap.size, 0, none⟩ = some (.int .i64 a) ∧ W.cell? ⟨w.heap.size, 1, none⟩ = some (.slice (some ad1) ps.length pc) ∧ W.cell? ⟨w.heap.size, 2, none⟩ = some (.slice (some ad2) L.length lc) ∧ w.heap.size + 2 ≤ W.heap.size)
      (first | ((repeat (first | (with_reducible assumption) | (with_reducible refine s_drew ?_) | (with_reducible refine s_al ?_ _) | (with_reducible refine s_st ?_ _ _))); done))
      (first
      | (refine step_append_new rfl (.tmp 5) (.tmp 7) 22 rfl 3 i1 (.int .i64 0) 1 8 Try.underlying22 hi1 hy0 hy1 hy2 rfl _ rfl ad1 ps.length pc (ints ps) rfl (by simp) (SR1.out _ (And.left (by assumption))) hp (by unfold maxLen; omega) (by omega) ?_; intro Zs1 cap1 hZ1)
      | (refine step_append_new rfl (.tmp 9) (.tmp 11) 29 rfl 65 i2 (.agg #[.int .i64 0, .int .i64 0]) 2 16 Try.underlying29 hi2 hz0 hz1 hz2 rfl _ rfl ad2 L.length lc (gones L) rfl (gones_len L) (SR2.out _ (And.left (by assumption))) hl (by unfold maxLen; omega) (by omega) ?_; intro Zs2 cap2 hZ2))
    all_goals
      go_wp2_with fail
      go_meet
      refine ⟨_, _, by simp [go_sem, zW, d0], by simp [go_sem, zW, d1]; rfl, by simp [go_sem, zW, d2]; rfl, ⟨?_, ?_, ?_⟩, ?_⟩
      · refine own_of_block (cur := Zs1) ?_ (by omega) hZ1.out.1 hZ1.out.2.1 hZ1.out.2.2.1 (by simp) hZ1.out.2.2.2
        (repeat (first | (with_reducible refine at_drew ?_) | (with_reducible refine at_new ?_; (focus (first | (simp; done) | (simp <;> omega) | omega)); done) | (with_reducible refine at_old ?_ ?_; (focus (first | (simp; done) | (simp <;> omega) | omega))) | (with_reducible refine at_set ?_ ?_; (focus (first | (simp; done) | (simp <;> omega) | omega)))))
      · refine own_of_block (cur := Zs2) ?_ (by omega) hZ2.out.1 hZ2.out.2.1 hZ2.out.2.2.1 (gones_len L) hZ2.out.2.2.2
        (repeat (first | (with_reducible refine at_drew ?_) | (with_reducible refine at_new ?_; (focus (first | (simp; done) | (simp <;> omega) | omega)); done) | (with_reducible refine at_old ?_ ?_; (focus (first | (simp; done) | (simp <;> omega) | omega))) | (with_reducible refine at_set ?_ ?_; (focus (first | (simp; done) | (simp <;> omega) | omega)))))
      · intro g hg1 hg2
        simp [Value.ownBlock] at hg1 hg2
        omega
      · (repeat (first | exact bW.out | refine Below.drew ?_ | refine Below.alloc ?_ (by simp <;> omega) _ | refine Below.setCell ?_ (by simp <;> omega) _))
  case rest =>
  obtain ⟨p, l, e0, e1, e2, ao, bl⟩ := hcut
  rename World => w3
  have AO3 := hidIt ao
  have B3 := hidIt bl
  clear ao bl c0 c1 c2 d0 d1 d2 f0
  go_wp2
  exact bodyPost_ret (v := .agg #[.int .i64 a, p, l]) (by simp [results, Try.results34, go_sem, e0, e1, e2]) rfl ⟨_, _, rfl, AO3.out, B3.out⟩

set_option maxHeartbeats 1600000 in
set_option maxRecDepth 100000 in
theorem spec_copy_zero (w : World) (a : Int) (p l : Value) (ps : List Int) (hn : ps.length ≤ 4194304) (hp : 0 < ps.length) (h : AIn w p l ps []) :
    Calls Try.prog 34 #[.agg #[.int .i64 a, p, l]] w fun e w' => ∃ p' l', e = .returned (.agg #[.int .i64 a, p', l']) ∧ AO w.heap.size p' l' ps [] w' ∧ Below w.heap.size w w' := by
  obtain ⟨i1, hi1, hy0, hy1, hy2⟩ := info_parts info3
  obtain ⟨i2, hi2, hz0, hz1, hz2⟩ := info_parts infoGone
  have H := hidIt h
  obtain ⟨pa, pc, la, lc, rfl, rfl, -⟩ := h.form
  clear h
  go_enter Try.func34, Try.ntmps34
  go_wp2_with fail
  generalize hW : World.alloc (World.alloc w _) _ = W2
  have bW : Hid (Below w.heap.size w W2) := (by rw [← hW]; exact ((Below.refl w.heap.size w).alloc (Nat.le_refl _) _).alloc (by simp) _ : Below w.heap.size w W2)
  have zW : W2.heap.size = w.heap.size + 2 := by rw [← hW]; simp
  have c0 : W2.cell? ⟨w.heap.size, 0, none⟩ = some (.int .i64 a) := by rw [← hW]; simp [go_sem]
  have c1 : W2.cell? ⟨w.heap.size, 1, none⟩ = some (.slice pa ps.length pc) := by rw [← hW]; simp [go_sem]
  have c2 : W2.cell? ⟨w.heap.size, 2, none⟩ = some (.slice la 0 lc) := by rw [← hW]; simp [go_sem]
  have d0 : W2.cell? ⟨w.heap.size + 1, 0, none⟩ = some (.int .i64 0) := by rw [← hW]; simp [go_sem]
  have d1 : W2.cell? ⟨w.heap.size + 1, 1, none⟩ = some (.slice none 0 0) := by rw [← hW]; simp [go_sem]
  have d2 : W2.cell? ⟨w.heap.size + 1, 2, none⟩ = some (.slice none 0 0) := by rw [← hW]; simp [go_sem]
  have f0 : ∀ o, W2.frozen? ⟨w.heap.size + 1, o, none⟩ = false := by rw [← hW]; simp [go_sem]
  clear hW
  have l0 : w.heap.size < W2.heap.size := by omega
  have HI := hidIt (H.out.below bW.out)
  obtain ⟨ad1, rfl, sr1⟩ := inrow_src HI.out.pins (by simpa using hp)
  have SR1 : Hid (∀ W, Below w.heap.size w W → ∀ j v, (ints ps)[j]? = some v → W.cell? (ad1.add j) = some v) := fun W hb j v hj => by
    obtain ⟨ad, he, hs⟩ := inrow_src (H.out.pins.below hb) (by simpa using hp)
    cases he
    exact hs j v hj
  clear sr1
  go_cut [] from 3 to 13 (fun wc => CsR w a ps [] wc)
  case first =>
    have hS : Below w.heap.size w W2 ∧ W2.cell? ⟨w.heap.size, 0, none⟩ = some (.int .i64 a) ∧ W2.cell? ⟨w.heap.size, 1, none⟩ = some (.slice (some ad1) ps.length pc) ∧ W2.cell? ⟨w.heap.size, 2, none⟩ = some (.slice la 0 lc) ∧ w.heap.size + 2 ≤ W2.heap.size := ⟨bW.out, c0, c1, c2, by omega⟩
    go_region_held3 (fun W => Below w.heap.size w W ∧ W.cell? ⟨w.heap.size, 0, none⟩ = some (.int .i64 a) ∧ W.cell? ⟨w.heap.size, 1, none⟩ = some (.slice (some ad1) ps.length pc) ∧ W.cell? ⟨w.heap.size, 2, none⟩ = some (.slice la 0 lc) ∧ w.heap.size + 2 ≤ W.heap.size)
      (first | ((repeat (first | (with_reducible assumption) | (with_reducible refine s_drew ?_) | (with_reducible refine s_al ?_ _) | (with_reducible refine s_st ?_ _ _))); done))
      (first
      | (refine step_append_new rfl (.tmp 5) (.tmp 7) 22 rfl 3 i1 (.int .i64 0) 1 8 Try.underlying22 hi1 hy0 hy1 hy2 rfl _ rfl ad1 ps.length pc (ints ps) rfl (by simp) (SR1.out _ (And.left (by assumption))) hp (by unfold maxLen; omega) (by omega) ?_; intro Zs1 cap1 hZ1)
      | (refine step_append_zero rfl (.tmp 9) (.tmp 11) 29 rfl 65 i2 Try.underlying29 hi2 _ rfl la lc rfl ?_))
    all_goals
      go_wp2_with fail
      go_meet
      refine ⟨_, _, by simp [go_sem, zW, d0], by simp [go_sem, zW, d1]; rfl, by simp [go_sem, zW, d2]; rfl, ⟨?_, ?_, ?_⟩, ?_⟩
      · refine own_of_block (cur := Zs1) ?_ (by omega) hZ1.out.1 hZ1.out.2.1 hZ1.out.2.2.1 (by simp) hZ1.out.2.2.2
        (repeat (first | (with_reducible refine at_drew ?_) | (with_reducible refine at_new ?_; (focus (first | (simp; done) | (simp <;> omega) | omega)); done) | (with_reducible refine at_old ?_ ?_; (focus (first | (simp; done) | (simp <;> omega) | omega))) | (with_reducible refine at_set ?_ ?_; (focus (first | (simp; done) | (simp <;> omega) | omega)))))
      · refine own_empty ?_ (by omega)
        (repeat (first | (with_reducible refine at_drew ?_) | (with_reducible refine at_new ?_; (focus (first | (simp; done) | (simp <;> omega) | omega)); done) | (with_reducible refine at_old ?_ ?_; (focus (first | (simp; done) | (simp <;> omega) | omega))) | (with_reducible refine at_set ?_ ?_; (focus (first | (simp; done) | (simp <;> omega) | omega)))))
      · intro g hg1 hg2
        simp [Value.ownBlock] at hg1 hg2
        omega
      · (repeat (first | exact bW.out | refine Below.drew ?_ | refine Below.alloc ?_ (by simp <;> omega) _ | refine Below.setCell ?_ (by simp <;> omega) _))
  case rest =>
  obtain ⟨p, l, e0, e1, e2, ao, bl⟩ := hcut
  rename World => w3
  have AO3 := hidIt ao
  have B3 := hidIt bl
  clear ao bl c0 c1 c2 d0 d1 d2 f0
  go_wp2
  exact bodyPost_ret (v := .agg #[.int .i64 a, p, l]) (by simp [results, Try.results34, go_sem, e0, e1, e2]) rfl ⟨_, _, rfl, AO3.out, B3.out⟩

theorem spec_copyages (w : World) (a : Int) (p l : Value) (ps : List Int) (L : List (Int × Int)) (hn : ps.length ≤ 4194304) (hm : L.length ≤ 4194304) (hp : 0 < ps.length) (h : AIn w p l ps L) :
    Calls Try.prog 34 #[.agg #[.int .i64 a, p, l]] w fun e w' => ∃ p' l', e = .returned (.agg #[.int .i64 a, p', l']) ∧ AO w.heap.size p' l' ps L w' ∧ Below w.heap.size w w' := by
  by_cases hl : 0 < L.length
  · exact spec_copy_some w a p l ps L hn hm hp hl h
  · obtain rfl : L = [] := List.length_eq_zero_iff.1 (by omega)
    exact spec_copy_zero w a p l ps hn hp h

end Go.Proofs.Ytikliofkplbdpaa
