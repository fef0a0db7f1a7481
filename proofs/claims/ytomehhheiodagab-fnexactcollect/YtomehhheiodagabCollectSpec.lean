/- What comes out of limbo, the model's. -/
import Derived.Test.YtomehhheiodagabRows
import Derived.WalkKit
import Derived.ProofKit
import Derived.OpenShut
import Derived.ShutString
import Derived.Test.YtomehhheiodagabCollectImpl
import Derived.Deep.RegionHeld3
namespace Go.Proofs.Ytomehhheiodagab
open Go.ChangeShapes Go.WideShapes Go.ChangeAt Go.RowKit
set_option linter.unusedVariables false

def SAns (A : Int) (PS : List Int) (LS : List (Int × Int)) (FS : List Int) (w : World) (e : Ending) (w' : World) : Prop :=
  ∃ p' l' f', e = .returned (.tuple #[.agg #[.int .i64 A, p', l'], f']) ∧ AR w.heap.size w'.heap.size p' l' PS LS w' ∧ Row w' w.heap.size w'.heap.size f' (ints FS) ∧ Below w.heap.size w w'
theorem SAns.nope {w w' : World} {e : Ending} (h : e = .returned (.tuple #[.agg #[.int .i64 0, .slice none 0 0, .slice none 0 0], .slice none 0 0]) ∧ Below w.heap.size w w') : SAns 0 [] [] [] w e w' := ⟨_, _, _, h.1, AR.nil _ _ _, ⟨Option.none, 0, rfl, .inl rfl⟩, h.2⟩
theorem ints_snoc2 (xs : List Int) (y : Int) : ints (xs ++ [y]) = ints xs ++ [.int .i64 y] := by simp
structure SI (lo : Nat) (W : World) (b : Nat) (pv fv lv : Value) (ps F : List Int) (M : List (Int × Int)) : Prop where
  hb : lo ≤ b ∧ b < W.heap.size
  pins : W.ownsRow lo 3 1 pv ps.length (ints ps)
  free : W.ownsRow lo 3 1 fv F.length (ints F)
  lim : W.ownsRow lo 43 2 lv M.length (gones M)
  nb : pv.ownBlock ≠ some b ∧ fv.ownBlock ≠ some b ∧ lv.ownBlock ≠ some b
  pf : ∀ g, pv.ownBlock = some g → fv.ownBlock = some g → False
  pl : ∀ g, pv.ownBlock = some g → lv.ownBlock = some g → False
  fl : ∀ g, fv.ownBlock = some g → lv.ownBlock = some g → False
theorem SI.below {lo : Nat} {W W' : World} {b : Nat} {pv fv lv : Value} {ps F : List Int} {M : List (Int × Int)} (h : SI lo W b pv fv lv ps F M) (hb : Below W.heap.size W W') : SI lo W' b pv fv lv ps F M :=
  ⟨⟨h.hb.1, Nat.lt_of_lt_of_le h.hb.2 hb.size⟩, own_below h.pins hb, own_below h.free hb, own_below h.lim hb, h.nb, h.pf, h.pl, h.fl⟩
theorem SI.set {lo : Nat} {W : World} {b : Nat} {pv fv lv : Value} {ps F : List Int} {M : List (Int × Int)} (h : SI lo W b pv fv lv ps F M) (o : Nat) (v : Value) : SI lo (W.setCell ⟨b, o, none⟩ v) b pv fv lv ps F M := by
  have hg : W.grownBy (W.setCell ⟨b, o, none⟩ v) (some b) := ⟨rfl, rfl, rfl, by simp, fun k _ hk => Below.heap_setCell _ _ _ _ (fun e => hk (by rw [e]))⟩
  exact ⟨⟨h.hb.1, by simpa using h.hb.2⟩, h.pins.kept hg (.inr h.nb.1), h.free.kept hg (.inr h.nb.2.1), h.lim.kept hg (.inr h.nb.2.2), h.nb, h.pf, h.pl, h.fl⟩
theorem kept_of {W W' : World} {lo : Nat} {e : TypeId} {size n : Nat} {u v : Value} {xs : List Value} (h : W.ownsRow lo e size u n xs) (hg : W.grownBy W' v.ownBlock) (ha : ∀ g, u.ownBlock = some g → v.ownBlock = some g → False) : W'.ownsRow lo e size u n xs := by
  refine h.kept hg ?_
  cases hu : u.ownBlock with
  | none => exact .inl rfl
  | some k => exact .inr fun e => ha k hu e.symm
theorem SI.appF {lo : Nat} {W W' : World} {b : Nat} {pv fv lv : Value} {ps F : List Int} {M : List (Int × Int)} {q : Int} {g cap : Nat} (h : SI lo W b pv fv lv ps F M)
    (ho : W'.ownsRow lo 3 1 (.slice (some ⟨g, 0, none⟩) (F.length + 1) cap) (F.length + 1) (ints F ++ [.int .i64 q])) (hg : W.grownBy W' fv.ownBlock) (hat : fv.ownBlock = some g ∨ g = W.heap.size) : SI lo W' b pv (.slice (some ⟨g, 0, none⟩) (F.length + 1) cap) lv ps (F ++ [q]) M := by
  have new : ∀ k, (Value.slice (some ⟨g, 0, none⟩) (F.length + 1) cap).ownBlock = some k → fv.ownBlock = some k ∨ k = W.heap.size := fun k hk => by
    simp [Value.ownBlock] at hk
    subst hk
    exact hat
  refine ⟨⟨h.hb.1, Nat.lt_of_lt_of_le h.hb.2 hg.size⟩, kept_of h.pins hg h.pf, by rw [ints_snoc2]; simpa using ho, kept_of h.lim hg (fun k h1 h2 => h.fl k h2 h1), ⟨h.nb.1, fun e => ?_, h.nb.2.2⟩, fun k h1 h2 => ?_, h.pl, fun k h1 h2 => ?_⟩
  · rcases new b e with e1 | e1
    · exact h.nb.2.1 e1
    · have := h.hb.2; omega
  · rcases new k h2 with e1 | e1
    · exact h.pf k h1 e1
    · have := (h.pins.lt k h1).2; omega
  · rcases new k h1 with e1 | e1
    · exact h.fl k e1 h2
    · have := (h.lim.lt k h2).2; omega
theorem SI.appL {lo : Nat} {W W' : World} {b : Nat} {pv fv lv : Value} {ps F : List Int} {M : List (Int × Int)} {q y : Int} {g cap : Nat} (h : SI lo W b pv fv lv ps F M)
    (ho : W'.ownsRow lo 43 2 (.slice (some ⟨g, 0, none⟩) (M.length + 1) cap) (M.length + 1) (gones M ++ [.int .i64 q, .int .i64 y])) (hg : W.grownBy W' lv.ownBlock) (hat : lv.ownBlock = some g ∨ g = W.heap.size) : SI lo W' b pv fv (.slice (some ⟨g, 0, none⟩) (M.length + 1) cap) ps F (M ++ [(q, y)]) := by
  have new : ∀ k, (Value.slice (some ⟨g, 0, none⟩) (M.length + 1) cap).ownBlock = some k → lv.ownBlock = some k ∨ k = W.heap.size := fun k hk => by
    simp [Value.ownBlock] at hk
    subst hk
    exact hat
  refine ⟨⟨h.hb.1, Nat.lt_of_lt_of_le h.hb.2 hg.size⟩, kept_of h.pins hg h.pl, kept_of h.free hg h.fl, by rw [gones_snoc]; simpa using ho, ⟨h.nb.1, h.nb.2.1, fun e => ?_⟩, h.pf, fun k h1 h2 => ?_, fun k h1 h2 => ?_⟩
  · rcases new b e with e1 | e1
    · exact h.nb.2.2 e1
    · have := h.hb.2; omega
  · rcases new k h2 with e1 | e1
    · exact h.pl k h1 e1
    · have := (h.pins.lt k h1).2; omega
  · rcases new k h2 with e1 | e1
    · exact h.fl k h1 e1
    · have := (h.free.lt k h1).2; omega
theorem SI.ar {lo : Nat} {W : World} {b : Nat} {pv fv lv : Value} {ps F : List Int} {M : List (Int × Int)} (h : SI lo W b pv fv lv ps F M) : AR lo W.heap.size pv lv ps M W := by
  refine ⟨Row.of_owns h.pins, Rw.of_owns h.lim, fun h1 h2 e => ?_⟩
  obtain ⟨g, cap, hv, -, -⟩ := h.pins.form h1
  exact h.pl g (by rw [hv]; rfl) (by rw [← e, hv]; rfl)
def oldsTo (a : Int) (L : List (Int × Int)) (k : Nat) : List Int := ((L.take k).filter (oldB a)).map (·.1)
def keptTo (a : Int) (L : List (Int × Int)) (k : Nat) : List (Int × Int) := (L.take k).filter (fun p => !oldB a p)
theorem old_yes {a : Int} {L : List (Int × Int)} {k : Nat} (hk : k < L.length) (h : (goneAt L k).2 ≤ a - 2) : oldsTo a L (k + 1) = oldsTo a L k ++ [(goneAt L k).1] ∧ keptTo a L (k + 1) = keptTo a L k := by
  have e : oldB a (goneAt L k) = true := by simp [oldB, h]
  unfold oldsTo keptTo
  rw [List.take_succ_eq_append_getElem hk, goneAt_eq L k hk]
  simp [List.filter_append, e]
theorem old_no {a : Int} {L : List (Int × Int)} {k : Nat} (hk : k < L.length) (h : ¬ (goneAt L k).2 ≤ a - 2) : oldsTo a L (k + 1) = oldsTo a L k ∧ keptTo a L (k + 1) = keptTo a L k ++ [goneAt L k] := by
  have e : oldB a (goneAt L k) = false := by simp [oldB, h]
  unfold oldsTo keptTo
  rw [List.take_succ_eq_append_getElem hk, goneAt_eq L k hk]
  simp [List.filter_append, e]
theorem old_len (a : Int) (L : List (Int × Int)) (k : Nat) : (oldsTo a L k).length ≤ L.length ∧ (keptTo a L k).length ≤ L.length := by
  unfold oldsTo keptTo
  have h1 := List.length_filter_le (oldB a) (L.take k)
  have h2 := List.length_filter_le (fun p => !oldB a p) (L.take k)
  have h3 := List.length_take_le' k L
  rw [List.length_map]
  omega
theorem old_all (a : Int) (L : List (Int × Int)) : oldsTo a L L.length = colF a L ∧ keptTo a L L.length = colL a L := by
  unfold oldsTo keptTo colF colL
  rw [List.take_length]
  exact ⟨rfl, rfl⟩

set_option maxHeartbeats 800000 in
set_option maxRecDepth 100000 in
theorem spec_collect_no (w : World) (a : Int) (p l : Value) (ps : List Int) (L : List (Int × Int)) (hA : AIn w p l ps L) (hB : okB a ps L = false) :
    Calls Try.prog 6 #[.agg #[.int .i64 a, p, l]] w fun e w' => e = .returned (.tuple #[.agg #[.int .i64 0, .slice none 0 0, .slice none 0 0], .slice none 0 0]) ∧ Below w.heap.size w w' := by
  have H := hidIt hA
  obtain ⟨pa, pc, la, lc, rfl, rfl, -⟩ := hA.form
  clear hA
  go_enter Try.func6, Try.ntmps6
  go_wp2_with fail
  generalize hW : World.alloc (World.alloc w _) _ = W2
  have bW : Hid (Below w.heap.size w W2) := (by rw [← hW]; exact ((Below.refl w.heap.size w).alloc (Nat.le_refl _) _).alloc (by simp) _ : Below w.heap.size w W2)
  have zW : W2.heap.size = w.heap.size + 2 := by rw [← hW]; simp
  have c0 : W2.cell? ⟨w.heap.size, 0, none⟩ = some (.int .i64 a) := by rw [← hW]; simp [go_sem]
  have c1 : W2.cell? ⟨w.heap.size, 1, none⟩ = some (.slice pa ps.length pc) := by rw [← hW]; simp [go_sem]
  have c2 : W2.cell? ⟨w.heap.size, 2, none⟩ = some (.slice la L.length lc) := by rw [← hW]; simp [go_sem]
  have d0 : W2.cell? ⟨w.heap.size + 1, 0, none⟩ = some (.int .i64 0) := by rw [← hW]; simp [go_sem]
  have d1 : W2.cell? ⟨w.heap.size + 1, 1, none⟩ = some (.slice none 0 0) := by rw [← hW]; simp [go_sem]
  have d2 : W2.cell? ⟨w.heap.size + 1, 2, none⟩ = some (.slice none 0 0) := by rw [← hW]; simp [go_sem]
  have f0 : ∀ o, W2.frozen? ⟨w.heap.size + 1, o, none⟩ = false := by rw [← hW]; simp [go_sem]
  clear hW
  refine (spec_agesok W2 a _ _ ps L (H.out.below bW.out)).mono ?_
  rintro e w3 ⟨rfl, b3⟩
  have z3 := b3.size
  have B3 := hidIt (bW.out.trans (b3.mono (by omega)))
  replace c0 := below_cell b3 (by omega) c0
  replace c1 := below_cell b3 (by omega) c1
  replace c2 := below_cell b3 (by omega) c2
  replace d0 := below_cell b3 (by omega) d0
  replace d1 := below_cell b3 (by omega) d1
  replace d2 := below_cell b3 (by omega) d2
  replace f0 : ∀ o, w3.frozen? ⟨w.heap.size + 1, o, none⟩ = false := fun o => below_frozen b3 (by omega) (f0 o)
  clear b3
  rw [hB]
  go_wp2
  exact bodyPost_ret (v := .tuple #[.agg #[.int .i64 0, .slice none 0 0, .slice none 0 0], .slice none 0 0]) (by simp [results, Try.results6, go_sem, d0, d1, d2]) rfl ⟨rfl, by exact ((B3.out.setCell (by simp) _).setCell (by simp) _).setCell (by simp) _⟩
structure LI (w3 wr : World) (a : Int) (b : Nat) (pv fv lv : Value) (ps : List Int) (L : List (Int × Int)) (k : Nat) : Prop where
  si : SI w3.heap.size wr b pv fv lv ps (oldsTo a L k) (keptTo a L k)
  below : Below w3.heap.size w3 wr
  c0 : wr.cell? ⟨b, 0, none⟩ = some (.int .i64 a)
  c1 : wr.cell? ⟨b, 1, none⟩ = some pv
  c2 : wr.cell? ⟨b, 2, none⟩ = some lv
  cf : ∀ o, wr.frozen? ⟨b, o, none⟩ = false
/- the first of the model's answer, in whatever order it was made -/
def CpB (w3 : World) (a : Int) (ps : List Int) (s : Value) (W : World) : Prop :=
  ∃ b g cap, s = .pointer (some ⟨b, 0, none⟩) ∧ Below w3.heap.size w3 W ∧ w3.heap.size ≤ b ∧ b < W.heap.size ∧ g ≠ b ∧ W.cell? ⟨b, 0, none⟩ = some (.int .i64 a) ∧ W.cell? ⟨b, 1, none⟩ = some (.slice (some ⟨g, 0, none⟩) ps.length cap) ∧ W.cell? ⟨b, 2, none⟩ = some (.slice none 0 0) ∧ (∀ o, W.frozen? ⟨b, o, none⟩ = false) ∧ W.ownsRow w3.heap.size 3 1 (.slice (some ⟨g, 0, none⟩) ps.length cap) ps.length (ints ps)
theorem s3_keep {w3 W W' : World} {b : Nat} {x0 x1 : Value} (h : Below w3.heap.size w3 W ∧ W.cell? ⟨b, 0, none⟩ = some x0 ∧ W.cell? ⟨b, 1, none⟩ = some x1 ∧ b < w3.heap.size) (hb : Below w3.heap.size W W') : Below w3.heap.size w3 W' ∧ W'.cell? ⟨b, 0, none⟩ = some x0 ∧ W'.cell? ⟨b, 1, none⟩ = some x1 ∧ b < w3.heap.size :=
  ⟨h.1.trans hb, below_cell hb h.2.2.2 h.2.1, below_cell hb h.2.2.2 h.2.2.1, h.2.2.2⟩
theorem s3_drew {w3 W : World} {b : Nat} {x0 x1 : Value} (h : Below w3.heap.size w3 W ∧ W.cell? ⟨b, 0, none⟩ = some x0 ∧ W.cell? ⟨b, 1, none⟩ = some x1 ∧ b < w3.heap.size) : Below w3.heap.size w3 W.drew ∧ W.drew.cell? ⟨b, 0, none⟩ = some x0 ∧ W.drew.cell? ⟨b, 1, none⟩ = some x1 ∧ b < w3.heap.size := s3_keep h (Below.refl _ _).drew
theorem s3_al {w3 W : World} {b : Nat} {x0 x1 : Value} (h : Below w3.heap.size w3 W ∧ W.cell? ⟨b, 0, none⟩ = some x0 ∧ W.cell? ⟨b, 1, none⟩ = some x1 ∧ b < w3.heap.size) (o : Obj) : Below w3.heap.size w3 (W.alloc o) ∧ (W.alloc o).cell? ⟨b, 0, none⟩ = some x0 ∧ (W.alloc o).cell? ⟨b, 1, none⟩ = some x1 ∧ b < w3.heap.size := s3_keep h ((Below.refl _ _).alloc h.1.size _)

set_option maxHeartbeats 1600000 in
set_option maxRecDepth 100000 in
theorem spec_collect_yes (w : World) (a : Int) (p l : Value) (ps : List Int) (L : List (Int × Int)) (hA : AIn w p l ps L) (hB : okB a ps L = true) :
    Calls Try.prog 6 #[.agg #[.int .i64 a, p, l]] w (SAns a ps (colL a L) (colF a L) w) := by
  obtain ⟨a0, a1, n1, n8, m1, -, -⟩ := okB_len hB
  obtain ⟨i1, hi1, hy0, hy1, hy2⟩ := info_parts info3
  obtain ⟨i2, hi2, hz0, hz1, hz2⟩ := info_parts infoGone
  have H := hidIt hA
  obtain ⟨pa, pc, la, lc, rfl, rfl, hcap⟩ := hA.form
  clear hA
  go_enter Try.func6, Try.ntmps6
  go_wp2_with fail
  generalize hW : World.alloc (World.alloc w _) _ = W2
  have bW : Hid (Below w.heap.size w W2) := (by rw [← hW]; exact ((Below.refl w.heap.size w).alloc (Nat.le_refl _) _).alloc (by simp) _ : Below w.heap.size w W2)
  have zW : W2.heap.size = w.heap.size + 2 := by rw [← hW]; simp
  have c0 : W2.cell? ⟨w.heap.size, 0, none⟩ = some (.int .i64 a) := by rw [← hW]; simp [go_sem]
  have c1 : W2.cell? ⟨w.heap.size, 1, none⟩ = some (.slice pa ps.length pc) := by rw [← hW]; simp [go_sem]
  have c2 : W2.cell? ⟨w.heap.size, 2, none⟩ = some (.slice la L.length lc) := by rw [← hW]; simp [go_sem]
  have d0 : W2.cell? ⟨w.heap.size + 1, 0, none⟩ = some (.int .i64 0) := by rw [← hW]; simp [go_sem]
  have d1 : W2.cell? ⟨w.heap.size + 1, 1, none⟩ = some (.slice none 0 0) := by rw [← hW]; simp [go_sem]
  have d2 : W2.cell? ⟨w.heap.size + 1, 2, none⟩ = some (.slice none 0 0) := by rw [← hW]; simp [go_sem]
  have f0 : ∀ o, W2.frozen? ⟨w.heap.size + 1, o, none⟩ = false := by rw [← hW]; simp [go_sem]
  clear hW
  refine (spec_agesok W2 a _ _ ps L (H.out.below bW.out)).mono ?_
  rintro e w3 ⟨rfl, b3⟩
  have z3 := b3.size
  have B3 := hidIt (bW.out.trans (b3.mono (by omega)))
  replace c0 := below_cell b3 (by omega) c0
  replace c1 := below_cell b3 (by omega) c1
  replace c2 := below_cell b3 (by omega) c2
  replace d0 := below_cell b3 (by omega) d0
  replace d1 := below_cell b3 (by omega) d1
  replace d2 := below_cell b3 (by omega) d2
  replace f0 : ∀ o, w3.frozen? ⟨w.heap.size + 1, o, none⟩ = false := fun o => below_frozen b3 (by omega) (f0 o)
  clear b3
  rw [hB]
  go_wp2_with fail
  obtain ⟨ad1, rfl, -⟩ := inrow_src H.out.pins (by simp; omega)
  have SR1 : Hid (∀ W, Below w3.heap.size w3 W → ∀ j v, (ints ps)[j]? = some v → W.cell? (ad1.add j) = some v) := fun W hb j v hj => by
    obtain ⟨ad, he, hs⟩ := inrow_src (H.out.pins.below (B3.out.trans (hb.mono (by omega)))) (by simp; omega)
    cases he
    exact hs j v hj
  have hS : Below w3.heap.size w3 w3 ∧ w3.cell? ⟨w.heap.size, 0, none⟩ = some (.int .i64 a) ∧ w3.cell? ⟨w.heap.size, 1, none⟩ = some (.slice (some ad1) ps.length pc) ∧ w.heap.size < w3.heap.size := ⟨Below.refl _ _, c0, c1, by omega⟩
  go_cut [4] from 12 to 18 (fun x4 wc => CpB w3 a ps x4 wc)
  case first =>
    go_region_held3 (fun W => Below w3.heap.size w3 W ∧ W.cell? ⟨w.heap.size, 0, none⟩ = some (.int .i64 a) ∧ W.cell? ⟨w.heap.size, 1, none⟩ = some (.slice (some ad1) ps.length pc) ∧ w.heap.size < w3.heap.size)
      (first | ((repeat (first | (with_reducible assumption) | (with_reducible refine s3_drew ?_) | (with_reducible refine s3_al ?_ _))); done))
      (first | (refine step_append_new rfl (.tmp 14) (.tmp 16) 22 rfl 3 i1 (.int .i64 0) 1 8 Try.underlying22 hi1 hy0 hy1 hy2 rfl _ rfl ad1 ps.length pc (ints ps) rfl (by simp) (SR1.out _ (And.left (by assumption))) (by omega) (by unfold maxLen; omega) (by omega) ?_; intro Zs1 cap1 hZ1))
    all_goals
      go_wp2_with fail
      go_meet
      refine ⟨_, _, _, rfl, ?_, ?_, ?_, ?_, by simp [go_sem], by simp [go_sem]; exact ⟨rfl, rfl⟩, by simp [go_sem], by simp [go_sem], ?_⟩
      · (repeat (first | exact Below.refl _ _ | refine Below.drew ?_ | refine Below.alloc ?_ (by simp <;> omega) _))
      · first | omega | (simp; done) | (simp; omega)
      · first | (simp; done) | (simp; omega)
      · first | omega | (simp; done) | (simp; omega)
      · refine own_of_block (cur := Zs1) ?_ (by omega) hZ1.out.1 hZ1.out.2.1 hZ1.out.2.2.1 (by simp) hZ1.out.2.2.2
        (repeat (first | (with_reducible refine at_drew ?_) | (with_reducible refine at_new ?_; (focus (first | (simp; done) | (simp <;> omega) | omega)); done) | (with_reducible refine at_old ?_ ?_; (focus (first | (simp; done) | (simp <;> omega) | omega)))))
  case rest =>
  rename World => w4
  obtain ⟨b, g, cap4, rfl, bl4, hb0, hb1, hgb, e0, e1, e2, ef, own4⟩ := hcut
  have z4 := bl4.size
  have hg4 := own4.lt g rfl
  have L0 : LI w3 (w4.alloc (.cells #[] 3)) a b (.slice (some ⟨g, 0, none⟩) ps.length cap4) (.slice (some ⟨w4.heap.size, 0, none⟩) 0 0) (.slice none 0 0) ps L 0 :=
    ⟨⟨⟨hb0, by simp; omega⟩, own4.alloc _, own_empty (heap_alloc_new _ _) (by omega), World.ownsRow_nil _ _ _ _, ⟨by simpa [Value.ownBlock] using hgb, by simp [Value.ownBlock]; omega, by simp [Value.ownBlock]⟩, fun k h1 h2 => by simp [Value.ownBlock] at h1 h2; omega, fun k h1 h2 => by simp [Value.ownBlock] at h2, fun k h1 h2 => by simp [Value.ownBlock] at h2⟩, bl4.alloc (by omega) _, below_cell ((Below.refl _ w4).alloc (Nat.le_refl _) _) hb1 e0, below_cell ((Below.refl _ w4).alloc (Nat.le_refl _) _) hb1 e1, below_cell ((Below.refl _ w4).alloc (Nat.le_refl _) _) hb1 e2, fun o => below_frozen ((Below.refl _ w4).alloc (Nat.le_refl _) _) hb1 (ef o)⟩
  have HL0 := hidIt L0
  have k2x := below_cell bl4 (by omega) c2
  clear L0 e0 e1 e2 ef own4 hS SR1
  generalize hpv : Value.slice (some ⟨g, 0, none⟩) ps.length cap4 = pv at HL0
  have HPV := hidIt hpv
  clear hpv hgb hg4
  have hlt4 : w.heap.size < w4.heap.size := by omega
  go_wp2_with fail
  go_loopw [23, 5] (fun i s5 wr => ∃ (k : Nat) (lv : Value), k ≤ L.length ∧ i = .int .i64 k ∧ LI w3 wr a b pv s5 lv ps L k) (fun i _ _ => L.length - (intOf i).toNat)
  case atStart => exact ⟨0, _, Nat.zero_le _, rfl, HL0.out⟩
  case round =>
    rename World => wr
    clear HL0 k2x
    obtain ⟨k, lv, hk, rfl, I⟩ := hrel
    have II := hidIt I
    obtain ⟨fa, fc, rfl⟩ := (Row.of_owns I.si.free).form
    obtain ⟨ma, mc, rfl, -⟩ := (Rw.of_owns I.si.lim).form
    have b0 := I.c0
    have b1 := I.c1
    have b2 := I.c2
    have bf := I.cf
    have hbw := I.si.hb.2
    have hbl := I.si.hb.1
    have hzr := I.below.size
    have hol := old_len a L k
    rw [← HPV.out] at b1
    have BR := hidIt (B3.out.trans (I.below.mono (by omega)))
    have k0 := below_cell I.below (by omega) c0
    have k2 := below_cell I.below (by omega) c2
    have hlw : w.heap.size < wr.heap.size := by omega
    clear I
    by_cases hlt : k < L.length
    · obtain ⟨la', lc', hlv, -, hl⟩ := H.out.limbo.below BR.out
      simp at hlv
      obtain ⟨rfl, rfl⟩ := hlv
      rcases hl with hl | ⟨b2', off2, rfl, hb2, hl⟩
      · rw [hl] at hlt; simp at hlt
      have g1 := (PIn.at hl k hlt).1
      have g2 := (PIn.at hl k hlt).2
      have hlt' : (k : Int) < (L.length : Int) := by omega
      have HY := hidIt (old_yes (a := a) hlt)
      have HO := hidIt (old_no (a := a) hlt)
      have HE : Hid (goneAt L k = ((goneAt L k).1, (goneAt L k).2)) := rfl
      generalize goneAt L k = gk at g1 g2 HY HO
      obtain ⟨q, y⟩ := gk
      clear hl HE
      simp only at g1 g2
      by_cases hy : y ≤ a - 2
      · have HYY := hidIt (HY.out hy)
        have NB := hidIt II.out.si.nb.2.1
        clear HY HO
        go_wp2_with (at_builtin; refine wpList_append_lies _ rfl _ _ 22 rfl w3.heap.size 3 i1 (.int .i64 0) 1 8 Try.underlying22 hi1 hy0 hy1 hy2 rfl (by omega) (.slice fa (oldsTo a L k).length fc) (oldsTo a L k).length (ints (oldsTo a L k)) rfl ((II.out.si.free.alloc _).alloc _) _ 1 1 [.int .i64 q] rfl rfl (World.news_of_block (at_new (by simp))) (by intro u hu; simp at hu; subst hu; rfl) (by omega) (by unfold maxLen; omega) (by omega) (by simp; omega) _ rfl ?_; intro g6 cap6 w6 hown hgrow hat hlt6; have q0 := farv (b := b) (o := 0) hgrow (by simp <;> omega) (fun k hk e => by subst e; exact NB.out hk) (below_cell (((Below.refl _ wr).alloc (Nat.le_refl _) _).alloc (by simp) _) hbw b0); have q1 := farv (b := b) (o := 1) hgrow (by simp <;> omega) (fun k hk e => by subst e; exact NB.out hk) (below_cell (((Below.refl _ wr).alloc (Nat.le_refl _) _).alloc (by simp) _) hbw b1); have q2 := farv (b := b) (o := 2) hgrow (by simp <;> omega) (fun k hk e => by subst e; exact NB.out hk) (below_cell (((Below.refl _ wr).alloc (Nat.le_refl _) _).alloc (by simp) _) hbw b2); have qf : ∀ o, w6.frozen? ⟨b, o, none⟩ = false := (fun o => farv_frozen (b := b) (o := o) hgrow (by simp <;> omega) (fun k hk e => by subst e; exact NB.out hk) (below_frozen (((Below.refl _ wr).alloc (Nat.le_refl _) _).alloc (by simp) _) hbw (bf o))); have HO6 := hidIt (And.intro hown (And.intro hgrow hat)); clear hown hgrow hat b0 b1 b2 bf)
        go_roundw
        case rel =>
          refine ⟨k + 1, .slice ma (keptTo a L k).length mc, by omega, by go_num, ⟨?_, ?_, q0, by rw [q1, HPV.out], q2, qf⟩⟩
          · have s := (II.out.si.below (((Below.refl _ wr).alloc (Nat.le_refl _) _).alloc (by simp) _)).appF HO6.out.1 HO6.out.2.1 HO6.out.2.2
            rw [HYY.out.1, HYY.out.2]
            exact s
          · exact ((II.out.below.alloc (by omega) _).alloc (by simp; omega) _).grown HO6.out.2.1 (by simp; omega) (fun k hk => (II.out.si.free.lt k hk).1)
        case measure => simp [intOf]; omega
      · have HOO := hidIt (HO.out hy)
        have NB := hidIt II.out.si.nb.2.2
        have hbw1 : b < wr.heap.size + 1 := by omega
        clear HY HO
        go_wp2_with (at_builtin; refine wpList_append_lies _ rfl _ _ 27 rfl w3.heap.size 43 i2 (.agg #[.int .i64 0, .int .i64 0]) 2 16 Try.underlying27 hi2 hz0 hz1 hz2 rfl (by omega) (.slice ma (keptTo a L k).length mc) (keptTo a L k).length (gones (keptTo a L k)) rfl ((II.out.si.lim.alloc _).alloc _) _ 1 1 [.int .i64 q, .int .i64 y] rfl rfl (World.news_of_block (at_new (by simp))) (by intro u hu; simp at hu; rcases hu with rfl | rfl <;> rfl) (by omega) (by unfold maxLen; omega) (by omega) (by simp; omega) _ rfl ?_; intro g6 cap6 w6 hown hgrow hat hlt6; have q0 := farv (b := b) (o := 0) hgrow (by simp <;> omega) (fun k hk e => by subst e; exact NB.out hk) (below_cell (((Below.refl _ wr).alloc (Nat.le_refl _) _).alloc (by simp) _) hbw b0); have q1 := farv (b := b) (o := 1) hgrow (by simp <;> omega) (fun k hk e => by subst e; exact NB.out hk) (below_cell (((Below.refl _ wr).alloc (Nat.le_refl _) _).alloc (by simp) _) hbw b1); have q2 := farv (b := b) (o := 2) hgrow (by simp <;> omega) (fun k hk e => by subst e; exact NB.out hk) (below_cell (((Below.refl _ wr).alloc (Nat.le_refl _) _).alloc (by simp) _) hbw b2); have qf : ∀ o, w6.frozen? ⟨b, o, none⟩ = false := (fun o => farv_frozen (b := b) (o := o) hgrow (by simp <;> omega) (fun k hk e => by subst e; exact NB.out hk) (below_frozen (((Below.refl _ wr).alloc (Nat.le_refl _) _).alloc (by simp) _) hbw (bf o))); have HO6 := hidIt (And.intro hown (And.intro hgrow hat)); clear hown hgrow hat b0 b1 b2 bf)
        go_roundw
        case rel =>
          have s := ((II.out.si.below (((Below.refl _ wr).alloc (Nat.le_refl _) _).alloc (by simp) _)).appL HO6.out.1 HO6.out.2.1 HO6.out.2.2).set 2 (.slice (some ⟨g6, 0, none⟩) ((keptTo a L k).length + 1) cap6)
          refine ⟨k + 1, .slice (some ⟨g6, 0, none⟩) ((keptTo a L k).length + 1) cap6, by omega, by go_num, ⟨?_, ?_, ?_, ?_, ?_, ?_⟩⟩
          · rw [HOO.out.1, HOO.out.2]
            exact s
          · exact (((II.out.below.alloc (by omega) _).alloc (by simp; omega) _).grown HO6.out.2.1 (by simp; omega) (fun k hk => (II.out.si.lim.lt k hk).1)).setCell (by show w3.heap.size ≤ b; omega) _
          · rw [World.cell?_setCell_other _ _ _ _ (by simp)]; exact q0
          · rw [World.cell?_setCell_other _ _ _ _ (by simp), q1, HPV.out]
          · exact World.cell?_setCell_same _ _ _ q2
          · intro o; rw [World.frozen?_setCell]; exact qf o
        case measure => simp [intOf]; omega
    · obtain rfl : k = L.length := by omega
      have HALL := hidIt (old_all a L)
      have kd0 := below_cell II.out.below (by omega) d0
      have kd1 := below_cell II.out.below (by omega) d1
      have kd2 := below_cell II.out.below (by omega) d2
      have kdf : ∀ o, wr.frozen? ⟨w.heap.size + 1, o, none⟩ = false := fun o => below_frozen II.out.below (by omega) (f0 o)
      go_wp2
      rw [← HALL.out.1, ← HALL.out.2]
      refine bodyPost_ret (v := .tuple #[.agg #[.int .i64 a, .slice (some ⟨g, 0, none⟩) ps.length cap4, .slice ma (keptTo a L L.length).length mc], .slice fa (oldsTo a L L.length).length fc]) (by simp [results, Try.results6, go_sem, kd0, kd1, kd2]) rfl ⟨_, _, _, rfl, ?_, ?_, ?_⟩
      · have A := II.out.si.ar
        rw [← HPV.out] at A
        exact (((A.set_out (.inl (by omega))).set_out (.inl (by omega))).set_out (.inl (by omega))).wide (by omega) (by simp)
      · exact ((((Row.of_owns II.out.si.free).set_below _ _ (by show w.heap.size + 1 < w3.heap.size; omega)).set_below _ _ (by show w.heap.size + 1 < w3.heap.size; omega)).set_below _ _ (by show w.heap.size + 1 < w3.heap.size; omega)).wide (by omega) (by simp)
      · exact ((BR.out.setCell (by simp) _).setCell (by simp) _).setCell (by simp) _
theorem spec_collect (w : World) (a : Int) (p l : Value) (ps : List Int) (L : List (Int × Int)) (hA : AIn w p l ps L) :
    Calls Try.prog 6 #[.agg #[.int .i64 a, p, l]] w (SAns (if okB a ps L = true then a else 0) (if okB a ps L = true then ps else []) (if okB a ps L = true then colL a L else []) (if okB a ps L = true then colF a L else []) w) := by
  cases hB : okB a ps L with
  | false => exact (spec_collect_no w a p l ps L hA hB).mono fun _ _ k => SAns.nope k
  | true => exact spec_collect_yes w a p l ps L hA hB

end Go.Proofs.Ytomehhheiodagab
