/- Rows of cells: one cell put anew; the model's copy. -/
import Derived.Test.YtomfdbglnedpcaaRows
import Derived.WalkKit
import Derived.ProofKit
import Derived.OpenShut
import Derived.ShutString
import Derived.Test.YtomfdbglnedpcaaMemFns
namespace Go.Proofs.Ytomfdbglnedpcaa
open Go.ChangeShapes Go.WideShapes Go.ChangeAt Go.RowKit
set_option linter.unusedVariables false

theorem Row.ofSome {w : World} {lo hi : Nat} {v : Value} {xs : List Int} (h : Row w lo hi v (ints xs)) (h0 : 0 < xs.length) :
    ∃ g c, v = .slice (some ⟨g, 0, none⟩) xs.length c ∧ lo ≤ g ∧ g < hi ∧ (∀ j (hj : j < xs.length), w.cell? ⟨g, j, none⟩ = some (.int .i64 xs[j])) ∧ ∀ j, w.frozen? ⟨g, j, none⟩ = false := by
  obtain ⟨a, c, rfl, q⟩ := h
  rcases q with q | ⟨g, rfl, h1, h2, h3, h4⟩
  · have : xs = [] := by simpa using q
    subst this; simp at h0
  · exact ⟨g, c, by rw [ints_len], h1, h2, fun j hj => by have := h3 j (by simpa using hj); rw [List.getElem_map] at this; exact this, h4⟩
theorem Row.ofCells {w : World} {lo hi g c : Nat} {xs : List Int} (h1 : lo ≤ g) (h2 : g < hi) (h3 : ∀ j (hj : j < xs.length), w.cell? ⟨g, j, none⟩ = some (.int .i64 xs[j])) (h4 : ∀ j, w.frozen? ⟨g, j, none⟩ = false) :
    Row w lo hi (.slice (some ⟨g, 0, none⟩) xs.length c) (ints xs) :=
  ⟨_, c, by rw [ints_len], .inr ⟨g, rfl, h1, h2, fun j hj => by rw [List.getElem_map]; exact h3 j (by simpa using hj), h4⟩⟩
theorem Row.put {w : World} {lo hi g n c : Nat} {xs : List Int} (h : Row w lo hi (.slice (some ⟨g, 0, none⟩) n c) (ints xs)) (i : Nat) (hi' : i < xs.length) (y : Int) :
    Row (w.setCell ⟨g, i, none⟩ (.int .i64 y)) lo hi (.slice (some ⟨g, 0, none⟩) n c) (ints (xs.set i y)) := by
  obtain ⟨g', c', e, h1, h2, h3, h4⟩ := h.ofSome (by omega)
  simp at e
  obtain ⟨rfl, rfl, rfl⟩ := e
  have := Row.ofCells (w := w.setCell ⟨g, i, none⟩ (.int .i64 y)) (c := c) (xs := xs.set i y) h1 h2 (fun j hj => by
    by_cases ej : j = i
    · subst ej
      rw [World.cell?_setCell_same _ _ _ (h3 j hi')]; simp
    · rw [World.cell?_setCell_other _ _ _ _ (by simp <;> omega), h3 j (by simpa using hj), List.getElem_set_ne (by omega)]) (fun j => by rw [World.frozen?_setCell]; exact h4 j)
  rwa [List.length_set] at this

set_option maxRecDepth 100000 in
theorem spec_copy (w : World) (lo hi : Nat) (v : Value) (xs : List Int) (hn : xs.length ≤ 4194304) (h0 : 0 < xs.length) (hh : hi ≤ w.heap.size) (r : Row w lo hi v (ints xs)) :
    Calls Try.prog 74 #[.agg #[v]] w fun e w' => ∃ v', e = .returned (.agg #[v']) ∧ Row w' w.heap.size w'.heap.size v' (ints xs) ∧ Below w.heap.size w w' := by
  obtain ⟨g, c, rfl, g1, g2, g3, g4⟩ := r.ofSome h0
  obtain ⟨i0, hi, hz0, hz1, hz2⟩ := info_parts info3
  have G3 := hidIt g3
  clear g3 g4 r
  have hg : g < w.heap.size := by omega
  go_enter Try.func74, Try.ntmps74
  have hmade : (((w.alloc (.cells #[.slice (some ⟨g, 0, none⟩) xs.length c] 28)).alloc (.cells #[.slice none 0 0] 28)).alloc (.cells #[] 3)).ownsRow (w.heap.size + 1 + 1) 3 1 (.slice (some ⟨w.heap.size + 1 + 1, 0, none⟩) 0 0) 0 [] := by
    have := World.ownsRow_made (base := w.heap.size + 1 + 1) (e := 3) (size := 1) ((w.alloc (.cells #[.slice (some ⟨g, 0, none⟩) xs.length c] 28)).alloc (.cells #[.slice none 0 0] 28)) #[] 0 (by simp) (by unfold maxLen; omega) (by simp)
    simpa using this
  have HM := hidIt hmade
  clear hmade
  go_wp2_with (at_builtin; refine wpList_append_own _ (by rfl) (.tmp 3) (.tmp 5) 22 (by rfl) (w.heap.size + 1 + 1) 3 i0 (.int .i64 0) 1 8 Try.underlying22 hi hz0 hz1 hz2 rfl (by decide) _ _ _ (by rfl) HM.out ⟨g, 0, none⟩ xs.length c (ints xs) (by rfl) (by simp) ?c1 ?c2 ?c3 ?c4 ?c5 ?_)
  case c1 =>
    intro j u hj
    obtain ⟨hj1, rfl⟩ := List.getElem?_eq_some_iff.1 hj
    have hadd : (⟨g, 0, none⟩ : Addr).add j = ⟨g, j, none⟩ := by unfold Addr.add; split <;> simp_all
    rw [hadd, List.getElem_map]
    simp at hj1
    rw [World.cell?_alloc_old _ _ _ (by simp; omega), World.cell?_alloc_old _ _ _ (by simp; omega), World.cell?_alloc_old _ _ _ (by simp; omega)]
    exact G3.out j hj1
  case c2 => intro u hu; simp at hu; obtain ⟨x, -, rfl⟩ := hu; rfl
  case c3 => unfold maxLen; omega
  case c4 => omega
  case c5 => simp
  intro v' w1 hown' hgrow _
  have b1 : Below (w.heap.size + 1 + 1) ((w.alloc (.cells #[.slice (some ⟨g, 0, none⟩) xs.length c] 28)).alloc (.cells #[.slice none 0 0] 28)) w1 := ((Below.refl _ _).alloc (by simp) _).grown hgrow (by simp) (fun k hk => by simp [Value.ownBlock] at hk; omega)
  have R1 : Hid (Row w1 _ _ v' (ints xs)) := Row.of_owns (by simpa using hown')
  clear hgrow hown'
  have HB := hidIt b1
  obtain ⟨a', c', rfl⟩ := Row.form R1.out
  obtain ⟨hc1, hf1⟩ := bcell (W := ((w.alloc (.cells #[.slice (some ⟨g, 0, none⟩) xs.length c] 28)).alloc (.cells #[.slice none 0 0] 28))) (w1 := w1) (by simpa using b1)
  clear b1
  go_wp2
  refine bodyPost_ret (v := .agg #[.slice a' xs.length c']) (by simp [results, Try.results74, go_sem, hc1]) rfl ⟨_, rfl, ?_, ?_⟩
  · exact (R1.out.set_below _ _ (by simp)).lo (by omega) |>.up (by simp)
  · exact ((((Below.refl w.heap.size w).alloc (Nat.le_refl _) _).alloc (by simp) _).trans (HB.out.mono (by omega))).setCell (by simp) _

end Go.Proofs.Ytomfdbglnedpcaa
