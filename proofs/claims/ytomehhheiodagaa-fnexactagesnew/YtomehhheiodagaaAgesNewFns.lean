/- New epochs: the model's and the program's. -/
import Derived.Test.YtomehhheiodagaaRows
import Derived.WalkKit
import Derived.ProofKit
import Derived.OpenShut
import Derived.ShutString
import Derived.Test.YtomehhheiodagaaRetireFns
import Derived.Test.YtomehhheiodagaaArrFns
namespace Go.Proofs.Ytomehhheiodagaa
open Go.ChangeShapes Go.WideShapes Go.ChangeAt Go.RowKit
set_option linter.unusedVariables false

def newB (n : Int) : Bool := decide (1 ≤ n ∧ n ≤ 8)
def newP (n : Int) : List Int := if 1 ≤ n ∧ n ≤ 8 then List.replicate n.toNat (-1) else []
theorem newP_len (n : Int) : (newP n).length ≤ 8 := by unfold newP; split <;> simp; omega

theorem spec_agesnew_no (w : World) (n : Int) (h : ¬ (1 ≤ n ∧ n ≤ 8)) :
    Calls Try.prog 14 #[.int .i64 n] w fun e w' => e = .returned (.tuple #[.agg #[.int .i64 0, .slice none 0 0, .slice none 0 0], .bool false]) ∧ Below w.heap.size w w' := by
  by_cases h0 : n < 1
  · go_enter Try.func14, Try.ntmps14
    go_wp2
    exact bodyPost_ret (v := .tuple #[.agg #[.int .i64 0, .slice none 0 0, .slice none 0 0], .bool false]) (by simp [results, Try.results14, go_sem]) rfl ⟨rfl, by repeat (first | exact Below.refl _ _ | refine Below.setCell ?_ (by simp <;> omega) _ | refine Below.alloc ?_ (by simp <;> omega) _)⟩
  · have h1 : 8 < n := by omega
    go_enter Try.func14, Try.ntmps14
    go_wp2
    exact bodyPost_ret (v := .tuple #[.agg #[.int .i64 0, .slice none 0 0, .slice none 0 0], .bool false]) (by simp [results, Try.results14, go_sem]) rfl ⟨rfl, by repeat (first | exact Below.refl _ _ | refine Below.setCell ?_ (by simp <;> omega) _ | refine Below.alloc ?_ (by simp <;> omega) _)⟩

theorem impl_agesnew_no (w : World) (n : Int) (h : ¬ (1 ≤ n ∧ n ≤ 8)) :
    Calls Try.prog 15 #[.int .i64 n] w fun e w' => e = .returned (.tuple #[.agg #[.int .i64 0, .slice none 0 0, .slice none 0 0], .bool false]) ∧ Below w.heap.size w w' := by
  by_cases h0 : n < 1
  · go_enter Try.func15, Try.ntmps15
    go_wp2
    exact bodyPost_ret (v := .tuple #[.agg #[.int .i64 0, .slice none 0 0, .slice none 0 0], .bool false]) (by simp [results, Try.results15, go_sem]) rfl ⟨rfl, by repeat (first | exact Below.refl _ _ | refine Below.setCell ?_ (by simp <;> omega) _ | refine Below.alloc ?_ (by simp <;> omega) _)⟩
  · have h1 : 8 < n := by omega
    go_enter Try.func15, Try.ntmps15
    go_wp2
    exact bodyPost_ret (v := .tuple #[.agg #[.int .i64 0, .slice none 0 0, .slice none 0 0], .bool false]) (by simp [results, Try.results15, go_sem]) rfl ⟨rfl, by repeat (first | exact Below.refl _ _ | refine Below.setCell ?_ (by simp <;> omega) _ | refine Below.alloc ?_ (by simp <;> omega) _)⟩

set_option maxHeartbeats 800000 in
set_option maxRecDepth 100000 in
theorem impl_agesnew_yes (w : World) (n : Nat) (h1 : 1 ≤ n) (h8 : n ≤ 8) :
    Calls Try.prog 15 #[.int .i64 (n : Int)] w (AAns 0 (List.replicate n (-1)) [] true w) := by
  have g1 : ¬ ((n : Int) < 1) := by omega
  have g2 : ¬ ((8 : Int) < (n : Int)) := by omega
  have g3 : (n : Int) ≤ 8 := by omega
  have g4 : (0 : Int) ≤ (n : Int) := by omega
  go_enter Try.func15, Try.ntmps15
  go_wp2_with fail
  refine (impl_nobody _).mono ?_
  rintro e w3 ⟨rfl, b3⟩
  have z3 := b3.size
  simp at z3
  have d0 : w3.cell? ⟨w.heap.size, 0, none⟩ = some (.int .i64 0) := below_cell b3 (by simp) (by simp [go_sem])
  have d1 : w3.cell? ⟨w.heap.size, 1, none⟩ = some (.slice none 0 0) := below_cell b3 (by simp) (by simp [go_sem])
  have d2 : w3.cell? ⟨w.heap.size, 2, none⟩ = some (.slice none 0 0) := below_cell b3 (by simp) (by simp [go_sem])
  have f0 : ∀ o, w3.frozen? ⟨w.heap.size, o, none⟩ = false := fun o => below_frozen b3 (by simp) (by simp [go_sem])
  have B3 := hidIt (((Below.refl w.heap.size w).alloc (Nat.le_refl _) _).trans (b3.mono (by simp)))
  clear b3
  have hA : AIn (w3.alloc (.cells #[.int .i64 (-1), .int .i64 (-1), .int .i64 (-1), .int .i64 (-1), .int .i64 (-1), .int .i64 (-1), .int .i64 (-1), .int .i64 (-1)] 52)) (.slice (some ⟨w3.heap.size, 0, none⟩) n 8) (.slice none 0 0) (List.replicate n (-1)) [] := by
    refine ⟨⟨_, 8, by simp, .inr ⟨w3.heap.size, 0, rfl, by simp, fun j hj => ?_⟩⟩, ⟨none, 0, rfl, Nat.le_refl _, .inl rfl⟩⟩
    have hj' : j < n := by simpa using hj
    simp only [List.getElem_replicate, Nat.zero_add]
    rcases (by omega : j = 0 ∨ j = 1 ∨ j = 2 ∨ j = 3 ∨ j = 4 ∨ j = 5 ∨ j = 6 ∨ j = 7) with rfl | rfl | rfl | rfl | rfl | rfl | rfl | rfl <;> simp [go_sem]
  have HA := hidIt hA
  clear hA
  go_wp2_with fail
  refine (impl_copyages _ 0 _ _ (List.replicate n (-1)) [] (by simp; omega) (by simp) HA.out).mono ?_
  rintro e w4 ⟨p4, l4, rfl, ao, b4⟩
  have z4 := b4.size
  simp at z4
  have A4 := hidIt ao.ar
  obtain ⟨x4, k4, y4, j4, rfl, rfl, -⟩ := ao.ar.form
  have BB := hidIt (((Below.refl w3.heap.size w3).alloc (Nat.le_refl _) _).trans (b4.mono (by simp)))
  have B4 := hidIt (B3.out.trans (BB.out.mono (by omega)))
  replace d0 := below_cell BB.out (by omega) d0
  replace d1 := below_cell BB.out (by omega) d1
  replace d2 := below_cell BB.out (by omega) d2
  replace f0 : ∀ o, w4.frozen? ⟨w.heap.size, o, none⟩ = false := fun o => below_frozen BB.out (by omega) (f0 o)
  clear ao b4
  go_wp2
  refine bodyPost_ret (v := .tuple #[.agg #[.int .i64 0, .slice x4 (List.replicate n (-1 : Int)).length k4, .slice y4 ([] : List (Int × Int)).length j4], .bool true]) (by simp [results, Try.results15, go_sem, d0, d1, d2]) rfl ⟨_, _, rfl, ?_, ?_⟩
  · exact (((A4.out.set_out (.inl (by simp; omega))).set_out (.inl (by simp; omega))).set_out (.inl (by simp; omega))).wide (by simp; omega) (by simp)
  · exact ((B4.out.setCell (by simp) _).setCell (by simp) _).setCell (by simp) _

structure NewI (w wr : World) (v : Value) (k : Nat) : Prop where
  below : Below w.heap.size w wr
  more : w.heap.size + 2 ≤ wr.heap.size
  r0 : wr.cell? ⟨w.heap.size, 0, none⟩ = some (.int .i64 0)
  r1 : wr.cell? ⟨w.heap.size, 1, none⟩ = some (.slice none 0 0)
  r2 : wr.cell? ⟨w.heap.size, 2, none⟩ = some (.slice none 0 0)
  rf : ∀ o, wr.frozen? ⟨w.heap.size, o, none⟩ = false
  b0 : wr.cell? ⟨w.heap.size + 1, 0, none⟩ = some (.int .i64 0)
  b1 : wr.cell? ⟨w.heap.size + 1, 1, none⟩ = some v
  b2 : wr.cell? ⟨w.heap.size + 1, 2, none⟩ = some (.slice none 0 0)
  bf : ∀ o, wr.frozen? ⟨w.heap.size + 1, o, none⟩ = false
  own : wr.ownsRow (w.heap.size + 2) 3 1 v k (ints (List.replicate k (-1)))
theorem newI_form {w wr : World} {v : Value} {k : Nat} (h : NewI w wr v k) : ∃ a c, v = .slice a k c := by
  obtain ⟨a, c, e⟩ := (Row.of_owns h.own).form
  exact ⟨a, c, by simpa using e⟩

set_option maxHeartbeats 800000 in
set_option maxRecDepth 100000 in
theorem spec_agesnew_yes (w : World) (n : Nat) (h1 : 1 ≤ n) (h8 : n ≤ 8) :
    Calls Try.prog 14 #[.int .i64 (n : Int)] w (AAns 0 (List.replicate n (-1)) [] true w) := by
  obtain ⟨i1, hi1, hy0, hy1, hy2⟩ := info_parts info3
  have g1 : ¬ ((n : Int) < 1) := by omega
  have g2 : ¬ ((8 : Int) < (n : Int)) := by omega
  go_enter Try.func14, Try.ntmps14
  go_wp2_with fail
  generalize hW : World.alloc (World.alloc w _) _ = W2
  have bW : Below w.heap.size w W2 := by rw [← hW]; exact ((Below.refl w.heap.size w).alloc (Nat.le_refl _) _).alloc (by simp) _
  have zW : W2.heap.size = w.heap.size + 2 := by rw [← hW]; simp
  have c0 : W2.cell? ⟨w.heap.size, 0, none⟩ = some (.int .i64 0) := by rw [← hW]; simp [go_sem]
  have c1 : W2.cell? ⟨w.heap.size, 1, none⟩ = some (.slice none 0 0) := by rw [← hW]; simp [go_sem]
  have c2 : W2.cell? ⟨w.heap.size, 2, none⟩ = some (.slice none 0 0) := by rw [← hW]; simp [go_sem]
  have d0 : W2.cell? ⟨w.heap.size + 1, 0, none⟩ = some (.int .i64 0) := by rw [← hW]; simp [go_sem]
  have d1 : W2.cell? ⟨w.heap.size + 1, 1, none⟩ = some (.slice none 0 0) := by rw [← hW]; simp [go_sem]
  have d2 : W2.cell? ⟨w.heap.size + 1, 2, none⟩ = some (.slice none 0 0) := by rw [← hW]; simp [go_sem]
  have f0 : ∀ o, W2.frozen? ⟨w.heap.size, o, none⟩ = false := by rw [← hW]; simp [go_sem]
  have f1 : ∀ o, W2.frozen? ⟨w.heap.size + 1, o, none⟩ = false := by rw [← hW]; simp [go_sem]
  clear hW
  have I0 : NewI w W2 (.slice none 0 0) 0 := ⟨bW, by omega, c0, c1, c2, f0, d0, d1, d2, f1, World.ownsRow_nil _ _ _ _⟩
  clear bW zW c0 c1 c2 d0 d1 d2 f0 f1
  go_loopw [5] (fun i wr => ∃ (k : Nat) (v : Value), k ≤ n ∧ i = .int .i64 k ∧ NewI w wr v k) (fun i _ => n - (intOf i).toNat)
  case atStart => exact ⟨0, _, Nat.zero_le _, rfl, I0⟩
  case round =>
    rename World => wr
    clear I0
    obtain ⟨k, v, hk, rfl, I⟩ := hrel
    have II := hidIt I
    obtain ⟨va, vc, rfl⟩ := newI_form I
    obtain ⟨-, hmore, r0, r1, r2, rf, b0, b1, b2, bf, -⟩ := I
    by_cases hlt : k < n
    · have hlt' : (k : Int) < (n : Int) := by omega
      have HN := hidIt II.out.own.lt
      have hl0 : w.heap.size < wr.heap.size := by omega
      have hl1 : w.heap.size + 1 < wr.heap.size := by omega
      go_wp2_with (at_builtin; refine wpList_append_lies _ rfl _ _ 22 rfl (w.heap.size + 2) 3 i1 (.int .i64 0) 1 8 Try.underlying22 hi1 hy0 hy1 hy2 rfl (by omega) (.slice va k vc) k (ints (List.replicate k (-1))) rfl (II.out.own.alloc _) _ 1 1 [.int .i64 (-1)] rfl rfl (World.news_of_block (at_new rfl)) (by intro u hu; simp at hu; subst hu; rfl) (by omega) (by unfold maxLen; omega) (by omega) (by simp; omega) _ rfl ?_; intro g cap w6 hown hgrow hat hlt6; have r0x := farv (b := w.heap.size) (o := 0) hgrow (by simp <;> omega) (fun k hk => by have := HN.out k hk; omega) (below_cell ((Below.refl _ wr).alloc (Nat.le_refl _) _) (by omega) r0); have r1x := farv (b := w.heap.size) (o := 1) hgrow (by simp <;> omega) (fun k hk => by have := HN.out k hk; omega) (below_cell ((Below.refl _ wr).alloc (Nat.le_refl _) _) (by omega) r1); have r2x := farv (b := w.heap.size) (o := 2) hgrow (by simp <;> omega) (fun k hk => by have := HN.out k hk; omega) (below_cell ((Below.refl _ wr).alloc (Nat.le_refl _) _) (by omega) r2); have b0x := farv (b := w.heap.size + 1) (o := 0) hgrow (by simp <;> omega) (fun k hk => by have := HN.out k hk; omega) (below_cell ((Below.refl _ wr).alloc (Nat.le_refl _) _) (by omega) b0); have b1x := farv (b := w.heap.size + 1) (o := 1) hgrow (by simp <;> omega) (fun k hk => by have := HN.out k hk; omega) (below_cell ((Below.refl _ wr).alloc (Nat.le_refl _) _) (by omega) b1); have b2x := farv (b := w.heap.size + 1) (o := 2) hgrow (by simp <;> omega) (fun k hk => by have := HN.out k hk; omega) (below_cell ((Below.refl _ wr).alloc (Nat.le_refl _) _) (by omega) b2); have rfx : ∀ o, w6.frozen? ⟨w.heap.size, o, none⟩ = false := (fun o => farv_frozen (b := w.heap.size) (o := o) hgrow (by simp <;> omega) (fun k hk => by have := HN.out k hk; omega) (below_frozen ((Below.refl _ wr).alloc (Nat.le_refl _) _) (by omega) (rf o))); have bfx : ∀ o, w6.frozen? ⟨w.heap.size + 1, o, none⟩ = false := (fun o => farv_frozen (b := w.heap.size + 1) (o := o) hgrow (by simp <;> omega) (fun k hk => by have := HN.out k hk; omega) (below_frozen ((Below.refl _ wr).alloc (Nat.le_refl _) _) (by omega) (bf o))); have HG := hidIt (And.intro hown (And.intro hgrow hat)); clear hown hgrow hat r0 r1 r2 rf b0 b1 b2 bf)
      go_roundw
      case rel =>
        have hgn : g ≠ w.heap.size + 1 := by
          rcases HG.out.2.2 with e | e
          · have := HN.out g e; omega
          · simp at e; omega
        have z6 := HG.out.2.1.size
        simp at z6
        refine ⟨k + 1, .slice (some ⟨g, 0, none⟩) (k + 1) cap, by omega, by go_num, ⟨?_, by simp; omega, ?_, ?_, ?_, ?_, ?_, ?_, ?_, ?_, ?_⟩⟩
        · exact (((II.out.below.alloc (by omega) _).grown HG.out.2.1 (by simp; omega) (fun k hk => by have := HN.out k hk; omega))).setCell (by simp) _
        · rw [World.cell?_setCell_other _ _ _ _ (by simp)]; exact r0x
        · rw [World.cell?_setCell_other _ _ _ _ (by simp)]; exact r1x
        · rw [World.cell?_setCell_other _ _ _ _ (by simp)]; exact r2x
        · intro o; rw [World.frozen?_setCell]; exact rfx o
        · rw [World.cell?_setCell_other _ _ _ _ (by simp)]; exact b0x
        · exact World.cell?_setCell_same _ _ _ b1x
        · rw [World.cell?_setCell_other _ _ _ _ (by simp)]; exact b2x
        · intro o; rw [World.frozen?_setCell]; exact bfx o
        · have ho := HG.out.1
          have e : ints (List.replicate k (-1)) ++ [.int .i64 (-1)] = ints (List.replicate (k + 1) (-1)) := by rw [List.replicate_succ']; simp
          rw [e] at ho
          exact ho.kept (row := some (w.heap.size + 1)) ⟨rfl, rfl, rfl, by simp, fun k _ hk => Below.heap_setCell _ _ _ _ (fun e => hk (by rw [e]))⟩ (.inr (by simpa [Value.ownBlock] using hgn))
      case measure => simp [intOf]; omega
    · obtain rfl : k = n := by omega
      have hl1 : w.heap.size + 1 < wr.heap.size := by omega
      go_wp2
      refine bodyPost_ret (v := .tuple #[.agg #[.int .i64 0, .slice va k vc, .slice none 0 0], .bool true]) (by simp [results, Try.results14, go_sem, r0, r1, r2]) rfl ⟨_, _, rfl, ?_, ?_⟩
      · have R : Row wr (w.heap.size + 2) wr.heap.size (.slice va k vc) (ints (List.replicate k (-1))) := Row.of_owns (n := k) II.out.own
        have A : AR (w.heap.size + 2) wr.heap.size (.slice va k vc) (.slice none 0 0) (List.replicate k (-1)) [] wr := ⟨R, ⟨none, 0, rfl, Nat.le_refl _, .inl rfl⟩, fun _ h => absurd h (by simp)⟩
        exact (((A.set_out (.inl (by omega))).set_out (.inl (by omega))).set_out (.inl (by omega))).wide (by omega) (by simp)
      · exact ((II.out.below.setCell (by simp) _).setCell (by simp) _).setCell (by simp) _
theorem spec_agesnew (w : World) (n : Int) : Calls Try.prog 14 #[.int .i64 n] w (AAns 0 (newP n) [] (newB n) w) := by
  by_cases h : 1 ≤ n ∧ n ≤ 8
  · obtain ⟨k, rfl⟩ : ∃ k : Nat, n = k := ⟨n.toNat, by omega⟩
    have e1 : newB k = true := decide_eq_true h
    have e2 : newP k = List.replicate k (-1) := by rw [newP, if_pos h]; simp
    rw [e1, e2]
    exact spec_agesnew_yes w k (by omega) (by omega)
  · rw [show newB n = false from decide_eq_false h, show newP n = [] from if_neg h]
    exact (spec_agesnew_no w n h).mono fun _ _ k => AAns.none k
theorem impl_agesnew (w : World) (n : Int) : Calls Try.prog 15 #[.int .i64 n] w (AAns 0 (newP n) [] (newB n) w) := by
  by_cases h : 1 ≤ n ∧ n ≤ 8
  · obtain ⟨k, rfl⟩ : ∃ k : Nat, n = k := ⟨n.toNat, by omega⟩
    have e1 : newB k = true := decide_eq_true h
    have e2 : newP k = List.replicate k (-1) := by rw [newP, if_pos h]; simp
    rw [e1, e2]
    exact impl_agesnew_yes w k (by omega) (by omega)
  · rw [show newB n = false from decide_eq_false h, show newP n = [] from if_neg h]
    exact (impl_agesnew_no w n h).mono fun _ _ k => AAns.none k

end Go.Proofs.Ytomehhheiodagaa
