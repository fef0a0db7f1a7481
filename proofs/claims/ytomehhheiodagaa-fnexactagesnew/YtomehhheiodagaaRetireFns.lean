/- A node given up: the model's and the program's. -/
import Derived.Test.YtomehhheiodagaaRows
import Derived.WalkKit
import Derived.ProofKit
import Derived.OpenShut
import Derived.ShutString
import Derived.Test.YtomehhheiodagaaPinFns
namespace Go.Proofs.Ytomehhheiodagaa
open Go.ChangeShapes Go.WideShapes Go.ChangeAt Go.RowKit
set_option linter.unusedVariables false

def retOk (a : Int) (ps : List Int) (L : List (Int × Int)) (x : Int) : Bool := okB a ps L && !nodeB L x && decide (L.length ≠ 100)
def retP (B : Bool) (ps : List Int) : List Int := if B = true then ps else []
def retL (B : Bool) (L : List (Int × Int)) (x a : Int) : List (Int × Int) := if B = true then L ++ [(x, a)] else []
theorem gones_snoc (L : List (Int × Int)) (x a : Int) : gones (L ++ [(x, a)]) = gones L ++ [.int .i64 x, .int .i64 a] := by rw [gones_app]; rfl
theorem AO.grow {lo : Nat} {p l : Value} {ps : List Int} {L : List (Int × Int)} {W W' : World} (h : AO lo p l ps L W) (b : Below W.heap.size W W') : AO lo p l ps L W' := ⟨own_below h.pins b, own_below h.limbo b, h.apart⟩
theorem AO.app {lo : Nat} {p l : Value} {ps : List Int} {L : List (Int × Int)} {W W' : World} {x a : Int} {g cap : Nat} (h : AO lo p l ps L W)
    (ho : W'.ownsRow lo 44 2 (.slice (some ⟨g, 0, none⟩) (L.length + 1) cap) (L.length + 1) (gones L ++ [.int .i64 x, .int .i64 a])) (hg : W.grownBy W' l.ownBlock) (hat : l.ownBlock = some g ∨ g = W.heap.size) : AO lo p (.slice (some ⟨g, 0, none⟩) (L.length + 1) cap) ps (L ++ [(x, a)]) W' := by
  refine ⟨h.pins.kept hg ?_, by rw [gones_snoc]; simpa using ho, ?_⟩
  · cases hu : p.ownBlock with
    | none => exact .inl rfl
    | some k => exact .inr fun e => h.apart k hu e.symm
  · intro k hk hk2
    simp [Value.ownBlock] at hk2
    subst hk2
    rcases hat with hat | hat
    · exact h.apart g hk hat
    · have := (h.pins.lt g hk).2; omega
theorem AO.set {lo : Nat} {p l : Value} {ps : List Int} {L : List (Int × Int)} {W : World} (h : AO lo p l ps L W) {b o : Nat} {v : Value} (hp : p.ownBlock ≠ some b) (hl : l.ownBlock ≠ some b) : AO lo p l ps L (W.setCell ⟨b, o, none⟩ v) := by
  have hg : W.grownBy (W.setCell ⟨b, o, none⟩ v) (some b) := ⟨rfl, rfl, rfl, by simp, fun k _ hk => Below.heap_setCell _ _ _ _ (fun e => hk (by rw [e]))⟩
  exact ⟨h.pins.kept hg (.inr hp), h.limbo.kept hg (.inr hl), h.apart⟩
theorem AO.low {lo : Nat} {p l : Value} {ps : List Int} {L : List (Int × Int)} {W : World} (h : AO lo p l ps L W) {b o : Nat} {v : Value} (hb : b < lo) : AO lo p l ps L (W.setCell ⟨b, o, none⟩ v) :=
  h.set (fun e => by have := (h.pins.lt b e).1; omega) (fun e => by have := (h.limbo.lt b e).1; omega)
theorem AR.ofAO {lo lo' : Nat} {p l : Value} {ps : List Int} {L : List (Int × Int)} {W : World} (h : AO lo p l ps L W) (hl : lo' ≤ lo) : AR lo' W.heap.size p l ps L W := h.ar.wide hl (Nat.le_refl _)
theorem farv {w w' : World} {v : Value} {b o : Nat} {x : Option Value} (h : w.grownBy w' v.ownBlock) (hb : b < w.heap.size) (hn : ∀ k, v.ownBlock = some k → k ≠ b) (hx : w.cell? ⟨b, o, none⟩ = x) : w'.cell? ⟨b, o, none⟩ = x := (h.cell_far ⟨b, o, none⟩ hb (fun e => hn b e.symm rfl)).trans hx
theorem farv_frozen {w w' : World} {v : Value} {b o : Nat} {x : Bool} (h : w.grownBy w' v.ownBlock) (hb : b < w.heap.size) (hn : ∀ k, v.ownBlock = some k → k ≠ b) (hx : w.frozen? ⟨b, o, none⟩ = x) : w'.frozen? ⟨b, o, none⟩ = x := (h.frozen_far ⟨b, o, none⟩ hb (fun e => hn b e.symm rfl)).trans hx
theorem retOk_no {a : Int} {ps : List Int} {L : List (Int × Int)} {x : Int} (h : okB a ps L = false ∨ nodeB L x = true ∨ L.length = 100) : retOk a ps L x = false := by
  rcases h with h | h | h <;> simp [retOk, h]
theorem retOk_yes {a : Int} {ps : List Int} {L : List (Int × Int)} {x : Int} (h : retOk a ps L x = true) : okB a ps L = true ∧ nodeB L x = false ∧ L.length ≠ 100 := by
  simp only [retOk, Bool.and_eq_true, Bool.not_eq_true', decide_eq_true_eq] at h
  exact ⟨h.1.1, h.1.2, h.2⟩
theorem retOk_cases {a : Int} {ps : List Int} {L : List (Int × Int)} {x : Int} (h : retOk a ps L x = false) : okB a ps L = false ∨ nodeB L x = true ∨ L.length = 100 := by
  cases h1 : okB a ps L with
  | false => exact .inl rfl
  | true =>
    cases h2 : nodeB L x with
    | true => exact .inr (.inl rfl)
    | false =>
      simp [retOk, h1, h2] at h
      exact .inr (.inr h)

set_option maxHeartbeats 1600000 in
set_option maxRecDepth 100000 in
theorem spec_retire_no (w : World) (a : Int) (p l : Value) (ps : List Int) (L : List (Int × Int)) (x : Int) (hA : AIn w p l ps L) (hk : retOk a ps L x = false) :
    Calls Try.prog 22 #[.agg #[.int .i64 a, p, l], .int .i64 x] w fun e w' => e = .returned (.tuple #[.agg #[.int .i64 0, .slice none 0 0, .slice none 0 0], .bool false]) ∧ Below w.heap.size w w' := by
  have HK := hidIt (retOk_cases hk)
  clear hk
  have H := hidIt hA
  obtain ⟨pa, pc, la, lc, rfl, rfl, -⟩ := hA.form
  clear hA
  go_enter Try.func22, Try.ntmps22
  go_wp2_with fail
  generalize hW : World.alloc (World.alloc w _) _ = W2
  have bW : Hid (Below w.heap.size w W2) := (by rw [← hW]; exact ((Below.refl w.heap.size w).alloc (Nat.le_refl _) _).alloc (by simp) _ : Below w.heap.size w W2)
  have zW : W2.heap.size = w.heap.size + 2 := by rw [← hW]; simp
  have c0 : W2.cell? ⟨w.heap.size, 0, none⟩ = some (.int .i64 a) := by rw [← hW]; simp [go_sem]
  have c1 : W2.cell? ⟨w.heap.size, 1, none⟩ = some (.slice pa ps.length pc) := by rw [← hW]; simp [go_sem]
  have c2 : W2.cell? ⟨w.heap.size, 2, none⟩ = some (.slice la L.length lc) := by rw [← hW]; simp [go_sem]
  have d0 : W2.cell? ⟨w.heap.size + 1, 0, none⟩ = some (.int .i64 0) := by rw [← hW]; simp [go_sem]
  have d1 : W2.cell? ⟨w.heap.size + 1, 1, none⟩ = some (.slice none 0 0) := by rw [← hW]; simp [go_sem]
  have d2 : W2.cell? ⟨w.heap.size + 1, 2, none⟩ = some (.slice none 0 0) := by rw [← hW]; simp [go_sem]
  have f0 : ∀ o, W2.frozen? ⟨w.heap.size + 1, o, none⟩ = false := by rw [← hW]; simp [go_sem]
  clear hW
  refine (spec_agesok W2 a _ _ ps L (H.out.below bW.out)).mono ?_
  rintro e w3 ⟨rfl, b3⟩
  have z3 := b3.size
  have B3 := hidIt (bW.out.trans (b3.mono (by omega)))
  replace c0 := below_cell b3 (by omega) c0
  replace c1 := below_cell b3 (by omega) c1
  replace c2 := below_cell b3 (by omega) c2
  replace d0 := below_cell b3 (by omega) d0
  replace d1 := below_cell b3 (by omega) d1
  replace d2 := below_cell b3 (by omega) d2
  replace f0 : ∀ o, w3.frozen? ⟨w.heap.size + 1, o, none⟩ = false := fun o => below_frozen b3 (by omega) (f0 o)
  clear b3
  cases hB : okB a ps L with
  | false =>
    go_wp2
    exact bodyPost_ret (v := .tuple #[.agg #[.int .i64 0, .slice none 0 0, .slice none 0 0], .bool false]) (by simp [results, Try.results22, go_sem, d0, d1, d2]) rfl ⟨rfl, by exact ((B3.out.setCell (by simp) _).setCell (by simp) _).setCell (by simp) _⟩
  | true =>
    obtain ⟨-, -, -, -, m1, -, -⟩ := okB_len hB
    go_wp2_with fail
    refine (spec_node w3 _ L x (by omega) (H.out.limbo.below B3.out)).mono ?_
    rintro e w4 ⟨rfl, b4⟩
    have z4 := b4.size
    have B4 := hidIt (B3.out.trans (b4.mono (by omega)))
    replace c0 := below_cell b4 (by omega) c0
    replace c1 := below_cell b4 (by omega) c1
    replace c2 := below_cell b4 (by omega) c2
    replace d0 := below_cell b4 (by omega) d0
    replace d1 := below_cell b4 (by omega) d1
    replace d2 := below_cell b4 (by omega) d2
    replace f0 : ∀ o, w4.frozen? ⟨w.heap.size + 1, o, none⟩ = false := fun o => below_frozen b4 (by omega) (f0 o)
    clear b4
    cases hN : nodeB L x with
    | true =>
      go_wp2
      exact bodyPost_ret (v := .tuple #[.agg #[.int .i64 0, .slice none 0 0, .slice none 0 0], .bool false]) (by simp [results, Try.results22, go_sem, d0, d1, d2]) rfl ⟨rfl, by exact ((B4.out.setCell (by simp) _).setCell (by simp) _).setCell (by simp) _⟩
    | false =>
      have hl : L.length = 100 := by
        rcases HK.out with h | h | h
        · rw [hB] at h; cases h
        · rw [hN] at h; cases h
        · exact h
      have hl' : ((L.length : Int) == 100) = true := by simp; omega
      have hl2 : (L.length : Int) = 100 := by omega
      clear hl
      go_wp2
      exact bodyPost_ret (v := .tuple #[.agg #[.int .i64 0, .slice none 0 0, .slice none 0 0], .bool false]) (by simp [results, Try.results22, go_sem, d0, d1, d2]) rfl ⟨rfl, by exact ((B4.out.setCell (by simp) _).setCell (by simp) _).setCell (by simp) _⟩

set_option maxHeartbeats 1600000 in
set_option maxRecDepth 100000 in
theorem impl_retire_no (w : World) (a : Int) (p l : Value) (ps : List Int) (L : List (Int × Int)) (x : Int) (hA : AIn w p l ps L) (hk : retOk a ps L x = false) :
    Calls Try.prog 23 #[.agg #[.int .i64 a, p, l], .int .i64 x] w fun e w' => e = .returned (.tuple #[.agg #[.int .i64 0, .slice none 0 0, .slice none 0 0], .bool false]) ∧ Below w.heap.size w w' := by
  have HK := hidIt (retOk_cases hk)
  clear hk
  have H := hidIt hA
  obtain ⟨pa, pc, la, lc, rfl, rfl, -⟩ := hA.form
  clear hA
  go_enter Try.func23, Try.ntmps23
  go_wp2_with fail
  generalize hW : World.alloc (World.alloc w _) _ = W2
  have bW : Hid (Below w.heap.size w W2) := (by rw [← hW]; exact ((Below.refl w.heap.size w).alloc (Nat.le_refl _) _).alloc (by simp) _ : Below w.heap.size w W2)
  have zW : W2.heap.size = w.heap.size + 2 := by rw [← hW]; simp
  have c0 : W2.cell? ⟨w.heap.size, 0, none⟩ = some (.int .i64 a) := by rw [← hW]; simp [go_sem]
  have c1 : W2.cell? ⟨w.heap.size, 1, none⟩ = some (.slice pa ps.length pc) := by rw [← hW]; simp [go_sem]
  have c2 : W2.cell? ⟨w.heap.size, 2, none⟩ = some (.slice la L.length lc) := by rw [← hW]; simp [go_sem]
  have d0 : W2.cell? ⟨w.heap.size + 1, 0, none⟩ = some (.int .i64 0) := by rw [← hW]; simp [go_sem]
  have d1 : W2.cell? ⟨w.heap.size + 1, 1, none⟩ = some (.slice none 0 0) := by rw [← hW]; simp [go_sem]
  have d2 : W2.cell? ⟨w.heap.size + 1, 2, none⟩ = some (.slice none 0 0) := by rw [← hW]; simp [go_sem]
  have f0 : ∀ o, W2.frozen? ⟨w.heap.size + 1, o, none⟩ = false := by rw [← hW]; simp [go_sem]
  clear hW
  refine (impl_agesok W2 a _ _ ps L (H.out.below bW.out)).mono ?_
  rintro e w3 ⟨rfl, b3⟩
  have z3 := b3.size
  have B3 := hidIt (bW.out.trans (b3.mono (by omega)))
  replace c0 := below_cell b3 (by omega) c0
  replace c1 := below_cell b3 (by omega) c1
  replace c2 := below_cell b3 (by omega) c2
  replace d0 := below_cell b3 (by omega) d0
  replace d1 := below_cell b3 (by omega) d1
  replace d2 := below_cell b3 (by omega) d2
  replace f0 : ∀ o, w3.frozen? ⟨w.heap.size + 1, o, none⟩ = false := fun o => below_frozen b3 (by omega) (f0 o)
  clear b3
  cases hB : okB a ps L with
  | false =>
    go_wp2
    exact bodyPost_ret (v := .tuple #[.agg #[.int .i64 0, .slice none 0 0, .slice none 0 0], .bool false]) (by simp [results, Try.results23, go_sem, d0, d1, d2]) rfl ⟨rfl, by exact ((B3.out.setCell (by simp) _).setCell (by simp) _).setCell (by simp) _⟩
  | true =>
    obtain ⟨-, -, -, -, m1, -, -⟩ := okB_len hB
    by_cases hl : L.length = 100
    · have hl2 : (L.length : Int) = 100 := by omega
      clear hl
      go_wp2
      exact bodyPost_ret (v := .tuple #[.agg #[.int .i64 0, .slice none 0 0, .slice none 0 0], .bool false]) (by simp [results, Try.results23, go_sem, d0, d1, d2]) rfl ⟨rfl, by exact ((B3.out.setCell (by simp) _).setCell (by simp) _).setCell (by simp) _⟩
    · have hl2 : ¬ (L.length : Int) = 100 := by omega
      go_wp2_with fail
      refine (impl_place w3 _ L x (by omega) (H.out.limbo.below B3.out)).mono ?_
      rintro e w4 ⟨rfl, b4⟩
      have z4 := b4.size
      have B4 := hidIt (B3.out.trans (b4.mono (by omega)))
      replace c0 := below_cell b4 (by omega) c0
      replace c1 := below_cell b4 (by omega) c1
      replace c2 := below_cell b4 (by omega) c2
      replace d0 := below_cell b4 (by omega) d0
      replace d1 := below_cell b4 (by omega) d1
      replace d2 := below_cell b4 (by omega) d2
      replace f0 : ∀ o, w4.frozen? ⟨w.heap.size + 1, o, none⟩ = false := fun o => below_frozen b4 (by omega) (f0 o)
      clear b4
      have hN : nodeB L x = true := by
        rcases HK.out with h | h | h
        · rw [hB] at h; cases h
        · exact h
        · exact absurd h hl
      rw [hN]
      clear hl hN
      generalize placeI L x = pI
      go_wp2
      exact bodyPost_ret (v := .tuple #[.agg #[.int .i64 0, .slice none 0 0, .slice none 0 0], .bool false]) (by simp [results, Try.results23, go_sem, d0, d1, d2]) rfl ⟨rfl, by exact ((B4.out.setCell (by simp) _).setCell (by simp) _).setCell (by simp) _⟩

set_option maxHeartbeats 1600000 in
set_option maxRecDepth 100000 in
theorem spec_retire_yes (w : World) (a : Int) (p l : Value) (ps : List Int) (L : List (Int × Int)) (x : Int) (hA : AIn w p l ps L) (hk : retOk a ps L x = true) :
    Calls Try.prog 22 #[.agg #[.int .i64 a, p, l], .int .i64 x] w (AAns a ps (L ++ [(x, a)]) true w) := by
  obtain ⟨hB, hN, hl⟩ := retOk_yes hk
  clear hk
  obtain ⟨a0, a1, n1, n8, m1, -, -⟩ := okB_len hB
  obtain ⟨i2, hi2, hz0, hz1, hz2⟩ := info_parts infoGone
  have H := hidIt hA
  obtain ⟨pa, pc, la, lc, rfl, rfl, -⟩ := hA.form
  clear hA
  have hl2 : ¬ (L.length : Int) = 100 := by omega
  go_enter Try.func22, Try.ntmps22
  go_wp2_with fail
  generalize hW : World.alloc (World.alloc w _) _ = W2
  have bW : Hid (Below w.heap.size w W2) := (by rw [← hW]; exact ((Below.refl w.heap.size w).alloc (Nat.le_refl _) _).alloc (by simp) _ : Below w.heap.size w W2)
  have zW : W2.heap.size = w.heap.size + 2 := by rw [← hW]; simp
  have c0 : W2.cell? ⟨w.heap.size, 0, none⟩ = some (.int .i64 a) := by rw [← hW]; simp [go_sem]
  have c1 : W2.cell? ⟨w.heap.size, 1, none⟩ = some (.slice pa ps.length pc) := by rw [← hW]; simp [go_sem]
  have c2 : W2.cell? ⟨w.heap.size, 2, none⟩ = some (.slice la L.length lc) := by rw [← hW]; simp [go_sem]
  have d0 : W2.cell? ⟨w.heap.size + 1, 0, none⟩ = some (.int .i64 0) := by rw [← hW]; simp [go_sem]
  have d1 : W2.cell? ⟨w.heap.size + 1, 1, none⟩ = some (.slice none 0 0) := by rw [← hW]; simp [go_sem]
  have d2 : W2.cell? ⟨w.heap.size + 1, 2, none⟩ = some (.slice none 0 0) := by rw [← hW]; simp [go_sem]
  have f0 : ∀ o, W2.frozen? ⟨w.heap.size + 1, o, none⟩ = false := by rw [← hW]; simp [go_sem]
  clear hW
  refine (spec_agesok W2 a _ _ ps L (H.out.below bW.out)).mono ?_
  rintro e w3 ⟨rfl, b3⟩
  have z3 := b3.size
  have B3 := hidIt (bW.out.trans (b3.mono (by omega)))
  replace c0 := below_cell b3 (by omega) c0
  replace c1 := below_cell b3 (by omega) c1
  replace c2 := below_cell b3 (by omega) c2
  replace d0 := below_cell b3 (by omega) d0
  replace d1 := below_cell b3 (by omega) d1
  replace d2 := below_cell b3 (by omega) d2
  replace f0 : ∀ o, w3.frozen? ⟨w.heap.size + 1, o, none⟩ = false := fun o => below_frozen b3 (by omega) (f0 o)
  clear b3
  rw [hB]
  go_wp2_with fail
  refine (spec_node w3 _ L x (by omega) (H.out.limbo.below B3.out)).mono ?_
  rintro e w4 ⟨rfl, b4⟩
  have z4 := b4.size
  have B4 := hidIt (B3.out.trans (b4.mono (by omega)))
  replace c0 := below_cell b4 (by omega) c0
  replace c1 := below_cell b4 (by omega) c1
  replace c2 := below_cell b4 (by omega) c2
  replace d0 := below_cell b4 (by omega) d0
  replace d1 := below_cell b4 (by omega) d1
  replace d2 := below_cell b4 (by omega) d2
  replace f0 : ∀ o, w4.frozen? ⟨w.heap.size + 1, o, none⟩ = false := fun o => below_frozen b4 (by omega) (f0 o)
  clear b4
  rw [hN]
  have HR := hidIt (H.out.below B4.out)
  go_wp2_with fail
  refine (spec_copyages w4 a _ _ ps L (by omega) (by omega) (by omega) HR.out).mono ?_
  rintro e w5 ⟨p5, l5, rfl, ao, b5⟩
  have z5 := b5.size
  have A5 := hidIt ao
  have B5 := hidIt (B4.out.trans (b5.mono (by omega)))
  replace c0 := below_cell b5 (by omega) c0
  replace d0 := below_cell b5 (by omega) d0
  replace d1 := below_cell b5 (by omega) d1
  replace d2 := below_cell b5 (by omega) d2
  replace f0 : ∀ o, w5.frozen? ⟨w.heap.size + 1, o, none⟩ = false := fun o => below_frozen b5 (by omega) (f0 o)
  obtain ⟨x5, k5, y5, j5, rfl, rfl, -⟩ := ao.ar.form
  have hlt0 : w.heap.size < w5.heap.size := by omega
  have hlt1 : w.heap.size + 1 < w5.heap.size := by omega
  clear ao b5 c1 c2
  have AG := hidIt (fun o o' => A5.out.grow (((Below.refl _ w5).alloc (Nat.le_refl _) o).alloc (by simp) o'))
  have HN := hidIt A5.out.limbo.lt
  have hlt2 : w.heap.size < w5.heap.size + 1 := by omega
  have hlt3 : w.heap.size + 1 < w5.heap.size + 1 := by omega
  go_wp2_with (at_builtin; refine wpList_append_lies _ rfl _ _ 28 rfl w4.heap.size 44 i2 (.agg #[.int .i64 0, .int .i64 0]) 2 16 Try.underlying28 hi2 hz0 hz1 hz2 rfl (by omega) (.slice y5 L.length j5) L.length (gones L) rfl (AG.out _ _).limbo _ 1 1 [.int .i64 x, .int .i64 a] rfl rfl (World.news_of_block (at_new (by simp))) (by intro u hu; simp at hu; rcases hu with rfl | rfl <;> rfl) (by omega) (by unfold maxLen; omega) (by omega) (by simp; omega) _ rfl ?_; intro g cap w6 hown hgrow hat hlt; have q0 := farv (b := w5.heap.size) (o := 0) hgrow (by simp <;> omega) (fun k hk => by have := HN.out k hk; omega) (by simp [go_sem]; rfl); have q1 := farv (b := w5.heap.size) (o := 1) hgrow (by simp <;> omega) (fun k hk => by have := HN.out k hk; omega) (by simp [go_sem]; rfl); have q2 := farv (b := w5.heap.size) (o := 2) hgrow (by simp <;> omega) (fun k hk => by have := HN.out k hk; omega) (by simp [go_sem]; rfl); have qf : ∀ o, w6.frozen? ⟨w5.heap.size, o, none⟩ = false := (fun o => farv_frozen (b := w5.heap.size) (o := o) hgrow (by simp <;> omega) (fun k hk => by have := HN.out k hk; omega) (by simp [go_sem])); have r0 := farv (b := w.heap.size + 1) (o := 0) hgrow (by simp; omega) (fun k hk => by have := HN.out k hk; omega) (by simp [go_sem, hlt1, hlt3, d0]; rfl); have r1 := farv (b := w.heap.size + 1) (o := 1) hgrow (by simp; omega) (fun k hk => by have := HN.out k hk; omega) (by simp [go_sem, hlt1, hlt3, d1]; rfl); have r2 := farv (b := w.heap.size + 1) (o := 2) hgrow (by simp; omega) (fun k hk => by have := HN.out k hk; omega) (by simp [go_sem, hlt1, hlt3, d2]; rfl); have rf : ∀ o, w6.frozen? ⟨w.heap.size + 1, o, none⟩ = false := (fun o => farv_frozen (b := w.heap.size + 1) (o := o) hgrow (by simp; omega) (fun k hk => by have := HN.out k hk; omega) (by simp [go_sem, hlt1, hlt3, f0])); have HG := hidIt (And.intro hown (And.intro hgrow hat)); clear hown hgrow hat)
  have z6 := HG.out.2.1.size
  simp at z6
  have AO6 := hidIt ((AG.out _ _).app HG.out.1 HG.out.2.1 HG.out.2.2)
  have HP := hidIt A5.out.pins.lt
  have hgn : g ≠ w5.heap.size := by
    rcases HG.out.2.2 with e | e
    · have := HN.out g e; omega
    · simp at e; omega
  have B6 := hidIt (((B5.out.alloc (by omega) _).alloc (by simp; omega) _).grown HG.out.2.1 (by simp; omega) (fun k hk => by have := HN.out k hk; omega))
  refine bodyPost_ret (v := .tuple #[.agg #[.int .i64 a, .slice x5 ps.length k5, .slice (some ⟨g, 0, none⟩) (L.length + 1) cap], .bool true]) (by simp [results, Try.results22, go_sem, r0, r1, r2]) rfl ⟨_, _, rfl, ?_, ?_⟩
  · exact AR.ofAO ((((AO6.out.set (b := w5.heap.size) (fun e => by have := HP.out _ e; omega) (by simpa [Value.ownBlock] using hgn)).low (by omega)).low (by omega)).low (by omega)) (by omega)
  · exact (((B6.out.setCell (p := ⟨w5.heap.size, 2, none⟩) (by show w.heap.size ≤ w5.heap.size; omega) _).setCell (by simp) _).setCell (by simp) _).setCell (by simp) _

set_option maxHeartbeats 1600000 in
set_option maxRecDepth 100000 in
theorem impl_retire_yes (w : World) (a : Int) (p l : Value) (ps : List Int) (L : List (Int × Int)) (x : Int) (hA : AIn w p l ps L) (hk : retOk a ps L x = true) :
    Calls Try.prog 23 #[.agg #[.int .i64 a, p, l], .int .i64 x] w (AAns a ps (L ++ [(x, a)]) true w) := by
  obtain ⟨hB, hN, hl⟩ := retOk_yes hk
  clear hk
  obtain ⟨a0, a1, n1, n8, m1, -, -⟩ := okB_len hB
  obtain ⟨i2, hi2, hz0, hz1, hz2⟩ := info_parts infoGone
  have H := hidIt hA
  obtain ⟨pa, pc, la, lc, rfl, rfl, -⟩ := hA.form
  clear hA
  have hl2 : ¬ (L.length : Int) = 100 := by omega
  go_enter Try.func23, Try.ntmps23
  go_wp2_with fail
  generalize hW : World.alloc (World.alloc w _) _ = W2
  have bW : Hid (Below w.heap.size w W2) := (by rw [← hW]; exact ((Below.refl w.heap.size w).alloc (Nat.le_refl _) _).alloc (by simp) _ : Below w.heap.size w W2)
  have zW : W2.heap.size = w.heap.size + 2 := by rw [← hW]; simp
  have c0 : W2.cell? ⟨w.heap.size, 0, none⟩ = some (.int .i64 a) := by rw [← hW]; simp [go_sem]
  have c1 : W2.cell? ⟨w.heap.size, 1, none⟩ = some (.slice pa ps.length pc) := by rw [← hW]; simp [go_sem]
  have c2 : W2.cell? ⟨w.heap.size, 2, none⟩ = some (.slice la L.length lc) := by rw [← hW]; simp [go_sem]
  have d0 : W2.cell? ⟨w.heap.size + 1, 0, none⟩ = some (.int .i64 0) := by rw [← hW]; simp [go_sem]
  have d1 : W2.cell? ⟨w.heap.size + 1, 1, none⟩ = some (.slice none 0 0) := by rw [← hW]; simp [go_sem]
  have d2 : W2.cell? ⟨w.heap.size + 1, 2, none⟩ = some (.slice none 0 0) := by rw [← hW]; simp [go_sem]
  have f0 : ∀ o, W2.frozen? ⟨w.heap.size + 1, o, none⟩ = false := by rw [← hW]; simp [go_sem]
  clear hW
  refine (impl_agesok W2 a _ _ ps L (H.out.below bW.out)).mono ?_
  rintro e w3 ⟨rfl, b3⟩
  have z3 := b3.size
  have B3 := hidIt (bW.out.trans (b3.mono (by omega)))
  replace c0 := below_cell b3 (by omega) c0
  replace c1 := below_cell b3 (by omega) c1
  replace c2 := below_cell b3 (by omega) c2
  replace d0 := below_cell b3 (by omega) d0
  replace d1 := below_cell b3 (by omega) d1
  replace d2 := below_cell b3 (by omega) d2
  replace f0 : ∀ o, w3.frozen? ⟨w.heap.size + 1, o, none⟩ = false := fun o => below_frozen b3 (by omega) (f0 o)
  clear b3
  rw [hB]
  go_wp2_with fail
  refine (impl_place w3 _ L x (by omega) (H.out.limbo.below B3.out)).mono ?_
  rintro e w4 ⟨rfl, b4⟩
  have z4 := b4.size
  have B4 := hidIt (B3.out.trans (b4.mono (by omega)))
  replace c0 := below_cell b4 (by omega) c0
  replace c1 := below_cell b4 (by omega) c1
  replace c2 := below_cell b4 (by omega) c2
  replace d0 := below_cell b4 (by omega) d0
  replace d1 := below_cell b4 (by omega) d1
  replace d2 := below_cell b4 (by omega) d2
  replace f0 : ∀ o, w4.frozen? ⟨w.heap.size + 1, o, none⟩ = false := fun o => below_frozen b4 (by omega) (f0 o)
  clear b4
  rw [hN]
  generalize placeI L x = pI
  have HR := hidIt (H.out.below B4.out)
  go_wp2_with fail
  refine (impl_copyages w4 a _ _ ps L (by omega) (by omega) HR.out).mono ?_
  rintro e w5 ⟨p5, l5, rfl, ao, b5⟩
  have z5 := b5.size
  have A5 := hidIt ao
  have B5 := hidIt (B4.out.trans (b5.mono (by omega)))
  replace c0 := below_cell b5 (by omega) c0
  replace d0 := below_cell b5 (by omega) d0
  replace d1 := below_cell b5 (by omega) d1
  replace d2 := below_cell b5 (by omega) d2
  replace f0 : ∀ o, w5.frozen? ⟨w.heap.size + 1, o, none⟩ = false := fun o => below_frozen b5 (by omega) (f0 o)
  obtain ⟨x5, k5, y5, j5, rfl, rfl, -⟩ := ao.ar.form
  have hlt0 : w.heap.size < w5.heap.size := by omega
  have hlt1 : w.heap.size + 1 < w5.heap.size := by omega
  clear ao b5 c1 c2
  have AG := hidIt (fun o o' => A5.out.grow (((Below.refl _ w5).alloc (Nat.le_refl _) o).alloc (by simp) o'))
  have HN := hidIt A5.out.limbo.lt
  have hlt2 : w.heap.size < w5.heap.size + 1 := by omega
  have hlt3 : w.heap.size + 1 < w5.heap.size + 1 := by omega
  go_wp2_with (at_builtin; refine wpList_append_lies _ rfl _ _ 28 rfl w4.heap.size 44 i2 (.agg #[.int .i64 0, .int .i64 0]) 2 16 Try.underlying28 hi2 hz0 hz1 hz2 rfl (by omega) (.slice y5 L.length j5) L.length (gones L) rfl (AG.out _ _).limbo _ 1 1 [.int .i64 x, .int .i64 a] rfl rfl (World.news_of_block (at_new (by simp))) (by intro u hu; simp at hu; rcases hu with rfl | rfl <;> rfl) (by omega) (by unfold maxLen; omega) (by omega) (by simp; omega) _ rfl ?_; intro g cap w6 hown hgrow hat hlt; have q0 := farv (b := w5.heap.size) (o := 0) hgrow (by simp <;> omega) (fun k hk => by have := HN.out k hk; omega) (by simp [go_sem]; rfl); have q1 := farv (b := w5.heap.size) (o := 1) hgrow (by simp <;> omega) (fun k hk => by have := HN.out k hk; omega) (by simp [go_sem]; rfl); have q2 := farv (b := w5.heap.size) (o := 2) hgrow (by simp <;> omega) (fun k hk => by have := HN.out k hk; omega) (by simp [go_sem]; rfl); have qf : ∀ o, w6.frozen? ⟨w5.heap.size, o, none⟩ = false := (fun o => farv_frozen (b := w5.heap.size) (o := o) hgrow (by simp <;> omega) (fun k hk => by have := HN.out k hk; omega) (by simp [go_sem])); have r0 := farv (b := w.heap.size + 1) (o := 0) hgrow (by simp; omega) (fun k hk => by have := HN.out k hk; omega) (by simp [go_sem, hlt1, hlt3, d0]; rfl); have r1 := farv (b := w.heap.size + 1) (o := 1) hgrow (by simp; omega) (fun k hk => by have := HN.out k hk; omega) (by simp [go_sem, hlt1, hlt3, d1]; rfl); have r2 := farv (b := w.heap.size + 1) (o := 2) hgrow (by simp; omega) (fun k hk => by have := HN.out k hk; omega) (by simp [go_sem, hlt1, hlt3, d2]; rfl); have rf : ∀ o, w6.frozen? ⟨w.heap.size + 1, o, none⟩ = false := (fun o => farv_frozen (b := w.heap.size + 1) (o := o) hgrow (by simp; omega) (fun k hk => by have := HN.out k hk; omega) (by simp [go_sem, hlt1, hlt3, f0])); have HG := hidIt (And.intro hown (And.intro hgrow hat)); clear hown hgrow hat)
  have z6 := HG.out.2.1.size
  simp at z6
  have AO6 := hidIt ((AG.out _ _).app HG.out.1 HG.out.2.1 HG.out.2.2)
  have HP := hidIt A5.out.pins.lt
  have hgn : g ≠ w5.heap.size := by
    rcases HG.out.2.2 with e | e
    · have := HN.out g e; omega
    · simp at e; omega
  have B6 := hidIt (((B5.out.alloc (by omega) _).alloc (by simp; omega) _).grown HG.out.2.1 (by simp; omega) (fun k hk => by have := HN.out k hk; omega))
  refine bodyPost_ret (v := .tuple #[.agg #[.int .i64 a, .slice x5 ps.length k5, .slice (some ⟨g, 0, none⟩) (L.length + 1) cap], .bool true]) (by simp [results, Try.results23, go_sem, r0, r1, r2]) rfl ⟨_, _, rfl, ?_, ?_⟩
  · exact AR.ofAO ((((AO6.out.set (b := w5.heap.size) (fun e => by have := HP.out _ e; omega) (by simpa [Value.ownBlock] using hgn)).low (by omega)).low (by omega)).low (by omega)) (by omega)
  · exact (((B6.out.setCell (p := ⟨w5.heap.size, 2, none⟩) (by show w.heap.size ≤ w5.heap.size; omega) _).setCell (by simp) _).setCell (by simp) _).setCell (by simp) _
theorem spec_retire (w : World) (a : Int) (p l : Value) (ps : List Int) (L : List (Int × Int)) (h : Int) (hA : AIn w p l ps L) :
    Calls Try.prog 22 #[.agg #[.int .i64 a, p, l], .int .i64 h] w (AAns (setA (retOk a ps L h) a) (retP (retOk a ps L h) ps) (retL (retOk a ps L h) L h a) (retOk a ps L h) w) := by
  cases hB : retOk a ps L h with
  | false => exact (spec_retire_no w a p l ps L h hA hB).mono fun _ _ k => AAns.none k
  | true => exact spec_retire_yes w a p l ps L h hA hB
theorem impl_retire (w : World) (a : Int) (p l : Value) (ps : List Int) (L : List (Int × Int)) (h : Int) (hA : AIn w p l ps L) :
    Calls Try.prog 23 #[.agg #[.int .i64 a, p, l], .int .i64 h] w (AAns (setA (retOk a ps L h) a) (retP (retOk a ps L h) ps) (retL (retOk a ps L h) L h a) (retOk a ps L h) w) := by
  cases hB : retOk a ps L h with
  | false => exact (impl_retire_no w a p l ps L h hA hB).mono fun _ _ k => AAns.none k
  | true => exact impl_retire_yes w a p l ps L h hA hB

end Go.Proofs.Ytomehhheiodagaa
