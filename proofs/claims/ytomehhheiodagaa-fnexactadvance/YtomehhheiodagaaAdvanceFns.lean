/- Epochs that go on: the model's and the program's. -/
import Derived.Test.YtomehhheiodagaaRows
import Derived.WalkKit
import Derived.ProofKit
import Derived.OpenShut
import Derived.ShutString
import Derived.Test.YtomehhheiodagaaRetireFns
import Derived.Test.YtomehhheiodagaaPinned
namespace Go.Proofs.Ytomehhheiodagaa
open Go.ChangeShapes Go.WideShapes Go.ChangeAt Go.RowKit
set_option linter.unusedVariables false

def advW (a : Int) (ps : List Int) : Bool := decide (a ≠ 4294967295) && ps.all (fun p => decide (p = -1) || decide (p = a))
def advA (a : Int) (ps : List Int) : Int := if advW a ps = true then a + 1 else a
def advOk (a : Int) (ps : List Int) (L : List (Int × Int)) : Bool := okB a ps L && advW a ps
theorem advW_max {a : Int} {ps : List Int} (h : a = 4294967295) : advW a ps = false := by simp [advW, h]
theorem advW_pin {a : Int} {ps : List Int} {k : Nat} (hk : k < ps.length) (h1 : ps[k] ≠ -1) (h2 : ps[k] ≠ a) : advW a ps = false := by
  have : ps.all (fun p => decide (p = -1) || decide (p = a)) = false := all_stop hk (by simp [h1, h2])
  rw [advW, this, Bool.and_false]
theorem advW_yes {a : Int} {ps : List Int} (h : a ≠ 4294967295) (hp : ∀ j (hj : j < ps.length), ps[j] = -1 ∨ ps[j] = a) : advW a ps = true := by
  have : ps.all (fun p => decide (p = -1) || decide (p = a)) = true := all_full (fun j hj => by simpa using hp j hj)
  rw [advW, this, decide_eq_true h]; rfl
theorem advW_pinned {a : Int} {ps : List Int} {L : List (Int × Int)} (hB : okB a ps L = true) (h : a ≠ 4294967295) : advW a ps = !pinnedB ps (a - 1) := by
  obtain ⟨-, -, -, -, -, hp, -⟩ := okB_len hB
  cases hq : pinnedB ps (a - 1) with
  | false =>
    rw [pinnedB, List.any_eq_false] at hq
    refine advW_yes h (fun j hj => ?_)
    have h1 := hq ps[j] (List.getElem_mem hj)
    have h2 := hp ps[j] (List.getElem_mem hj)
    simp at h1
    omega
  | true =>
    rw [pinnedB, List.any_eq_true] at hq
    obtain ⟨p, hm, hq⟩ := hq
    obtain ⟨j, hj, rfl⟩ := List.mem_iff_getElem.1 hm
    simp at hq
    exact advW_pin hj hq.1 (by omega)

set_option maxHeartbeats 800000 in
set_option maxRecDepth 100000 in
theorem spec_advance_no (w : World) (a : Int) (p l : Value) (ps : List Int) (L : List (Int × Int)) (hA : AIn w p l ps L) (hB : okB a ps L = false) :
    Calls Try.prog 24 #[.agg #[.int .i64 a, p, l]] w fun e w' => e = .returned (.tuple #[.agg #[.int .i64 0, .slice none 0 0, .slice none 0 0], .bool false]) ∧ Below w.heap.size w w' := by
  have H := hidIt hA
  obtain ⟨pa, pc, la, lc, rfl, rfl, -⟩ := hA.form
  clear hA
  go_enter Try.func24, Try.ntmps24
  go_wp2_with fail
  generalize hW : World.alloc (World.alloc w _) _ = W2
  have bW : Hid (Below w.heap.size w W2) := (by rw [← hW]; exact ((Below.refl w.heap.size w).alloc (Nat.le_refl _) _).alloc (by simp) _ : Below w.heap.size w W2)
  have zW : W2.heap.size = w.heap.size + 2 := by rw [← hW]; simp
  have c0 : W2.cell? ⟨w.heap.size, 0, none⟩ = some (.int .i64 a) := by rw [← hW]; simp [go_sem]
  have c1 : W2.cell? ⟨w.heap.size, 1, none⟩ = some (.slice pa ps.length pc) := by rw [← hW]; simp [go_sem]
  have c2 : W2.cell? ⟨w.heap.size, 2, none⟩ = some (.slice la L.length lc) := by rw [← hW]; simp [go_sem]
  have d0 : W2.cell? ⟨w.heap.size + 1, 0, none⟩ = some (.int .i64 0) := by rw [← hW]; simp [go_sem]
  have d1 : W2.cell? ⟨w.heap.size + 1, 1, none⟩ = some (.slice none 0 0) := by rw [← hW]; simp [go_sem]
  have d2 : W2.cell? ⟨w.heap.size + 1, 2, none⟩ = some (.slice none 0 0) := by rw [← hW]; simp [go_sem]
  have f0 : ∀ o, W2.frozen? ⟨w.heap.size + 1, o, none⟩ = false := by rw [← hW]; simp [go_sem]
  clear hW
  refine (spec_agesok W2 a _ _ ps L (H.out.below bW.out)).mono ?_
  rintro e w3 ⟨rfl, b3⟩
  have z3 := b3.size
  have B3 := hidIt (bW.out.trans (b3.mono (by omega)))
  replace c0 := below_cell b3 (by omega) c0
  replace c1 := below_cell b3 (by omega) c1
  replace c2 := below_cell b3 (by omega) c2
  replace d0 := below_cell b3 (by omega) d0
  replace d1 := below_cell b3 (by omega) d1
  replace d2 := below_cell b3 (by omega) d2
  replace f0 : ∀ o, w3.frozen? ⟨w.heap.size + 1, o, none⟩ = false := fun o => below_frozen b3 (by omega) (f0 o)
  clear b3
  rw [hB]
  go_wp2
  exact bodyPost_ret (v := .tuple #[.agg #[.int .i64 0, .slice none 0 0, .slice none 0 0], .bool false]) (by simp [results, Try.results24, go_sem, d0, d1, d2]) rfl ⟨rfl, by exact ((B3.out.setCell (by simp) _).setCell (by simp) _).setCell (by simp) _⟩

set_option maxHeartbeats 800000 in
set_option maxRecDepth 100000 in
theorem impl_advance_no (w : World) (a : Int) (p l : Value) (ps : List Int) (L : List (Int × Int)) (hA : AIn w p l ps L) (hB : okB a ps L = false) :
    Calls Try.prog 25 #[.agg #[.int .i64 a, p, l]] w fun e w' => e = .returned (.tuple #[.agg #[.int .i64 0, .slice none 0 0, .slice none 0 0], .bool false]) ∧ Below w.heap.size w w' := by
  have H := hidIt hA
  obtain ⟨pa, pc, la, lc, rfl, rfl, -⟩ := hA.form
  clear hA
  go_enter Try.func25, Try.ntmps25
  go_wp2_with fail
  generalize hW : World.alloc (World.alloc w _) _ = W2
  have bW : Hid (Below w.heap.size w W2) := (by rw [← hW]; exact ((Below.refl w.heap.size w).alloc (Nat.le_refl _) _).alloc (by simp) _ : Below w.heap.size w W2)
  have zW : W2.heap.size = w.heap.size + 2 := by rw [← hW]; simp
  have c0 : W2.cell? ⟨w.heap.size, 0, none⟩ = some (.int .i64 a) := by rw [← hW]; simp [go_sem]
  have c1 : W2.cell? ⟨w.heap.size, 1, none⟩ = some (.slice pa ps.length pc) := by rw [← hW]; simp [go_sem]
  have c2 : W2.cell? ⟨w.heap.size, 2, none⟩ = some (.slice la L.length lc) := by rw [← hW]; simp [go_sem]
  have d0 : W2.cell? ⟨w.heap.size + 1, 0, none⟩ = some (.int .i64 0) := by rw [← hW]; simp [go_sem]
  have d1 : W2.cell? ⟨w.heap.size + 1, 1, none⟩ = some (.slice none 0 0) := by rw [← hW]; simp [go_sem]
  have d2 : W2.cell? ⟨w.heap.size + 1, 2, none⟩ = some (.slice none 0 0) := by rw [← hW]; simp [go_sem]
  have f0 : ∀ o, W2.frozen? ⟨w.heap.size + 1, o, none⟩ = false := by rw [← hW]; simp [go_sem]
  clear hW
  refine (impl_agesok W2 a _ _ ps L (H.out.below bW.out)).mono ?_
  rintro e w3 ⟨rfl, b3⟩
  have z3 := b3.size
  have B3 := hidIt (bW.out.trans (b3.mono (by omega)))
  replace c0 := below_cell b3 (by omega) c0
  replace c1 := below_cell b3 (by omega) c1
  replace c2 := below_cell b3 (by omega) c2
  replace d0 := below_cell b3 (by omega) d0
  replace d1 := below_cell b3 (by omega) d1
  replace d2 := below_cell b3 (by omega) d2
  replace f0 : ∀ o, w3.frozen? ⟨w.heap.size + 1, o, none⟩ = false := fun o => below_frozen b3 (by omega) (f0 o)
  clear b3
  rw [hB]
  go_wp2
  exact bodyPost_ret (v := .tuple #[.agg #[.int .i64 0, .slice none 0 0, .slice none 0 0], .bool false]) (by simp [results, Try.results25, go_sem, d0, d1, d2]) rfl ⟨rfl, by exact ((B3.out.setCell (by simp) _).setCell (by simp) _).setCell (by simp) _⟩

set_option maxHeartbeats 1600000 in
set_option maxRecDepth 100000 in
theorem impl_advance_yes (w : World) (a : Int) (p l : Value) (ps : List Int) (L : List (Int × Int)) (hA : AIn w p l ps L) (hB : okB a ps L = true) :
    Calls Try.prog 25 #[.agg #[.int .i64 a, p, l]] w (AAns (advA a ps) ps L (advW a ps) w) := by
  obtain ⟨a0, a1, n1, n8, m1, -, -⟩ := okB_len hB
  have H := hidIt hA
  obtain ⟨pa, pc, la, lc, rfl, rfl, -⟩ := hA.form
  clear hA
  go_enter Try.func25, Try.ntmps25
  go_wp2_with fail
  generalize hW : World.alloc (World.alloc w _) _ = W2
  have bW : Hid (Below w.heap.size w W2) := (by rw [← hW]; exact ((Below.refl w.heap.size w).alloc (Nat.le_refl _) _).alloc (by simp) _ : Below w.heap.size w W2)
  have zW : W2.heap.size = w.heap.size + 2 := by rw [← hW]; simp
  have c0 : W2.cell? ⟨w.heap.size, 0, none⟩ = some (.int .i64 a) := by rw [← hW]; simp [go_sem]
  have c1 : W2.cell? ⟨w.heap.size, 1, none⟩ = some (.slice pa ps.length pc) := by rw [← hW]; simp [go_sem]
  have c2 : W2.cell? ⟨w.heap.size, 2, none⟩ = some (.slice la L.length lc) := by rw [← hW]; simp [go_sem]
  have d0 : W2.cell? ⟨w.heap.size + 1, 0, none⟩ = some (.int .i64 0) := by rw [← hW]; simp [go_sem]
  have d1 : W2.cell? ⟨w.heap.size + 1, 1, none⟩ = some (.slice none 0 0) := by rw [← hW]; simp [go_sem]
  have d2 : W2.cell? ⟨w.heap.size + 1, 2, none⟩ = some (.slice none 0 0) := by rw [← hW]; simp [go_sem]
  have f0 : ∀ o, W2.frozen? ⟨w.heap.size + 1, o, none⟩ = false := by rw [← hW]; simp [go_sem]
  clear hW
  refine (impl_agesok W2 a _ _ ps L (H.out.below bW.out)).mono ?_
  rintro e w3 ⟨rfl, b3⟩
  have z3 := b3.size
  have B3 := hidIt (bW.out.trans (b3.mono (by omega)))
  replace c0 := below_cell b3 (by omega) c0
  replace c1 := below_cell b3 (by omega) c1
  replace c2 := below_cell b3 (by omega) c2
  replace d0 := below_cell b3 (by omega) d0
  replace d1 := below_cell b3 (by omega) d1
  replace d2 := below_cell b3 (by omega) d2
  replace f0 : ∀ o, w3.frozen? ⟨w.heap.size + 1, o, none⟩ = false := fun o => below_frozen b3 (by omega) (f0 o)
  clear b3
  rw [hB]
  have HR := hidIt (H.out.below B3.out)
  go_wp2_with fail
  refine (impl_copyages w3 a _ _ ps L (by omega) (by omega) HR.out).mono ?_
  rintro e w4 ⟨p4, l4, rfl, ao, b4⟩
  have z4 := b4.size
  have A4 := hidIt ao.ar
  have B4 := hidIt (B3.out.trans (b4.mono (by omega)))
  replace c0 := below_cell b4 (by omega) c0
  replace c1 := below_cell b4 (by omega) c1
  replace c2 := below_cell b4 (by omega) c2
  replace d0 := below_cell b4 (by omega) d0
  replace d1 := below_cell b4 (by omega) d1
  replace d2 := below_cell b4 (by omega) d2
  replace f0 : ∀ o, w4.frozen? ⟨w.heap.size + 1, o, none⟩ = false := fun o => below_frozen b4 (by omega) (f0 o)
  obtain ⟨x4, k4, y4, j4, rfl, rfl, -⟩ := ao.ar.form
  have hlt0 : w.heap.size < w4.heap.size := by omega
  have hlt1 : w.heap.size + 1 < w4.heap.size := by omega
  clear ao b4
  by_cases hm : a = 4294967295
  · subst hm
    have e1 : advW 4294967295 ps = false := advW_max rfl
    have e2 : advA 4294967295 ps = 4294967295 := by rw [advA, e1]; rfl
    rw [e1, e2]
    go_wp2
    refine bodyPost_ret (v := .tuple #[.agg #[.int .i64 4294967295, .slice x4 ps.length k4, .slice y4 L.length j4], .bool false]) (by simp [results, Try.results25, go_sem, d0, d1, d2, hlt1]) rfl ⟨_, _, rfl, ?_, ?_⟩
    · exact ((((A4.out.set_out (.inl (by omega))).set_out (.inl (by omega))).set_out (.inl (by omega))).alloc (by simp) _).wide (by omega) (by simp)
    · exact (((B4.out.setCell (by simp) _).setCell (by simp) _).setCell (by simp) _).alloc (by simp; omega) _
  · have hm2 : (a == 4294967295) = false := by simpa using hm
    have e1 := hidIt (advW_pinned hB hm)
    generalize hW4 : w4.alloc (.cells #[.int .i64 a, .slice x4 ps.length k4, .slice y4 L.length j4] 30) = W4
    have zW4 : W4.heap.size = w4.heap.size + 1 := by rw [← hW4]; simp
    have BA : Hid (Below w4.heap.size w4 W4) := (by rw [← hW4]; exact (Below.refl _ _).alloc (Nat.le_refl _) _ : Below w4.heap.size w4 W4)
    have k0 : W4.cell? ⟨w4.heap.size, 0, none⟩ = some (.int .i64 a) := by rw [← hW4]; simp [go_sem]
    have k1 : W4.cell? ⟨w4.heap.size, 1, none⟩ = some (.slice x4 ps.length k4) := by rw [← hW4]; simp [go_sem]
    have k2 : W4.cell? ⟨w4.heap.size, 2, none⟩ = some (.slice y4 L.length j4) := by rw [← hW4]; simp [go_sem]
    have kf : ∀ o, W4.frozen? ⟨w4.heap.size, o, none⟩ = false := by rw [← hW4]; simp [go_sem]
    have c0x := below_cell BA.out (by omega) c0
    have c1x := below_cell BA.out (by omega) c1
    have c2x := below_cell BA.out (by omega) c2
    go_wp2_with fail
    clear hW4 c0x c1x c2x
    refine (impl_pinned W4 a _ _ ps L (a - 1) (by omega) (H.out.below (B4.out.trans (BA.out.mono (by omega))))).mono ?_
    rintro e w5 ⟨rfl, b5⟩
    have z5 := b5.size
    have B5 := hidIt (B4.out.trans ((BA.out.mono (by omega)).trans (b5.mono (by omega))))
    have A5 := hidIt ((A4.out.below BA.out).below (b5.mono (by omega)))
    have BB := hidIt (BA.out.trans (b5.mono (by omega)))
    replace k0 := below_cell b5 (by omega) k0
    replace k1 := below_cell b5 (by omega) k1
    replace k2 := below_cell b5 (by omega) k2
    replace kf : ∀ o, w5.frozen? ⟨w4.heap.size, o, none⟩ = false := fun o => below_frozen b5 (by omega) (kf o)
    replace d0 := below_cell BB.out (by omega) d0
    replace d1 := below_cell BB.out (by omega) d1
    replace d2 := below_cell BB.out (by omega) d2
    replace f0 : ∀ o, w5.frozen? ⟨w.heap.size + 1, o, none⟩ = false := fun o => below_frozen BB.out (by omega) (f0 o)
    clear b5 c0 c1 c2 hm
    cases hP : pinnedB ps (a - 1) with
    | true =>
      have e2 : Hid (advW a ps = false) := (by rw [e1.out, hP]; rfl : advW a ps = false)
      have e3 : Hid (advA a ps = a) := (by rw [advA, e2.out]; rfl : advA a ps = a)
      go_wp2
      rw [e2.out, e3.out]
      refine bodyPost_ret (v := .tuple #[.agg #[.int .i64 a, .slice x4 ps.length k4, .slice y4 L.length j4], .bool false]) (by simp [results, Try.results25, go_sem, d0, d1, d2]) rfl ⟨_, _, rfl, ?_, ?_⟩
      · exact (((A5.out.set_out (.inl (by omega))).set_out (.inl (by omega))).set_out (.inl (by omega))).wide (by omega) (by simp; omega)
      · exact ((B5.out.setCell (by simp) _).setCell (by simp) _).setCell (by simp) _
    | false =>
      have e2 : Hid (advW a ps = true) := (by rw [e1.out, hP]; rfl : advW a ps = true)
      have e3 : Hid (advA a ps = a + 1) := (by rw [advA, e2.out]; rfl : advA a ps = a + 1)
      go_wp2
      rw [e2.out, e3.out]
      refine bodyPost_ret (v := .tuple #[.agg #[.int .i64 (a + 1), .slice x4 ps.length k4, .slice y4 L.length j4], .bool true]) (by simp [results, Try.results25, go_sem, d0, d1, d2]) rfl ⟨_, _, rfl, ?_, ?_⟩
      · exact ((((A5.out.set_out (b := w4.heap.size) (.inr (Nat.le_refl _))).set_out (.inl (by omega))).set_out (.inl (by omega))).set_out (.inl (by omega))).wide (by omega) (by simp; omega)
      · exact (((B5.out.setCell (p := ⟨w4.heap.size, 0, none⟩) (by show w.heap.size ≤ w4.heap.size; omega) _).setCell (by simp) _).setCell (by simp) _).setCell (by simp) _

set_option maxHeartbeats 1600000 in
set_option maxRecDepth 100000 in
theorem spec_advance_yes (w : World) (a : Int) (p l : Value) (ps : List Int) (L : List (Int × Int)) (hA : AIn w p l ps L) (hB : okB a ps L = true) :
    Calls Try.prog 24 #[.agg #[.int .i64 a, p, l]] w (AAns (advA a ps) ps L (advW a ps) w) := by
  obtain ⟨a0, a1, n1, n8, m1, -, -⟩ := okB_len hB
  have H := hidIt hA
  obtain ⟨pa, pc, la, lc, rfl, rfl, -⟩ := hA.form
  clear hA
  go_enter Try.func24, Try.ntmps24
  go_wp2_with fail
  generalize hW : World.alloc (World.alloc w _) _ = W2
  have bW : Hid (Below w.heap.size w W2) := (by rw [← hW]; exact ((Below.refl w.heap.size w).alloc (Nat.le_refl _) _).alloc (by simp) _ : Below w.heap.size w W2)
  have zW : W2.heap.size = w.heap.size + 2 := by rw [← hW]; simp
  have c0 : W2.cell? ⟨w.heap.size, 0, none⟩ = some (.int .i64 a) := by rw [← hW]; simp [go_sem]
  have c1 : W2.cell? ⟨w.heap.size, 1, none⟩ = some (.slice pa ps.length pc) := by rw [← hW]; simp [go_sem]
  have c2 : W2.cell? ⟨w.heap.size, 2, none⟩ = some (.slice la L.length lc) := by rw [← hW]; simp [go_sem]
  have d0 : W2.cell? ⟨w.heap.size + 1, 0, none⟩ = some (.int .i64 0) := by rw [← hW]; simp [go_sem]
  have d1 : W2.cell? ⟨w.heap.size + 1, 1, none⟩ = some (.slice none 0 0) := by rw [← hW]; simp [go_sem]
  have d2 : W2.cell? ⟨w.heap.size + 1, 2, none⟩ = some (.slice none 0 0) := by rw [← hW]; simp [go_sem]
  have f0 : ∀ o, W2.frozen? ⟨w.heap.size + 1, o, none⟩ = false := by rw [← hW]; simp [go_sem]
  clear hW
  refine (spec_agesok W2 a _ _ ps L (H.out.below bW.out)).mono ?_
  rintro e w3 ⟨rfl, b3⟩
  have z3 := b3.size
  have B3 := hidIt (bW.out.trans (b3.mono (by omega)))
  replace c0 := below_cell b3 (by omega) c0
  replace c1 := below_cell b3 (by omega) c1
  replace c2 := below_cell b3 (by omega) c2
  replace d0 := below_cell b3 (by omega) d0
  replace d1 := below_cell b3 (by omega) d1
  replace d2 := below_cell b3 (by omega) d2
  replace f0 : ∀ o, w3.frozen? ⟨w.heap.size + 1, o, none⟩ = false := fun o => below_frozen b3 (by omega) (f0 o)
  clear b3
  rw [hB]
  have HR := hidIt (H.out.below B3.out)
  go_wp2_with fail
  refine (spec_copyages w3 a _ _ ps L (by omega) (by omega) (by omega) HR.out).mono ?_
  rintro e w4 ⟨p4, l4, rfl, ao, b4⟩
  have z4 := b4.size
  have A4 := hidIt ao.ar
  have B4 := hidIt (B3.out.trans (b4.mono (by omega)))
  replace c0 := below_cell b4 (by omega) c0
  replace c1 := below_cell b4 (by omega) c1
  replace c2 := below_cell b4 (by omega) c2
  replace d0 := below_cell b4 (by omega) d0
  replace d1 := below_cell b4 (by omega) d1
  replace d2 := below_cell b4 (by omega) d2
  replace f0 : ∀ o, w4.frozen? ⟨w.heap.size + 1, o, none⟩ = false := fun o => below_frozen b4 (by omega) (f0 o)
  obtain ⟨x4, k4, y4, j4, rfl, rfl, -⟩ := ao.ar.form
  have hlt0 : w.heap.size < w4.heap.size := by omega
  have hlt1 : w.heap.size + 1 < w4.heap.size := by omega
  clear ao b4
  obtain ⟨pa', pc', hv, hp⟩ := H.out.pins.below B4.out
  simp at hv
  obtain ⟨rfl, rfl⟩ := hv
  rcases hp with hp | ⟨b, off, rfl, hb, hp⟩
  · rw [hp] at n1; simp at n1
  have HP := hidIt hp
  clear hp
  have HW := hidIt (And.intro (advW_max (a := a) (ps := ps)) (And.intro (fun (k : Nat) (hk : k < ps.length) => advW_pin (a := a) (ps := ps) hk) (advW_yes (a := a) (ps := ps))))
  generalize hW4 : w4.alloc (.cells #[.int .i64 a, .slice x4 ps.length k4, .slice y4 L.length j4] 30) = W4
  have zW4 : W4.heap.size = w4.heap.size + 1 := by rw [← hW4]; simp
  have BA : Hid (Below w4.heap.size w4 W4) := (by rw [← hW4]; exact (Below.refl _ _).alloc (Nat.le_refl _) _ : Below w4.heap.size w4 W4)
  have k0 : W4.cell? ⟨w4.heap.size, 0, none⟩ = some (.int .i64 a) := by rw [← hW4]; simp [go_sem]
  have k1 : W4.cell? ⟨w4.heap.size, 1, none⟩ = some (.slice x4 ps.length k4) := by rw [← hW4]; simp [go_sem]
  have k2 : W4.cell? ⟨w4.heap.size, 2, none⟩ = some (.slice y4 L.length j4) := by rw [← hW4]; simp [go_sem]
  have kf : ∀ o, W4.frozen? ⟨w4.heap.size, o, none⟩ = false := by rw [← hW4]; simp [go_sem]
  have c0x := below_cell BA.out (by omega) c0
  have c1x := below_cell BA.out (by omega) c1
  go_wp2_with fail
  clear hW4 c0x c1x
  have B5 := hidIt (B4.out.trans (BA.out.mono (by omega)))
  have A5 := hidIt (A4.out.below BA.out)
  replace c0 := below_cell BA.out (by omega) c0
  replace d0 := below_cell BA.out (by omega) d0
  replace d1 := below_cell BA.out (by omega) d1
  replace d2 := below_cell BA.out (by omega) d2
  replace f0 : ∀ o, W4.frozen? ⟨w.heap.size + 1, o, none⟩ = false := fun o => below_frozen BA.out (by omega) (f0 o)
  clear c1 c2
  go_loop [16] (fun i => ∃ k : Nat, k ≤ ps.length ∧ i = .int .i64 k ∧ Hid (∀ j (hj : j < ps.length), j < k → ps[j] = -1 ∨ ps[j] = a)) (fun i => ps.length - (intOf i).toNat)
  case atStart => exact ⟨0, Nat.zero_le _, rfl, fun j _ hj => by omega⟩
  case round =>
    obtain ⟨k, hk, rfl, HF⟩ := hrel
    by_cases hlt : k < ps.length
    · have c3 := below_cell BA.out hb (HP.out k hlt)
      have hlt' : (k : Int) < (ps.length : Int) := by omega
      have HS := hidIt (HW.out.2.1 k hlt)
      have HG : Hid ((ps[k] = -1 ∨ ps[k] = a) → ∀ j (hj : j < ps.length), j < k + 1 → ps[j] = -1 ∨ ps[j] = a) := fun h j hj hjk => by
        by_cases e : j = k
        · subst e; exact h
        · exact HF.out j hj (by omega)
      generalize ps[k] = z at c3 HS HG
      by_cases e1 : z = -1
      · subst e1
        have hp := hidIt (HG.out (.inl rfl))
        clear HG HS
        go_wp2
        go_round
        case rel => exact ⟨k + 1, by omega, by go_num, hp.out⟩
        case measure => simp [intOf]; omega
      · by_cases e2 : z = a
        · subst e2
          have hp := hidIt (HG.out (.inr rfl))
          clear HG HS
          go_wp2
          go_round
          case rel => exact ⟨k + 1, by omega, by go_num, hp.out⟩
          case measure => simp [intOf]; omega
        · have E1 := hidIt (HS.out e1 e2)
          have E2 : Hid (advA a ps = a) := (by rw [advA, E1.out]; rfl : advA a ps = a)
          clear HG HS
          have f1 : (z != -1) = true := by simpa using e1
          have f2 : (z != a) = true := by simpa using e2
          clear e1 e2
          go_wp2
          rw [E1.out, E2.out]
          refine bodyPost_ret (v := .tuple #[.agg #[.int .i64 a, .slice x4 ps.length k4, .slice y4 L.length j4], .bool false]) (by simp [results, Try.results24, go_sem, d0, d1, d2]) rfl ⟨_, _, rfl, ?_, ?_⟩
          · exact (((A5.out.set_out (.inl (by omega))).set_out (.inl (by omega))).set_out (.inl (by omega))).wide (by omega) (by simp; omega)
          · exact ((B5.out.setCell (by simp) _).setCell (by simp) _).setCell (by simp) _
    · have HALL : Hid (∀ j (hj : j < ps.length), ps[j] = -1 ∨ ps[j] = a) := fun j hj => HF.out j hj (by omega)
      by_cases hm : a = 4294967295
      · subst hm
        have E1 := hidIt (HW.out.1 rfl)
        have E2 : Hid (advA 4294967295 ps = 4294967295) := (by rw [advA, E1.out]; rfl : advA 4294967295 ps = 4294967295)
        go_wp2
        rw [E1.out, E2.out]
        refine bodyPost_ret (v := .tuple #[.agg #[.int .i64 4294967295, .slice x4 ps.length k4, .slice y4 L.length j4], .bool false]) (by simp [results, Try.results24, go_sem, d0, d1, d2]) rfl ⟨_, _, rfl, ?_, ?_⟩
        · exact (((A5.out.set_out (.inl (by omega))).set_out (.inl (by omega))).set_out (.inl (by omega))).wide (by omega) (by simp; omega)
        · exact ((B5.out.setCell (by simp) _).setCell (by simp) _).setCell (by simp) _
      · have E1 := hidIt (HW.out.2.2 hm HALL.out)
        have E2 : Hid (advA a ps = a + 1) := (by rw [advA, E1.out]; rfl : advA a ps = a + 1)
        go_wp2
        rw [E1.out, E2.out]
        refine bodyPost_ret (v := .tuple #[.agg #[.int .i64 (a + 1), .slice x4 ps.length k4, .slice y4 L.length j4], .bool true]) (by simp [results, Try.results24, go_sem, d0, d1, d2]) rfl ⟨_, _, rfl, ?_, ?_⟩
        · exact ((((A5.out.set_out (b := w4.heap.size) (.inr (Nat.le_refl _))).set_out (.inl (by omega))).set_out (.inl (by omega))).set_out (.inl (by omega))).wide (by omega) (by simp; omega)
        · exact (((B5.out.setCell (p := ⟨w4.heap.size, 0, none⟩) (by show w.heap.size ≤ w4.heap.size; omega) _).setCell (by simp) _).setCell (by simp) _).setCell (by simp) _

theorem spec_advance (w : World) (a : Int) (p l : Value) (ps : List Int) (L : List (Int × Int)) (hA : AIn w p l ps L) :
    Calls Try.prog 24 #[.agg #[.int .i64 a, p, l]] w (AAns (setA (okB a ps L) (advA a ps)) (retP (okB a ps L) ps) (setLm (okB a ps L) L) (advOk a ps L) w) := by
  unfold advOk
  cases hB : okB a ps L with
  | false => exact (spec_advance_no w a p l ps L hA hB).mono fun _ _ k => AAns.none k
  | true => exact spec_advance_yes w a p l ps L hA hB

theorem impl_advance (w : World) (a : Int) (p l : Value) (ps : List Int) (L : List (Int × Int)) (hA : AIn w p l ps L) :
    Calls Try.prog 25 #[.agg #[.int .i64 a, p, l]] w (AAns (setA (okB a ps L) (advA a ps)) (retP (okB a ps L) ps) (setLm (okB a ps L) L) (advOk a ps L) w) := by
  unfold advOk
  cases hB : okB a ps L with
  | false => exact (impl_advance_no w a p l ps L hA hB).mono fun _ _ k => AAns.none k
  | true => exact impl_advance_yes w a p l ps L hA hB

end Go.Proofs.Ytomehhheiodagaa
