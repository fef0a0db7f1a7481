/- What comes out of limbo: plain lemmas, and the program's. -/
import Derived.Test.YtomehhheiodagabRows
import Derived.WalkKit
import Derived.ProofKit
import Derived.OpenShut
import Derived.ShutString
import Derived.Test.YtomehhheiodagabSafeFns
import Derived.Test.YtomehhheiodagabImplCopy
import Derived.Test.YtomehhheiodagabCellRow
import Derived.Test.YtomehhheiodagabRetireFns
namespace Go.Proofs.Ytomehhheiodagab
open Go.ChangeShapes Go.WideShapes Go.ChangeAt Go.RowKit
set_option linter.unusedVariables false

def oldB (a : Int) (p : Int × Int) : Bool := decide (p.2 ≤ a - 2)
def colF (a : Int) (L : List (Int × Int)) : List Int := (L.filter (oldB a)).map (·.1)
def colL (a : Int) (L : List (Int × Int)) : List (Int × Int) := L.filter (fun p => !oldB a p)
theorem limB_mono {a : Int} {L : List (Int × Int)} (h : limB a L L.length = true) {i j : Nat} (hij : i ≤ j) (hj : j < L.length) : (goneAt L i).2 ≤ (goneAt L j).2 := by
  induction j with
  | zero => obtain rfl : i = 0 := by omega
            exact Int.le_refl _
  | succ j ih =>
    by_cases e : i = j + 1
    · subst e; exact Int.le_refl _
    · have h1 := ih (by omega) (by omega)
      have h2 := limB_all a L _ h (j + 1) hj
      simp only [stepB, Bool.and_eq_true, decide_eq_true_eq, lastAt] at h2
      exact Int.le_trans h1 (of_decide_eq_true h2.1.1)
theorem col_cut {a : Int} {L : List (Int × Int)} (h : limB a L L.length = true) {c : Nat} (hc : c ≤ L.length) (h1 : ∀ j, j < c → (goneAt L j).2 ≤ a - 2) (h2 : c = L.length ∨ a - 2 < (goneAt L c).2) : colF a L = (L.take c).map (·.1) ∧ colL a L = L.drop c := by
  have hT : ∀ p ∈ L.take c, oldB a p = true := by
    intro p hp
    obtain ⟨j, hj, rfl⟩ := List.mem_iff_getElem.1 hp
    simp at hj
    have := h1 j (by omega)
    rw [List.getElem_take, goneAt_eq L j (by omega)]
    simp [oldB, this]
  have hD : ∀ p ∈ L.drop c, oldB a p = false := by
    intro p hp
    obtain ⟨j, hj, rfl⟩ := List.mem_iff_getElem.1 hp
    simp at hj
    have h3 : a - 2 < (goneAt L c).2 := by
      rcases h2 with h2 | h2
      · omega
      · exact h2
    have h4 := limB_mono h (i := c) (j := c + j) (by omega) (by omega)
    rw [List.getElem_drop, goneAt_eq L (c + j) (by omega)]
    have h5 : ¬ (goneAt L (c + j)).2 ≤ a - 2 := by omega
    simp [oldB, h5]
  have e : L = L.take c ++ L.drop c := (List.take_append_drop c L).symm
  constructor
  · unfold colF
    conv => lhs; rw [e]
    rw [List.filter_append, List.filter_eq_self.2 hT, List.filter_eq_nil_iff.2 (fun p hp => by simp [hD p hp]), List.append_nil]
  · unfold colL
    conv => lhs; rw [e]
    rw [List.filter_append, List.filter_eq_nil_iff.2 (fun p hp => by simp [hT p hp]), List.filter_eq_self.2 (fun p hp => by simp [hD p hp]), List.nil_append]
theorem take_nodes (L : List (Int × Int)) (k : Nat) (hk : k < L.length) : (L.take (k + 1)).map (·.1) = (L.take k).map (·.1) ++ [(goneAt L k).1] := by
  rw [List.take_succ_eq_append_getElem hk, List.map_append, goneAt_eq L k hk]; rfl
theorem PIn.drop {w : World} {a : Option Addr} {cap : Nat} {L : List (Int × Int)} (h : PIn w (.slice a L.length cap) L) (k : Nat) (hk : k < L.length) : ∃ b off, a = some ⟨b, off, none⟩ ∧ PIn w (.slice (some ⟨b, off + k * 2, none⟩) (L.length - k) (cap - k)) (L.drop k) := by
  obtain ⟨a', cap', hv, hc, h⟩ := h
  simp at hv
  obtain ⟨rfl, rfl⟩ := hv
  rcases h with rfl | ⟨b, off, ha, h1, h2⟩
  · simp at hk
  · refine ⟨b, off, ha, ⟨some ⟨b, off + k * 2, none⟩, cap - k, by simp, by simp; omega, .inr ⟨b, off + k * 2, rfl, h1, fun j hj => ?_⟩⟩⟩
    simp at hj
    have := h2 (k + j) (by omega)
    rw [List.getElem_drop]
    have e1 : off + (k + j) * 2 = off + k * 2 + j * 2 := by omega
    rw [e1] at this
    exact this
def CAns (A : Int) (PS : List Int) (LS : List (Int × Int)) (FS : List Int) (w : World) (e : Ending) (w' : World) : Prop :=
  ∃ p' l' f' m, e = .returned (.tuple #[.agg #[.int .i64 A, p', l'], f']) ∧ AR m w'.heap.size p' l' PS LS w' ∧ Row w' w.heap.size m f' (ints FS) ∧ w.heap.size ≤ m ∧ m ≤ w'.heap.size ∧ Below w.heap.size w w'
theorem CAns.nope {w w' : World} {e : Ending} (h : e = .returned (.tuple #[.agg #[.int .i64 0, .slice none 0 0, .slice none 0 0], .slice none 0 0]) ∧ Below w.heap.size w w') : CAns 0 [] [] [] w e w' := ⟨_, _, _, w.heap.size, h.1, AR.nil _ _ _, ⟨Option.none, 0, rfl, .inl rfl⟩, Nat.le_refl _, h.2.size, h.2⟩
structure FI (w3 wr : World) (v : Value) (k : Nat) (L : List (Int × Int)) : Prop where
  below : Below w3.heap.size w3 wr
  own : wr.ownsRow w3.heap.size 3 1 v k (ints ((L.take k).map (·.1)))
theorem FI.form {w3 wr : World} {v : Value} {k : Nat} {L : List (Int × Int)} (h : FI w3 wr v k L) (hk : k ≤ L.length) : ∃ a c, v = .slice a k c := by
  obtain ⟨a, c, e⟩ := (Row.of_owns h.own).form
  exact ⟨a, c, by rw [e]; simp; omega⟩
theorem FI.row {w3 wr : World} {v : Value} {k : Nat} {L : List (Int × Int)} (h : FI w3 wr v k L) : Row wr w3.heap.size wr.heap.size v (ints ((L.take k).map (·.1))) := Row.of_owns h.own

set_option maxHeartbeats 800000 in
set_option maxRecDepth 100000 in
theorem impl_collect_no (w : World) (a : Int) (p l : Value) (ps : List Int) (L : List (Int × Int)) (hA : AIn w p l ps L) (hB : okB a ps L = false) :
    Calls Try.prog 8 #[.agg #[.int .i64 a, p, l]] w fun e w' => e = .returned (.tuple #[.agg #[.int .i64 0, .slice none 0 0, .slice none 0 0], .slice none 0 0]) ∧ Below w.heap.size w w' := by
  have H := hidIt hA
  obtain ⟨pa, pc, la, lc, rfl, rfl, -⟩ := hA.form
  clear hA
  go_enter Try.func8, Try.ntmps8
  go_wp2_with fail
  generalize hW : World.alloc (World.alloc w _) _ = W2
  have bW : Hid (Below w.heap.size w W2) := (by rw [← hW]; exact ((Below.refl w.heap.size w).alloc (Nat.le_refl _) _).alloc (by simp) _ : Below w.heap.size w W2)
  have zW : W2.heap.size = w.heap.size + 2 := by rw [← hW]; simp
  have c0 : W2.cell? ⟨w.heap.size, 0, none⟩ = some (.int .i64 a) := by rw [← hW]; simp [go_sem]
  have c1 : W2.cell? ⟨w.heap.size, 1, none⟩ = some (.slice pa ps.length pc) := by rw [← hW]; simp [go_sem]
  have c2 : W2.cell? ⟨w.heap.size, 2, none⟩ = some (.slice la L.length lc) := by rw [← hW]; simp [go_sem]
  have d0 : W2.cell? ⟨w.heap.size + 1, 0, none⟩ = some (.int .i64 0) := by rw [← hW]; simp [go_sem]
  have d1 : W2.cell? ⟨w.heap.size + 1, 1, none⟩ = some (.slice none 0 0) := by rw [← hW]; simp [go_sem]
  have d2 : W2.cell? ⟨w.heap.size + 1, 2, none⟩ = some (.slice none 0 0) := by rw [← hW]; simp [go_sem]
  have f0 : ∀ o, W2.frozen? ⟨w.heap.size + 1, o, none⟩ = false := by rw [← hW]; simp [go_sem]
  clear hW
  refine (impl_agesok W2 a _ _ ps L (H.out.below bW.out)).mono ?_
  rintro e w3 ⟨rfl, b3⟩
  have z3 := b3.size
  have B3 := hidIt (bW.out.trans (b3.mono (by omega)))
  replace c0 := below_cell b3 (by omega) c0
  replace c1 := below_cell b3 (by omega) c1
  replace c2 := below_cell b3 (by omega) c2
  replace d0 := below_cell b3 (by omega) d0
  replace d1 := below_cell b3 (by omega) d1
  replace d2 := below_cell b3 (by omega) d2
  replace f0 : ∀ o, w3.frozen? ⟨w.heap.size + 1, o, none⟩ = false := fun o => below_frozen b3 (by omega) (f0 o)
  clear b3
  rw [hB]
  go_wp2
  exact bodyPost_ret (v := .tuple #[.agg #[.int .i64 0, .slice none 0 0, .slice none 0 0], .slice none 0 0]) (by simp [results, Try.results8, go_sem, d0, d1, d2]) rfl ⟨rfl, by exact ((B3.out.setCell (by simp) _).setCell (by simp) _).setCell (by simp) _⟩

set_option maxHeartbeats 800000 in
set_option maxRecDepth 100000 in
theorem impl_collect_yes (w : World) (a : Int) (p l : Value) (ps : List Int) (L : List (Int × Int)) (hA : AIn w p l ps L) (hB : okB a ps L = true) :
    Calls Try.prog 8 #[.agg #[.int .i64 a, p, l]] w (CAns a ps (colL a L) (colF a L) w) := by
  obtain ⟨a0, a1, n1, n8, m1, -, hlim⟩ := okB_len hB
  obtain ⟨i1, hi1, hy0, hy1, hy2⟩ := info_parts info3
  have HCUT := hidIt (fun (c : Nat) => col_cut hlim (c := c))
  clear hlim
  generalize colL a L = CL at HCUT
  generalize colF a L = CF at HCUT
  have H := hidIt hA
  obtain ⟨pa, pc, la, lc, rfl, rfl, hcap⟩ := hA.form
  clear hA
  go_enter Try.func8, Try.ntmps8
  go_wp2_with fail
  generalize hW : World.alloc (World.alloc w _) _ = W2
  have bW : Hid (Below w.heap.size w W2) := (by rw [← hW]; exact ((Below.refl w.heap.size w).alloc (Nat.le_refl _) _).alloc (by simp) _ : Below w.heap.size w W2)
  have zW : W2.heap.size = w.heap.size + 2 := by rw [← hW]; simp
  have c0 : W2.cell? ⟨w.heap.size, 0, none⟩ = some (.int .i64 a) := by rw [← hW]; simp [go_sem]
  have c1 : W2.cell? ⟨w.heap.size, 1, none⟩ = some (.slice pa ps.length pc) := by rw [← hW]; simp [go_sem]
  have c2 : W2.cell? ⟨w.heap.size, 2, none⟩ = some (.slice la L.length lc) := by rw [← hW]; simp [go_sem]
  have d0 : W2.cell? ⟨w.heap.size + 1, 0, none⟩ = some (.int .i64 0) := by rw [← hW]; simp [go_sem]
  have d1 : W2.cell? ⟨w.heap.size + 1, 1, none⟩ = some (.slice none 0 0) := by rw [← hW]; simp [go_sem]
  have d2 : W2.cell? ⟨w.heap.size + 1, 2, none⟩ = some (.slice none 0 0) := by rw [← hW]; simp [go_sem]
  have f0 : ∀ o, W2.frozen? ⟨w.heap.size + 1, o, none⟩ = false := by rw [← hW]; simp [go_sem]
  have hf : ∀ o, W2.frozen? ⟨w.heap.size, o, none⟩ = false := by rw [← hW]; simp [go_sem]
  clear hW
  refine (impl_agesok W2 a _ _ ps L (H.out.below bW.out)).mono ?_
  rintro e w3 ⟨rfl, b3⟩
  have z3 := b3.size
  have B3 := hidIt (bW.out.trans (b3.mono (by omega)))
  replace c0 := below_cell b3 (by omega) c0
  replace c1 := below_cell b3 (by omega) c1
  replace c2 := below_cell b3 (by omega) c2
  replace d0 := below_cell b3 (by omega) d0
  replace d1 := below_cell b3 (by omega) d1
  replace d2 := below_cell b3 (by omega) d2
  replace f0 : ∀ o, w3.frozen? ⟨w.heap.size + 1, o, none⟩ = false := fun o => below_frozen b3 (by omega) (f0 o)
  replace hf : ∀ o, w3.frozen? ⟨w.heap.size, o, none⟩ = false := fun o => below_frozen b3 (by omega) (hf o)
  clear b3
  rw [hB]
  go_wp2_with fail
  go_loopw [14, 4] (fun i s4 wr => ∃ k : Nat, k ≤ L.length ∧ i = .int .i64 k ∧ FI w3 wr s4 k L ∧ Hid (∀ j, j < k → (goneAt L j).2 ≤ a - 2)) (fun i _ _ => L.length - (intOf i).toNat)
  case atStart => exact ⟨0, Nat.zero_le _, rfl, ⟨Below.refl _ _, World.ownsRow_nil _ _ _ _⟩, fun j hj => by omega⟩
  case round =>
    rename World => wr
    obtain ⟨k, hk, rfl, I, HF⟩ := hrel
    have II := hidIt I
    obtain ⟨va, vc, rfl⟩ := I.form hk
    have hz := I.below.size
    have BR := hidIt (B3.out.trans (I.below.mono (by omega)))
    by_cases hlt : k < L.length
    · obtain ⟨b2, off2, rfl, PD⟩ := H.out.limbo.drop k hlt
      have HPD := hidIt PD
      obtain ⟨la', lc', hlv, -, hl⟩ := H.out.limbo.below BR.out
      simp at hlv
      obtain ⟨rfl, rfl⟩ := hlv
      rcases hl with hl | ⟨b2', off2', hbe, hb2, hl⟩
      · rw [hl] at hlt; simp at hlt
      simp at hbe
      obtain ⟨rfl, rfl⟩ := hbe
      have g1 := (PIn.at hl k hlt).1
      have g2 := (PIn.at hl k hlt).2
      have hlt' : (k : Int) < (L.length : Int) := by omega
      have k0 := below_cell I.below (by omega) c0
      have hlw : w.heap.size < wr.heap.size := by omega
      have HT := hidIt (take_nodes L k hlt)
      have HC := hidIt (HCUT.out k hk HF.out)
      have HG : Hid ((goneAt L k).2 ≤ a - 2 → ∀ j, j < k + 1 → (goneAt L j).2 ≤ a - 2) := fun h j hj => by
        by_cases e : j = k
        · subst e; exact h
        · exact HF.out j (by omega)
      generalize (goneAt L k).1 = q at g1 HT
      generalize (goneAt L k).2 = y at g2 HC HG
      clear hl I PD
      by_cases hy : a - 2 < y
      · have HCC := hidIt (HC.out (.inr hy))
        have hkc : (k : Int) ≤ (lc : Int) := by omega
        have hkl : (k : Int) ≤ (L.length : Int) := by omega
        have hkn : ¬ lc = k := by omega
        have hkp : k < lc := by omega
        have hlw1 : w.heap.size + 1 < wr.heap.size := by omega
        have k1 := below_cell II.out.below (by omega) c1
        have k2 := below_cell II.out.below (by omega) c2
        have kf : ∀ o, wr.frozen? ⟨w.heap.size, o, none⟩ = false := fun o => below_frozen II.out.below (by omega) (hf o)
        have kd0 := below_cell II.out.below (by omega) d0
        have kd1 := below_cell II.out.below (by omega) d1
        have kd2 := below_cell II.out.below (by omega) d2
        have kdf : ∀ o, wr.frozen? ⟨w.heap.size + 1, o, none⟩ = false := fun o => below_frozen II.out.below (by omega) (f0 o)
        clear HC HG HT
        go_wp2_with fail
        generalize hX : World.alloc (World.setCell wr _ _) _ = X
        have zX : X.heap.size = wr.heap.size + 1 := by rw [← hX]; simp
        have BX : Hid (Below w.heap.size w X) := (by rw [← hX]; exact (BR.out.setCell (Nat.le_refl _) _).alloc (by simp; omega) _ : Below w.heap.size w X)
        have RX : Hid (Row X w3.heap.size wr.heap.size (.slice va k vc) (ints ((L.take k).map (·.1)))) := (by rw [← hX]; exact ((II.out.row.set_below _ _ (by show w.heap.size < w3.heap.size; omega)).alloc (by simp) _) : Row X _ _ _ _)
        have x0 : X.cell? ⟨w.heap.size + 1, 0, none⟩ = some (.int .i64 0) := by rw [← hX]; simp [go_sem, kd0, hlw1]
        have x1 : X.cell? ⟨w.heap.size + 1, 1, none⟩ = some (.slice none 0 0) := by rw [← hX]; simp [go_sem, kd1, hlw1]
        have x2 : X.cell? ⟨w.heap.size + 1, 2, none⟩ = some (.slice none 0 0) := by rw [← hX]; simp [go_sem, kd2, hlw1]
        have xf : ∀ o, X.frozen? ⟨w.heap.size + 1, o, none⟩ = false := by rw [← hX]; simp [go_sem, kdf, hlw1]
        clear hX
        refine (impl_copyages X a _ _ ps (L.drop k) (by omega) (by simp; try omega) ⟨H.out.pins.below BX.out, HPD.out.below BX.out⟩).mono ?_
        rintro e w5 ⟨p5, l5, rfl, ao, b5⟩
        have z5 := b5.size
        have A5 := hidIt ao.ar
        obtain ⟨x5, k5, y5, j5, rfl, rfl, -⟩ := ao.ar.form
        replace x0 := below_cell b5 (by omega) x0
        replace x1 := below_cell b5 (by omega) x1
        replace x2 := below_cell b5 (by omega) x2
        replace xf : ∀ o, w5.frozen? ⟨w.heap.size + 1, o, none⟩ = false := fun o => below_frozen b5 (by omega) (xf o)
        have B5 := hidIt (BX.out.trans (b5.mono (by omega)))
        have R5 := hidIt (RX.out.below (b5.mono (by omega)))
        clear ao b5
        go_wp2
        obtain ⟨eF, eL⟩ := HCC.out
        subst eF eL
        refine bodyPost_ret (v := .tuple #[.agg #[.int .i64 a, .slice x5 ps.length k5, .slice y5 (L.drop k).length j5], .slice va k vc]) (by simp [results, Try.results8, go_sem, x0, x1, x2]) rfl ⟨_, _, _, X.heap.size, rfl, ?_, ?_, by omega, by simp; omega, ?_⟩
        · exact (((A5.out.set_out (.inl (by omega))).set_out (.inl (by omega))).set_out (.inl (by omega))).wide (Nat.le_refl _) (by simp)
        · exact (((R5.out.set_below _ _ (by show w.heap.size + 1 < w3.heap.size; omega)).set_below _ _ (by show w.heap.size + 1 < w3.heap.size; omega)).set_below _ _ (by show w.heap.size + 1 < w3.heap.size; omega)).wide (by omega) (by omega)
        · exact ((B5.out.setCell (by simp) _).setCell (by simp) _).setCell (by simp) _
      · have HGG := hidIt (HG.out (by omega))
        have HN := hidIt II.out.own.lt
        have hv : (L.take k).length = k := by simp; omega
        clear HC HG
        go_wp2_with (at_builtin; refine wpList_append_lies _ rfl _ _ 22 rfl w3.heap.size 3 i1 (.int .i64 0) 1 8 Try.underlying22 hi1 hy0 hy1 hy2 rfl (by omega) (.slice va k vc) k (ints ((L.take k).map (·.1))) rfl ((II.out.own.alloc _).alloc _) _ 1 1 [.int .i64 q] rfl rfl (World.news_of_block (at_new (by simp))) (by intro u hu; simp at hu; subst hu; rfl) (by omega) (by unfold maxLen; omega) (by omega) (by simp; omega) _ rfl ?_; intro g cap w6 hown hgrow hat hlt6; have HO := hidIt (And.intro hown (And.intro hgrow hat)); clear hown hgrow hat)
        go_roundw
        case rel =>
          refine ⟨k + 1, by omega, by go_num, ⟨?_, ?_⟩, HGG.out⟩
          · exact ((II.out.below.alloc (by omega) _).alloc (by simp; omega) _).grown HO.out.2.1 (by simp; omega) (fun k hk => (HN.out k hk).1)
          · have ho := HO.out.1
            rw [HT.out]
            simpa using ho
        case measure => simp [intOf]; omega
    · obtain rfl : k = L.length := by omega
      have HCC : Hid (CF = (L.take L.length).map (·.1) ∧ CL = []) := (by have := HCUT.out _ hk HF.out (.inl rfl); rw [List.drop_length] at this; exact this : CF = (L.take L.length).map (·.1) ∧ CL = [])
      have k0 := below_cell II.out.below (by omega) c0
      have k1 := below_cell II.out.below (by omega) c1
      have k2 := below_cell II.out.below (by omega) c2
      have kf : ∀ o, wr.frozen? ⟨w.heap.size, o, none⟩ = false := fun o => below_frozen II.out.below (by omega) (hf o)
      have kd0 := below_cell II.out.below (by omega) d0
      have kd1 := below_cell II.out.below (by omega) d1
      have kd2 := below_cell II.out.below (by omega) d2
      have kdf : ∀ o, wr.frozen? ⟨w.heap.size + 1, o, none⟩ = false := fun o => below_frozen II.out.below (by omega) (f0 o)
      have hkc : (L.length : Int) ≤ (lc : Int) := by omega
      have hz0 : L.length - L.length = 0 := by omega
      go_wp2_with fail
      all_goals
        generalize hX : World.setCell wr _ _ = X
        have zX : X.heap.size = wr.heap.size := by rw [← hX]; simp
        have BX : Hid (Below w.heap.size w X) := (by rw [← hX]; exact BR.out.setCell (Nat.le_refl _) _ : Below w.heap.size w X)
        have RX : Hid (Row X w3.heap.size wr.heap.size (.slice va L.length vc) (ints ((L.take L.length).map (·.1)))) := (by rw [← hX]; exact II.out.row.set_below _ _ (by show w.heap.size < w3.heap.size; omega) : Row X _ _ _ _)
        have x0 : X.cell? ⟨w.heap.size + 1, 0, none⟩ = some (.int .i64 0) := by rw [← hX]; simp [go_sem, kd0]
        have x1 : X.cell? ⟨w.heap.size + 1, 1, none⟩ = some (.slice none 0 0) := by rw [← hX]; simp [go_sem, kd1]
        have x2 : X.cell? ⟨w.heap.size + 1, 2, none⟩ = some (.slice none 0 0) := by rw [← hX]; simp [go_sem, kd2]
        have xf : ∀ o, X.frozen? ⟨w.heap.size + 1, o, none⟩ = false := by rw [← hX]; simp [go_sem, kdf]
        clear hX
        refine (impl_copyages X a _ _ ps [] (by omega) (by simp) ⟨H.out.pins.below BX.out, ⟨_, _, rfl, Nat.zero_le _, .inl rfl⟩⟩).mono ?_
        rintro e w5 ⟨p5, l5, rfl, ao, b5⟩
        have z5 := b5.size
        have A5 := hidIt ao.ar
        obtain ⟨x5, k5, y5, j5, rfl, rfl, -⟩ := ao.ar.form
        replace x0 := below_cell b5 (by omega) x0
        replace x1 := below_cell b5 (by omega) x1
        replace x2 := below_cell b5 (by omega) x2
        replace xf : ∀ o, w5.frozen? ⟨w.heap.size + 1, o, none⟩ = false := fun o => below_frozen b5 (by omega) (xf o)
        have B5 := hidIt (BX.out.trans (b5.mono (by omega)))
        have R5 := hidIt (RX.out.below (b5.mono (by omega)))
        clear ao b5
        go_wp2
        obtain ⟨eF, eL⟩ := HCC.out
        subst eF eL
        refine bodyPost_ret (v := .tuple #[.agg #[.int .i64 a, .slice x5 ps.length k5, .slice y5 ([] : List (Int × Int)).length j5], .slice va L.length vc]) (by simp [results, Try.results8, go_sem, x0, x1, x2]) rfl ⟨_, _, _, X.heap.size, rfl, ?_, ?_, by omega, by simp; omega, ?_⟩
        · exact (((A5.out.set_out (.inl (by omega))).set_out (.inl (by omega))).set_out (.inl (by omega))).wide (Nat.le_refl _) (by simp)
        · exact (((R5.out.set_below _ _ (by show w.heap.size + 1 < w3.heap.size; omega)).set_below _ _ (by show w.heap.size + 1 < w3.heap.size; omega)).set_below _ _ (by show w.heap.size + 1 < w3.heap.size; omega)).wide (by omega) (by omega)
        · exact ((B5.out.setCell (by simp) _).setCell (by simp) _).setCell (by simp) _

theorem impl_collect (w : World) (a : Int) (p l : Value) (ps : List Int) (L : List (Int × Int)) (hA : AIn w p l ps L) :
    Calls Try.prog 8 #[.agg #[.int .i64 a, p, l]] w (CAns (if okB a ps L = true then a else 0) (if okB a ps L = true then ps else []) (if okB a ps L = true then colL a L else []) (if okB a ps L = true then colF a L else []) w) := by
  cases hB : okB a ps L with
  | false => exact (impl_collect_no w a p l ps L hA hB).mono fun _ _ k => CAns.nope k
  | true => exact impl_collect_yes w a p l ps L hA hB

end Go.Proofs.Ytomehhheiodagab
