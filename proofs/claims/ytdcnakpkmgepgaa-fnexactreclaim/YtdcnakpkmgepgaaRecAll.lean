/- Contracts of functions of the program and of its model, and plain lemmas: several texts in one. -/
import Derived.Test.YtdcnakpkmgepgaaRows
import Derived.WalkKit
import Derived.ProofKit
import Derived.OpenShut
import Derived.ShutString
import Derived.Test.YtdcnakpkmgepgaaRBaseA
import Derived.Test.YtdcnakpkmgepgaaRBaseC
import Derived.Test.YtdcnakpkmgepgaaRBaseB
import Derived.Deep.RegionHeld3
import Derived.Deep.RegionLaw

namespace Go.Proofs.Ytdcnakpkmgepgaa
open Go.ChangeShapes Go.WideShapes Go.ChangeAt Go.RowKit
set_option linter.unusedVariables false

theorem limB_all (a : Int) (L : List (Int × Int)) (m : Nat) (h : limB a L m = true) : ∀ k, k < m → stepB a L k = true := by
  induction m with
  | zero => intro k hk; omega
  | succ m ih =>
    simp only [limB, Bool.and_eq_true] at h
    intro k hk
    by_cases e : k = m
    · subst e; exact h.2
    · exact ih h.1 k (by omega)

end Go.Proofs.Ytdcnakpkmgepgaa

namespace Go.Proofs.Ytdcnakpkmgepgaa
open Go.ChangeShapes Go.WideShapes Go.ChangeAt Go.RowKit
set_option linter.unusedVariables false

def oldB (a : Int) (p : Int × Int) : Bool := decide (p.2 ≤ a - 2)
def colF (a : Int) (L : List (Int × Int)) : List Int := (L.filter (oldB a)).map (·.1)
def colL (a : Int) (L : List (Int × Int)) : List (Int × Int) := L.filter (fun p => !oldB a p)
theorem limB_mono {a : Int} {L : List (Int × Int)} (h : limB a L L.length = true) {i j : Nat} (hij : i ≤ j) (hj : j < L.length) : (goneAt L i).2 ≤ (goneAt L j).2 := by
  induction j with
  | zero => obtain rfl : i = 0 := by omega
            exact Int.le_refl _
  | succ j ih =>
    by_cases e : i = j + 1
    · subst e; exact Int.le_refl _
    · have h1 := ih (by omega) (by omega)
      have h2 := limB_all a L _ h (j + 1) hj
      simp only [stepB, Bool.and_eq_true, decide_eq_true_eq, lastAt] at h2
      exact Int.le_trans h1 (of_decide_eq_true h2.1.1)
theorem col_cut {a : Int} {L : List (Int × Int)} (h : limB a L L.length = true) {c : Nat} (hc : c ≤ L.length) (h1 : ∀ j, j < c → (goneAt L j).2 ≤ a - 2) (h2 : c = L.length ∨ a - 2 < (goneAt L c).2) : colF a L = (L.take c).map (·.1) ∧ colL a L = L.drop c := by
  have hT : ∀ p ∈ L.take c, oldB a p = true := by
    intro p hp
    obtain ⟨j, hj, rfl⟩ := List.mem_iff_getElem.1 hp
    simp at hj
    have := h1 j (by omega)
    rw [List.getElem_take, goneAt_eq L j (by omega)]
    simp [oldB, this]
  have hD : ∀ p ∈ L.drop c, oldB a p = false := by
    intro p hp
    obtain ⟨j, hj, rfl⟩ := List.mem_iff_getElem.1 hp
    simp at hj
    have h3 : a - 2 < (goneAt L c).2 := by
      rcases h2 with h2 | h2
      · omega
      · exact h2
    have h4 := limB_mono h (i := c) (j := c + j) (by omega) (by omega)
    rw [List.getElem_drop, goneAt_eq L (c + j) (by omega)]
    have h5 : ¬ (goneAt L (c + j)).2 ≤ a - 2 := by omega
    simp [oldB, h5]
  have e : L = L.take c ++ L.drop c := (List.take_append_drop c L).symm
  constructor
  · unfold colF
    conv => lhs; rw [e]
    rw [List.filter_append, List.filter_eq_self.2 hT, List.filter_eq_nil_iff.2 (fun p hp => by simp [hD p hp]), List.append_nil]
  · unfold colL
    conv => lhs; rw [e]
    rw [List.filter_append, List.filter_eq_nil_iff.2 (fun p hp => by simp [hT p hp]), List.filter_eq_self.2 (fun p hp => by simp [hD p hp]), List.nil_append]
theorem take_nodes (L : List (Int × Int)) (k : Nat) (hk : k < L.length) : (L.take (k + 1)).map (·.1) = (L.take k).map (·.1) ++ [(goneAt L k).1] := by
  rw [List.take_succ_eq_append_getElem hk, List.map_append, goneAt_eq L k hk]; rfl
theorem PIn.drop {w : World} {a : Option Addr} {cap : Nat} {L : List (Int × Int)} (h : PIn w (.slice a L.length cap) L) (k : Nat) (hk : k < L.length) : ∃ b off, a = some ⟨b, off, none⟩ ∧ PIn w (.slice (some ⟨b, off + k * 2, none⟩) (L.length - k) (cap - k)) (L.drop k) := by
  obtain ⟨a', cap', hv, hc, h⟩ := h
  simp at hv
  obtain ⟨rfl, rfl⟩ := hv
  rcases h with rfl | ⟨b, off, ha, h1, h2⟩
  · simp at hk
  · refine ⟨b, off, ha, ⟨some ⟨b, off + k * 2, none⟩, cap - k, by simp, by simp; omega, .inr ⟨b, off + k * 2, rfl, h1, fun j hj => ?_⟩⟩⟩
    simp at hj
    have := h2 (k + j) (by omega)
    rw [List.getElem_drop]
    have e1 : off + (k + j) * 2 = off + k * 2 + j * 2 := by omega
    rw [e1] at this
    exact this
def CAns (A : Int) (PS : List Int) (LS : List (Int × Int)) (FS : List Int) (w : World) (e : Ending) (w' : World) : Prop :=
  ∃ p' l' f' m, e = .returned (.tuple #[.agg #[.int .i64 A, p', l'], f']) ∧ AR m w'.heap.size p' l' PS LS w' ∧ Row w' w.heap.size m f' (ints FS) ∧ w.heap.size ≤ m ∧ m ≤ w'.heap.size ∧ Below w.heap.size w w'
theorem CAns.nope {w w' : World} {e : Ending} (h : e = .returned (.tuple #[.agg #[.int .i64 0, .slice none 0 0, .slice none 0 0], .slice none 0 0]) ∧ Below w.heap.size w w') : CAns 0 [] [] [] w e w' := ⟨_, _, _, w.heap.size, h.1, AR.nil _ _ _, ⟨Option.none, 0, rfl, .inl rfl⟩, Nat.le_refl _, h.2.size, h.2⟩
structure FI (w3 wr : World) (v : Value) (k : Nat) (L : List (Int × Int)) : Prop where
  below : Below w3.heap.size w3 wr
  own : wr.ownsRow w3.heap.size 3 1 v k (ints ((L.take k).map (·.1)))
theorem FI.form {w3 wr : World} {v : Value} {k : Nat} {L : List (Int × Int)} (h : FI w3 wr v k L) (hk : k ≤ L.length) : ∃ a c, v = .slice a k c := by
  obtain ⟨a, c, e⟩ := (Row.of_owns h.own).form
  exact ⟨a, c, by rw [e]; simp; omega⟩
theorem FI.row {w3 wr : World} {v : Value} {k : Nat} {L : List (Int × Int)} (h : FI w3 wr v k L) : Row wr w3.heap.size wr.heap.size v (ints ((L.take k).map (·.1))) := Row.of_owns h.own

set_option maxHeartbeats 800000 in
set_option maxRecDepth 100000 in
theorem impl_collect_no (w : World) (a : Int) (p l : Value) (ps : List Int) (L : List (Int × Int)) (hA : AIn w p l ps L) (hB : okB a ps L = false) :
    Calls Try.prog 54 #[.agg #[.int .i64 a, p, l]] w fun e w' => e = .returned (.tuple #[.agg #[.int .i64 0, .slice none 0 0, .slice none 0 0], .slice none 0 0]) ∧ Below w.heap.size w w' := by
  have H := hidIt hA
  obtain ⟨pa, pc, la, lc, rfl, rfl, -⟩ := hA.form
  clear hA
  go_enter Try.func54, Try.ntmps54
  go_wp2_with fail
  generalize hW : World.alloc (World.alloc w _) _ = W2
  have bW : Hid (Below w.heap.size w W2) := (by rw [← hW]; exact ((Below.refl w.heap.size w).alloc (Nat.le_refl _) _).alloc (by simp) _ : Below w.heap.size w W2)
  have zW : W2.heap.size = w.heap.size + 2 := by rw [← hW]; simp
  have c0 : W2.cell? ⟨w.heap.size, 0, none⟩ = some (.int .i64 a) := by rw [← hW]; simp [go_sem]
  have c1 : W2.cell? ⟨w.heap.size, 1, none⟩ = some (.slice pa ps.length pc) := by rw [← hW]; simp [go_sem]
  have c2 : W2.cell? ⟨w.heap.size, 2, none⟩ = some (.slice la L.length lc) := by rw [← hW]; simp [go_sem]
  have d0 : W2.cell? ⟨w.heap.size + 1, 0, none⟩ = some (.int .i64 0) := by rw [← hW]; simp [go_sem]
  have d1 : W2.cell? ⟨w.heap.size + 1, 1, none⟩ = some (.slice none 0 0) := by rw [← hW]; simp [go_sem]
  have d2 : W2.cell? ⟨w.heap.size + 1, 2, none⟩ = some (.slice none 0 0) := by rw [← hW]; simp [go_sem]
  have f0 : ∀ o, W2.frozen? ⟨w.heap.size + 1, o, none⟩ = false := by rw [← hW]; simp [go_sem]
  clear hW
  refine (impl_agesok W2 a _ _ ps L (H.out.below bW.out)).mono ?_
  rintro e w3 ⟨rfl, b3⟩
  have z3 := b3.size
  have B3 := hidIt (bW.out.trans (b3.mono (by omega)))
  replace c0 := below_cell b3 (by omega) c0
  replace c1 := below_cell b3 (by omega) c1
  replace c2 := below_cell b3 (by omega) c2
  replace d0 := below_cell b3 (by omega) d0
  replace d1 := below_cell b3 (by omega) d1
  replace d2 := below_cell b3 (by omega) d2
  replace f0 : ∀ o, w3.frozen? ⟨w.heap.size + 1, o, none⟩ = false := fun o => below_frozen b3 (by omega) (f0 o)
  clear b3
  rw [hB]
  go_wp2
  exact bodyPost_ret (v := .tuple #[.agg #[.int .i64 0, .slice none 0 0, .slice none 0 0], .slice none 0 0]) (by simp [results, Try.results54, go_sem, d0, d1, d2]) rfl ⟨rfl, by exact ((B3.out.setCell (by simp) _).setCell (by simp) _).setCell (by simp) _⟩

set_option maxHeartbeats 800000 in
set_option maxRecDepth 100000 in
theorem impl_collect_yes (w : World) (a : Int) (p l : Value) (ps : List Int) (L : List (Int × Int)) (hA : AIn w p l ps L) (hB : okB a ps L = true) :
    Calls Try.prog 54 #[.agg #[.int .i64 a, p, l]] w (CAns a ps (colL a L) (colF a L) w) := by
  obtain ⟨a0, a1, n1, n8, m1, -, hlim⟩ := okB_len hB
  obtain ⟨i1, hi1, hy0, hy1, hy2⟩ := info_parts info3
  have HCUT := hidIt (fun (c : Nat) => col_cut hlim (c := c))
  clear hlim
  generalize colL a L = CL at HCUT
  generalize colF a L = CF at HCUT
  have H := hidIt hA
  obtain ⟨pa, pc, la, lc, rfl, rfl, hcap⟩ := hA.form
  clear hA
  go_enter Try.func54, Try.ntmps54
  go_wp2_with fail
  generalize hW : World.alloc (World.alloc w _) _ = W2
  have bW : Hid (Below w.heap.size w W2) := (by rw [← hW]; exact ((Below.refl w.heap.size w).alloc (Nat.le_refl _) _).alloc (by simp) _ : Below w.heap.size w W2)
  have zW : W2.heap.size = w.heap.size + 2 := by rw [← hW]; simp
  have c0 : W2.cell? ⟨w.heap.size, 0, none⟩ = some (.int .i64 a) := by rw [← hW]; simp [go_sem]
  have c1 : W2.cell? ⟨w.heap.size, 1, none⟩ = some (.slice pa ps.length pc) := by rw [← hW]; simp [go_sem]
  have c2 : W2.cell? ⟨w.heap.size, 2, none⟩ = some (.slice la L.length lc) := by rw [← hW]; simp [go_sem]
  have d0 : W2.cell? ⟨w.heap.size + 1, 0, none⟩ = some (.int .i64 0) := by rw [← hW]; simp [go_sem]
  have d1 : W2.cell? ⟨w.heap.size + 1, 1, none⟩ = some (.slice none 0 0) := by rw [← hW]; simp [go_sem]
  have d2 : W2.cell? ⟨w.heap.size + 1, 2, none⟩ = some (.slice none 0 0) := by rw [← hW]; simp [go_sem]
  have f0 : ∀ o, W2.frozen? ⟨w.heap.size + 1, o, none⟩ = false := by rw [← hW]; simp [go_sem]
  have hf : ∀ o, W2.frozen? ⟨w.heap.size, o, none⟩ = false := by rw [← hW]; simp [go_sem]
  clear hW
  refine (impl_agesok W2 a _ _ ps L (H.out.below bW.out)).mono ?_
  rintro e w3 ⟨rfl, b3⟩
  have z3 := b3.size
  have B3 := hidIt (bW.out.trans (b3.mono (by omega)))
  replace c0 := below_cell b3 (by omega) c0
  replace c1 := below_cell b3 (by omega) c1
  replace c2 := below_cell b3 (by omega) c2
  replace d0 := below_cell b3 (by omega) d0
  replace d1 := below_cell b3 (by omega) d1
  replace d2 := below_cell b3 (by omega) d2
  replace f0 : ∀ o, w3.frozen? ⟨w.heap.size + 1, o, none⟩ = false := fun o => below_frozen b3 (by omega) (f0 o)
  replace hf : ∀ o, w3.frozen? ⟨w.heap.size, o, none⟩ = false := fun o => below_frozen b3 (by omega) (hf o)
  clear b3
  rw [hB]
  go_wp2_with fail
  go_loopw [14, 4] (fun i s4 wr => ∃ k : Nat, k ≤ L.length ∧ i = .int .i64 k ∧ FI w3 wr s4 k L ∧ Hid (∀ j, j < k → (goneAt L j).2 ≤ a - 2)) (fun i _ _ => L.length - (intOf i).toNat)
  case atStart => exact ⟨0, Nat.zero_le _, rfl, ⟨Below.refl _ _, World.ownsRow_nil _ _ _ _⟩, fun j hj => by omega⟩
  case round =>
    rename World => wr
    obtain ⟨k, hk, rfl, I, HF⟩ := hrel
    have II := hidIt I
    obtain ⟨va, vc, rfl⟩ := I.form hk
    have hz := I.below.size
    have BR := hidIt (B3.out.trans (I.below.mono (by omega)))
    by_cases hlt : k < L.length
    · obtain ⟨b2, off2, rfl, PD⟩ := H.out.limbo.drop k hlt
      have HPD := hidIt PD
      obtain ⟨la', lc', hlv, -, hl⟩ := H.out.limbo.below BR.out
      simp at hlv
      obtain ⟨rfl, rfl⟩ := hlv
      rcases hl with hl | ⟨b2', off2', hbe, hb2, hl⟩
      · rw [hl] at hlt; simp at hlt
      simp at hbe
      obtain ⟨rfl, rfl⟩ := hbe
      have g1 := (PIn.at hl k hlt).1
      have g2 := (PIn.at hl k hlt).2
      have hlt' : (k : Int) < (L.length : Int) := by omega
      have k0 := below_cell I.below (by omega) c0
      have hlw : w.heap.size < wr.heap.size := by omega
      have HT := hidIt (take_nodes L k hlt)
      have HC := hidIt (HCUT.out k hk HF.out)
      have HG : Hid ((goneAt L k).2 ≤ a - 2 → ∀ j, j < k + 1 → (goneAt L j).2 ≤ a - 2) := fun h j hj => by
        by_cases e : j = k
        · subst e; exact h
        · exact HF.out j (by omega)
      generalize (goneAt L k).1 = q at g1 HT
      generalize (goneAt L k).2 = y at g2 HC HG
      clear hl I PD
      by_cases hy : a - 2 < y
      · have HCC := hidIt (HC.out (.inr hy))
        have hkc : (k : Int) ≤ (lc : Int) := by omega
        have hkl : (k : Int) ≤ (L.length : Int) := by omega
        have hkn : ¬ lc = k := by omega
        have hkp : k < lc := by omega
        have hlw1 : w.heap.size + 1 < wr.heap.size := by omega
        have k1 := below_cell II.out.below (by omega) c1
        have k2 := below_cell II.out.below (by omega) c2
        have kf : ∀ o, wr.frozen? ⟨w.heap.size, o, none⟩ = false := fun o => below_frozen II.out.below (by omega) (hf o)
        have kd0 := below_cell II.out.below (by omega) d0
        have kd1 := below_cell II.out.below (by omega) d1
        have kd2 := below_cell II.out.below (by omega) d2
        have kdf : ∀ o, wr.frozen? ⟨w.heap.size + 1, o, none⟩ = false := fun o => below_frozen II.out.below (by omega) (f0 o)
        clear HC HG HT
        go_wp2_with fail
        generalize hX : World.alloc (World.setCell wr _ _) _ = X
        have zX : X.heap.size = wr.heap.size + 1 := by rw [← hX]; simp
        have BX : Hid (Below w.heap.size w X) := (by rw [← hX]; exact (BR.out.setCell (Nat.le_refl _) _).alloc (by simp; omega) _ : Below w.heap.size w X)
        have RX : Hid (Row X w3.heap.size wr.heap.size (.slice va k vc) (ints ((L.take k).map (·.1)))) := (by rw [← hX]; exact ((II.out.row.set_below _ _ (by show w.heap.size < w3.heap.size; omega)).alloc (by simp) _) : Row X _ _ _ _)
        have x0 : X.cell? ⟨w.heap.size + 1, 0, none⟩ = some (.int .i64 0) := by rw [← hX]; simp [go_sem, kd0, hlw1]
        have x1 : X.cell? ⟨w.heap.size + 1, 1, none⟩ = some (.slice none 0 0) := by rw [← hX]; simp [go_sem, kd1, hlw1]
        have x2 : X.cell? ⟨w.heap.size + 1, 2, none⟩ = some (.slice none 0 0) := by rw [← hX]; simp [go_sem, kd2, hlw1]
        have xf : ∀ o, X.frozen? ⟨w.heap.size + 1, o, none⟩ = false := by rw [← hX]; simp [go_sem, kdf, hlw1]
        clear hX
        refine (impl_copyages X a _ _ ps (L.drop k) (by omega) (by simp; try omega) ⟨H.out.pins.below BX.out, HPD.out.below BX.out⟩).mono ?_
        rintro e w5 ⟨p5, l5, rfl, ao, b5⟩
        have z5 := b5.size
        have A5 := hidIt ao.ar
        obtain ⟨x5, k5, y5, j5, rfl, rfl, -⟩ := ao.ar.form
        replace x0 := below_cell b5 (by omega) x0
        replace x1 := below_cell b5 (by omega) x1
        replace x2 := below_cell b5 (by omega) x2
        replace xf : ∀ o, w5.frozen? ⟨w.heap.size + 1, o, none⟩ = false := fun o => below_frozen b5 (by omega) (xf o)
        have B5 := hidIt (BX.out.trans (b5.mono (by omega)))
        have R5 := hidIt (RX.out.below (b5.mono (by omega)))
        clear ao b5
        go_wp2
        obtain ⟨eF, eL⟩ := HCC.out
        subst eF eL
        refine bodyPost_ret (v := .tuple #[.agg #[.int .i64 a, .slice x5 ps.length k5, .slice y5 (L.drop k).length j5], .slice va k vc]) (by simp [results, Try.results54, go_sem, x0, x1, x2]) rfl ⟨_, _, _, X.heap.size, rfl, ?_, ?_, by omega, by simp; omega, ?_⟩
        · exact (((A5.out.set_out (.inl (by omega))).set_out (.inl (by omega))).set_out (.inl (by omega))).wide (Nat.le_refl _) (by simp)
        · exact (((R5.out.set_below _ _ (by show w.heap.size + 1 < w3.heap.size; omega)).set_below _ _ (by show w.heap.size + 1 < w3.heap.size; omega)).set_below _ _ (by show w.heap.size + 1 < w3.heap.size; omega)).wide (by omega) (by omega)
        · exact ((B5.out.setCell (by simp) _).setCell (by simp) _).setCell (by simp) _
      · have HGG := hidIt (HG.out (by omega))
        have HN := hidIt II.out.own.lt
        have hv : (L.take k).length = k := by simp; omega
        clear HC HG
        go_wp2_with (at_builtin; refine wpList_append_lies _ rfl _ _ 22 rfl w3.heap.size 3 i1 (.int .i64 0) 1 8 Try.underlying22 hi1 hy0 hy1 hy2 rfl (by omega) (.slice va k vc) k (ints ((L.take k).map (·.1))) rfl ((II.out.own.alloc _).alloc _) _ 1 1 [.int .i64 q] rfl rfl (World.news_of_block (at_new (by simp))) (by intro u hu; simp at hu; subst hu; rfl) (by omega) (by unfold maxLen; omega) (by omega) (by simp; omega) _ rfl ?_; intro g cap w6 hown hgrow hat hlt6; have HO := hidIt (And.intro hown (And.intro hgrow hat)); clear hown hgrow hat)
        go_roundw
        case rel =>
          refine ⟨k + 1, by omega, by go_num, ⟨?_, ?_⟩, HGG.out⟩
          · exact ((II.out.below.alloc (by omega) _).alloc (by simp; omega) _).grown HO.out.2.1 (by simp; omega) (fun k hk => (HN.out k hk).1)
          · have ho := HO.out.1
            rw [HT.out]
            simpa using ho
        case measure => simp [intOf]; omega
    · obtain rfl : k = L.length := by omega
      have HCC : Hid (CF = (L.take L.length).map (·.1) ∧ CL = []) := (by have := HCUT.out _ hk HF.out (.inl rfl); rw [List.drop_length] at this; exact this : CF = (L.take L.length).map (·.1) ∧ CL = [])
      have k0 := below_cell II.out.below (by omega) c0
      have k1 := below_cell II.out.below (by omega) c1
      have k2 := below_cell II.out.below (by omega) c2
      have kf : ∀ o, wr.frozen? ⟨w.heap.size, o, none⟩ = false := fun o => below_frozen II.out.below (by omega) (hf o)
      have kd0 := below_cell II.out.below (by omega) d0
      have kd1 := below_cell II.out.below (by omega) d1
      have kd2 := below_cell II.out.below (by omega) d2
      have kdf : ∀ o, wr.frozen? ⟨w.heap.size + 1, o, none⟩ = false := fun o => below_frozen II.out.below (by omega) (f0 o)
      have hkc : (L.length : Int) ≤ (lc : Int) := by omega
      have hz0 : L.length - L.length = 0 := by omega
      go_wp2_with fail
      all_goals
        generalize hX : World.setCell wr _ _ = X
        have zX : X.heap.size = wr.heap.size := by rw [← hX]; simp
        have BX : Hid (Below w.heap.size w X) := (by rw [← hX]; exact BR.out.setCell (Nat.le_refl _) _ : Below w.heap.size w X)
        have RX : Hid (Row X w3.heap.size wr.heap.size (.slice va L.length vc) (ints ((L.take L.length).map (·.1)))) := (by rw [← hX]; exact II.out.row.set_below _ _ (by show w.heap.size < w3.heap.size; omega) : Row X _ _ _ _)
        have x0 : X.cell? ⟨w.heap.size + 1, 0, none⟩ = some (.int .i64 0) := by rw [← hX]; simp [go_sem, kd0]
        have x1 : X.cell? ⟨w.heap.size + 1, 1, none⟩ = some (.slice none 0 0) := by rw [← hX]; simp [go_sem, kd1]
        have x2 : X.cell? ⟨w.heap.size + 1, 2, none⟩ = some (.slice none 0 0) := by rw [← hX]; simp [go_sem, kd2]
        have xf : ∀ o, X.frozen? ⟨w.heap.size + 1, o, none⟩ = false := by rw [← hX]; simp [go_sem, kdf]
        clear hX
        refine (impl_copyages X a _ _ ps [] (by omega) (by simp) ⟨H.out.pins.below BX.out, ⟨_, _, rfl, Nat.zero_le _, .inl rfl⟩⟩).mono ?_
        rintro e w5 ⟨p5, l5, rfl, ao, b5⟩
        have z5 := b5.size
        have A5 := hidIt ao.ar
        obtain ⟨x5, k5, y5, j5, rfl, rfl, -⟩ := ao.ar.form
        replace x0 := below_cell b5 (by omega) x0
        replace x1 := below_cell b5 (by omega) x1
        replace x2 := below_cell b5 (by omega) x2
        replace xf : ∀ o, w5.frozen? ⟨w.heap.size + 1, o, none⟩ = false := fun o => below_frozen b5 (by omega) (xf o)
        have B5 := hidIt (BX.out.trans (b5.mono (by omega)))
        have R5 := hidIt (RX.out.below (b5.mono (by omega)))
        clear ao b5
        go_wp2
        obtain ⟨eF, eL⟩ := HCC.out
        subst eF eL
        refine bodyPost_ret (v := .tuple #[.agg #[.int .i64 a, .slice x5 ps.length k5, .slice y5 ([] : List (Int × Int)).length j5], .slice va L.length vc]) (by simp [results, Try.results54, go_sem, x0, x1, x2]) rfl ⟨_, _, _, X.heap.size, rfl, ?_, ?_, by omega, by simp; omega, ?_⟩
        · exact (((A5.out.set_out (.inl (by omega))).set_out (.inl (by omega))).set_out (.inl (by omega))).wide (Nat.le_refl _) (by simp)
        · exact (((R5.out.set_below _ _ (by show w.heap.size + 1 < w3.heap.size; omega)).set_below _ _ (by show w.heap.size + 1 < w3.heap.size; omega)).set_below _ _ (by show w.heap.size + 1 < w3.heap.size; omega)).wide (by omega) (by omega)
        · exact ((B5.out.setCell (by simp) _).setCell (by simp) _).setCell (by simp) _

theorem impl_collect (w : World) (a : Int) (p l : Value) (ps : List Int) (L : List (Int × Int)) (hA : AIn w p l ps L) :
    Calls Try.prog 54 #[.agg #[.int .i64 a, p, l]] w (CAns (if okB a ps L = true then a else 0) (if okB a ps L = true then ps else []) (if okB a ps L = true then colL a L else []) (if okB a ps L = true then colF a L else []) w) := by
  cases hB : okB a ps L with
  | false => exact (impl_collect_no w a p l ps L hA hB).mono fun _ _ k => CAns.nope k
  | true => exact impl_collect_yes w a p l ps L hA hB

end Go.Proofs.Ytdcnakpkmgepgaa

namespace Go.Proofs.Ytdcnakpkmgepgaa
open Go.ChangeShapes Go.WideShapes Go.ChangeAt Go.RowKit
set_option linter.unusedVariables false

def plRec (P : Pl) : Pl := if plOkB P = true then ⟨colF P.a P.L ++ P.fr, P.a, P.ps, colL P.a P.L, P.lv⟩ else plZero
def plRecF (P : Pl) : List Int := if plOkB P = true then colF P.a P.L else []
theorem rec_no {P : Pl} (h : plOkB P = false) : plRec P = plZero ∧ plRecF P = [] := by simp [plRec, plRecF, h]
theorem rec_yes {P : Pl} (h : plOkB P = true) : plRec P = ⟨colF P.a P.L ++ P.fr, P.a, P.ps, colL P.a P.L, P.lv⟩ ∧ plRecF P = colF P.a P.L := by simp [plRec, plRecF, h]
theorem col_sum (a : Int) (L : List (Int × Int)) : (colF a L).length + (colL a L).length = L.length := by
  unfold colF colL
  rw [List.length_map]
  induction L with
  | nil => rfl
  | cons q L ih =>
    cases h : oldB a q <;> simp [h] <;> omega
theorem fit_reclaim (P : Pl) (hf : PlFit P) : PlFit (plRec P) := by
  have h := col_sum P.a P.L
  unfold PlFit at hf ⊢
  unfold plRec
  split
  · simp only [List.length_append]
    omega
  · simp [plZero]
theorem fitR_reclaim (P : Pl) (hf : PlFit P) : (plRecF P).length ≤ 1048576 := by
  have h := col_sum P.a P.L
  unfold PlFit at hf
  unfold plRecF
  split
  · omega
  · simp
set_option maxHeartbeats 1600000 in
set_option maxRecDepth 100000 in
theorem impl_reclaim (w : World) (f p l v : Value) (P : Pl) (hf : PlFit P) (hwf : PlWf P) (hA : PlIn w f p l v P) :
    Calls Try.prog 23 #[.agg #[f, .int .i64 P.a, p, l, v]] w (PlI3 (plRec P) (plRecF P) w) := by
  have HWF := hidIt hwf
  have H := hidIt hA
  have HF := hidIt hf
  obtain ⟨fa, fc, pa, pc, la, lc, va, vc, rfl, rfl, rfl, rfl⟩ := hA.form
  clear hA
  unfold PlFit at hf
  go_enter Try.func23, Try.ntmps23
  go_wp2_with fail
  generalize hW : World.alloc (World.alloc w _) _ = W0
  have X := bx2 w #[.slice fa P.fr.length fc, .int .i64 P.a, .slice pa P.ps.length pc, .slice la P.L.length lc, .slice va P.lv.length vc] #[.slice none 0 0, .int .i64 0, .slice none 0 0, .slice none 0 0, .slice none 0 0] 34 34
  rw [hW] at X
  clear hW
  obtain ⟨X0, X1, bW, zW⟩ := X
  refine (impl_poolok W0 _ _ _ _ P HF.out HWF.out (H.out.below bW)).mono ?_
  rintro e w1 ⟨rfl, b1⟩
  have z1 := b1.size
  have H0 := hidIt (X0.below b1)
  have H1 := hidIt (X1.below b1)
  have B1 := hidIt (bel_two bW b1)
  clear X0 X1 bW b1
  cases hp : plOkB P with
  | false =>
    have HP := hidIt (rec_no hp)
    have q0 := H1.out.2.1 0
    have q1 := H1.out.2.1 1
    have q2 := H1.out.2.1 2
    have q3 := H1.out.2.1 3
    have q4 := H1.out.2.1 4
    have qf := H1.out.2.2
    simp at q0 q1 q2 q3 q4
    have hl1 := H1.out.1
    go_wp2
    exact bodyPost_ret (v := .tuple #[.agg #[.slice none 0 0, .int .i64 0, .slice none 0 0, .slice none 0 0, .slice none 0 0], .slice none 0 0]) (by simp [results, Try.results23, go_sem, q0, q1, q2, q3, q4]) rfl (by rw [HP.out.1, HP.out.2]; exact PlI3.none ⟨rfl, bel_set5 B1.out (by omega)⟩)
  | true =>
    have HP := hidIt (rec_yes hp)
    have hok := (plOk_parts hp).1
    have HC := hidIt (fun (p l : Value) W (hA : AIn W p l P.ps P.L) => impl_collect W P.a p l P.ps P.L hA)
    rw [if_pos hok, if_pos hok, if_pos hok, if_pos hok] at HC
    have hcs := col_sum P.a P.L
    generalize hFS : colF P.a P.L = FS at HC HP hcs
    generalize hLS : colL P.a P.L = LS at HC HP hcs
    clear hFS hLS hok
    have k1 := H0.out.2.1 1
    have k2 := H0.out.2.1 2
    have k3 := H0.out.2.1 3
    simp at k1 k2 k3
    go_wp2_with fail
    clear k1 k2 k3
    refine (HC.out _ _ w1 (H.out.below B1.out).ag).mono ?_
    rintro e w2 ⟨p1, l1, u1, m, rfl, ar, ru, hm1, hm2, b2⟩
    obtain ⟨xa, xb, xc, xd, rfl, rfl, -⟩ := ar.form
    obtain ⟨ua, uc, rfl⟩ := ru.form
    have z2 := b2.size
    have G0 := hidIt (H0.out.below b2)
    have G1 := hidIt (H1.out.below b2)
    have B2 := hidIt (bel_two B1.out b2)
    have A2 := hidIt ar
    have U2 := hidIt ru
    clear H0 H1 b2 ar ru
    have k0 := G0.out.2.1 0
    have k1 := G0.out.2.1 1
    have k2 := G0.out.2.1 2
    have k3 := G0.out.2.1 3
    have k4 := G0.out.2.1 4
    simp at k0 k1 k2 k3 k4
    have hl0 := G0.out.1
    go_wp2_with fail
    generalize hW : World.alloc w2 _ = W3
    have zW3 : W3.heap.size = w2.heap.size + 1 := by rw [← hW]; simp
    have b3 := hidIt (show Below w2.heap.size w2 W3 from by rw [← hW]; exact (Below.refl _ _).alloc (Nat.le_refl _) _)
    clear hW k0 k1 k2 k3 k4
    have J0 := hidIt (G0.out.below b3.out)
    have J1 := hidIt (G1.out.below b3.out)
    have B3 := hidIt (bel_two B2.out b3.out)
    have A3 := hidIt (A2.out.below b3.out)
    have U3 := hidIt (U2.out.below (b3.out.mono hm2))
    clear G0 G1 A2 U2 b3
    refine (impl_withages W3 _ _ _ _ P P.a xa xc P.ps.length xb LS.length xd HF.out (H.out.below B3.out)).mono ?_
    rintro e w4 ⟨f4, v4, rfl, wa, b4⟩
    have z4 := b4.size
    obtain ⟨a1, b1', a3, b3', g1, g2, g3, g4, g5, rf4, rv4⟩ := wa
    obtain ⟨fb, fd, rfl⟩ := rf4.form
    obtain ⟨vb, vd, rfl⟩ := rv4.form
    have J2 := hidIt (J0.out.below b4)
    have J3 := hidIt (J1.out.below b4)
    have B4 := hidIt (bel_two B3.out b4)
    have A4 := hidIt (A3.out.below (b4.mono (by omega)))
    have U4 := hidIt (U3.out.below (b4.mono (by omega)))
    have V4 := hidIt rv4
    clear rf4 rv4 b4 J0 J1 A3 U3 g1 g2 g5
    have k0 := J2.out.2.1 0
    simp at k0
    have hl4 := J2.out.1
    go_wp2_with fail
    generalize hW : World.alloc (World.alloc w4 _) _ = W5
    have X := bx2 w4 #[.slice fb P.fr.length fd, .int .i64 P.a, .slice xa P.ps.length xb, .slice xc LS.length xd, .slice vb P.lv.length vd] #[.slice ua FS.length uc, .slice fa P.fr.length fc] 34 22
    rw [hW] at X
    clear hW
    obtain ⟨X0, X1, b5, zW5⟩ := X
    have B5 := hidIt (bel_two B4.out b5)
    have hsum : sumLen [FS, P.fr] [FS, P.fr].length ≤ 16777216 := by simp [sumLen]; omega
    refine (concat_ints (w4.heap.size + 1) 0 2 [.slice ua FS.length uc, .slice fa P.fr.length fc] [FS, P.fr] W5 rfl (by simp) hsum (by omega) (fun j hj => ?_) (fun j hj hj' => ?_)).mono ?_
    · have hj2 : j < 2 := by simpa using hj
      rcases (by omega : j = 0 ∨ j = 1) with rfl | rfl
      · exact X1.2.1 0
      · exact X1.2.1 1
    · have hj2 : j < 2 := by simpa using hj
      rcases (by omega : j = 0 ∨ j = 1) with rfl | rfl
      · exact (U4.out.below (b5.mono (by omega))).intsIn (by omega)
      · exact (H.out.below B5.out).fr
    rintro e w6 ⟨v6, rfl, ho, b6⟩
    have hcat : catTo [FS, P.fr] [FS, P.fr].length = FS ++ P.fr := by simp [catTo]
    rw [hcat] at ho
    have z6 := b6.size
    have Q6 := hidIt (Row.of_owns ho)
    obtain ⟨qa, qc, rfl⟩ := own_form ho
    have J4 := hidIt (X0.below b6)
    have J5 := hidIt ((J3.out.below b5).below b6)
    have B6 := hidIt (bel_two B5.out b6)
    have A6 := hidIt ((A4.out.below (b5.mono (by omega))).below (b6.mono (by omega)))
    have U6 := hidIt ((U4.out.below (b5.mono (by omega))).below (b6.mono (by omega)))
    have V6 := hidIt ((V4.out.below (b5.mono (by omega))).below (b6.mono (by omega)))
    clear X0 X1 b5 b6 ho hcat hsum J2 J3 A4 U4 V4 k0
    have k0 := J4.out.2.1 0
    have k1 := J4.out.2.1 1
    have k2 := J4.out.2.1 2
    have k3 := J4.out.2.1 3
    have k4 := J4.out.2.1 4
    have kf := J4.out.2.2
    have q0 := J5.out.2.1 0
    have q1 := J5.out.2.1 1
    have q2 := J5.out.2.1 2
    have q3 := J5.out.2.1 3
    have q4 := J5.out.2.1 4
    have qf := J5.out.2.2
    simp at k0 k1 k2 k3 k4 q0 q1 q2 q3 q4
    have hlk := J4.out.1
    have hlq := J5.out.1
    have hne : w4.heap.size ≠ w.heap.size + 1 := by omega
    have hne2 : w.heap.size + 1 ≠ w4.heap.size := by omega
    go_wp2
    have E : ∀ k, k ≠ w.heap.size + 1 → k ≠ w4.heap.size → ((((((w6.setCell ⟨w4.heap.size, 0, none⟩ (.slice qa (FS.length + P.fr.length) qc)).setCell ⟨w.heap.size + 1, 0, none⟩ (.slice qa (FS.length + P.fr.length) qc)).setCell ⟨w.heap.size + 1, 1, none⟩ (.int .i64 P.a)).setCell ⟨w.heap.size + 1, 2, none⟩ (.slice xa P.ps.length xb)).setCell ⟨w.heap.size + 1, 3, none⟩ (.slice xc LS.length xd)).setCell ⟨w.heap.size + 1, 4, none⟩ (.slice vb P.lv.length vd)).heap[k]? = w6.heap[k]? := fun k h1 h2 => (set5_heap k h1).trans (Below.heap_setCell _ _ _ _ h2)
    have Q7 := hidIt (show Row w6 W5.heap.size w6.heap.size (.slice qa (FS.length + P.fr.length) qc) (ints (FS ++ P.fr)) from by have := Q6.out; rw [List.length_append] at this; exact this)
    refine bodyPost_ret (v := .tuple #[.agg #[.slice qa (FS.length + P.fr.length) qc, .int .i64 P.a, .slice xa P.ps.length xb, .slice xc LS.length xd, .slice vb P.lv.length vd], .slice ua FS.length uc]) (by simp [results, Try.results23, go_sem, q0, q1, q2, q3, q4]) rfl (by
      rw [HP.out.1, HP.out.2]
      refine ⟨_, _, _, _, _, m, rfl, ⟨W5.heap.size, w6.heap.size, m, w2.heap.size, a3, b3', ⟨by omega, by simp, by omega, by simp; omega, by omega, by simp; omega, by omega, by omega, by omega⟩, ?_, ?_, ?_⟩, ?_, by omega, by simp; omega, bel_set5 (B6.out.setCell (by simp; omega) _) (by omega)⟩
      · exact Row.loc _ _ _ _ w6 _ Q7.out (fun k k1 k2 => E k (by omega) (by omega))
      · exact AR.loc _ _ _ _ _ _ w6 _ A6.out (fun k k1 k2 => E k (by omega) (by omega))
      · exact Row.loc _ _ _ _ w6 _ V6.out (fun k k1 k2 => E k (by omega) (by omega))
      · exact (Row.loc _ _ _ _ w6 _ U6.out (fun k k1 k2 => E k (by omega) (by omega))).wide (by omega) (Nat.le_refl _))

end Go.Proofs.Ytdcnakpkmgepgaa

namespace Go.Proofs.Ytdcnakpkmgepgaa
open Go.ChangeShapes Go.WideShapes Go.ChangeAt Go.RowKit
set_option linter.unusedVariables false

def SAns (A : Int) (PS : List Int) (LS : List (Int × Int)) (FS : List Int) (w : World) (e : Ending) (w' : World) : Prop :=
  ∃ p' l' f', e = .returned (.tuple #[.agg #[.int .i64 A, p', l'], f']) ∧ AR w.heap.size w'.heap.size p' l' PS LS w' ∧ Row w' w.heap.size w'.heap.size f' (ints FS) ∧ Below w.heap.size w w'
theorem SAns.nope {w w' : World} {e : Ending} (h : e = .returned (.tuple #[.agg #[.int .i64 0, .slice none 0 0, .slice none 0 0], .slice none 0 0]) ∧ Below w.heap.size w w') : SAns 0 [] [] [] w e w' := ⟨_, _, _, h.1, AR.nil _ _ _, ⟨Option.none, 0, rfl, .inl rfl⟩, h.2⟩
theorem ints_snoc2 (xs : List Int) (y : Int) : ints (xs ++ [y]) = ints xs ++ [.int .i64 y] := by simp
structure SI (lo : Nat) (W : World) (b : Nat) (pv fv lv : Value) (ps F : List Int) (M : List (Int × Int)) : Prop where
  hb : lo ≤ b ∧ b < W.heap.size
  pins : W.ownsRow lo 3 1 pv ps.length (ints ps)
  free : W.ownsRow lo 3 1 fv F.length (ints F)
  lim : W.ownsRow lo 78 2 lv M.length (gones M)
  nb : pv.ownBlock ≠ some b ∧ fv.ownBlock ≠ some b ∧ lv.ownBlock ≠ some b
  pf : ∀ g, pv.ownBlock = some g → fv.ownBlock = some g → False
  pl : ∀ g, pv.ownBlock = some g → lv.ownBlock = some g → False
  fl : ∀ g, fv.ownBlock = some g → lv.ownBlock = some g → False
theorem SI.below {lo : Nat} {W W' : World} {b : Nat} {pv fv lv : Value} {ps F : List Int} {M : List (Int × Int)} (h : SI lo W b pv fv lv ps F M) (hb : Below W.heap.size W W') : SI lo W' b pv fv lv ps F M :=
  ⟨⟨h.hb.1, Nat.lt_of_lt_of_le h.hb.2 hb.size⟩, own_below h.pins hb, own_below h.free hb, own_below h.lim hb, h.nb, h.pf, h.pl, h.fl⟩
theorem SI.set {lo : Nat} {W : World} {b : Nat} {pv fv lv : Value} {ps F : List Int} {M : List (Int × Int)} (h : SI lo W b pv fv lv ps F M) (o : Nat) (v : Value) : SI lo (W.setCell ⟨b, o, none⟩ v) b pv fv lv ps F M := by
  have hg : W.grownBy (W.setCell ⟨b, o, none⟩ v) (some b) := ⟨rfl, rfl, rfl, by simp, fun k _ hk => Below.heap_setCell _ _ _ _ (fun e => hk (by rw [e]))⟩
  exact ⟨⟨h.hb.1, by simpa using h.hb.2⟩, h.pins.kept hg (.inr h.nb.1), h.free.kept hg (.inr h.nb.2.1), h.lim.kept hg (.inr h.nb.2.2), h.nb, h.pf, h.pl, h.fl⟩
theorem kept_of {W W' : World} {lo : Nat} {e : TypeId} {size n : Nat} {u v : Value} {xs : List Value} (h : W.ownsRow lo e size u n xs) (hg : W.grownBy W' v.ownBlock) (ha : ∀ g, u.ownBlock = some g → v.ownBlock = some g → False) : W'.ownsRow lo e size u n xs := by
  refine h.kept hg ?_
  cases hu : u.ownBlock with
  | none => exact .inl rfl
  | some k => exact .inr fun e => ha k hu e.symm
theorem SI.appF {lo : Nat} {W W' : World} {b : Nat} {pv fv lv : Value} {ps F : List Int} {M : List (Int × Int)} {q : Int} {g cap : Nat} (h : SI lo W b pv fv lv ps F M)
    (ho : W'.ownsRow lo 3 1 (.slice (some ⟨g, 0, none⟩) (F.length + 1) cap) (F.length + 1) (ints F ++ [.int .i64 q])) (hg : W.grownBy W' fv.ownBlock) (hat : fv.ownBlock = some g ∨ g = W.heap.size) : SI lo W' b pv (.slice (some ⟨g, 0, none⟩) (F.length + 1) cap) lv ps (F ++ [q]) M := by
  have new : ∀ k, (Value.slice (some ⟨g, 0, none⟩) (F.length + 1) cap).ownBlock = some k → fv.ownBlock = some k ∨ k = W.heap.size := fun k hk => by
    simp [Value.ownBlock] at hk
    subst hk
    exact hat
  refine ⟨⟨h.hb.1, Nat.lt_of_lt_of_le h.hb.2 hg.size⟩, kept_of h.pins hg h.pf, by rw [ints_snoc2]; simpa using ho, kept_of h.lim hg (fun k h1 h2 => h.fl k h2 h1), ⟨h.nb.1, fun e => ?_, h.nb.2.2⟩, fun k h1 h2 => ?_, h.pl, fun k h1 h2 => ?_⟩
  · rcases new b e with e1 | e1
    · exact h.nb.2.1 e1
    · have := h.hb.2; omega
  · rcases new k h2 with e1 | e1
    · exact h.pf k h1 e1
    · have := (h.pins.lt k h1).2; omega
  · rcases new k h1 with e1 | e1
    · exact h.fl k e1 h2
    · have := (h.lim.lt k h2).2; omega
theorem SI.appL {lo : Nat} {W W' : World} {b : Nat} {pv fv lv : Value} {ps F : List Int} {M : List (Int × Int)} {q y : Int} {g cap : Nat} (h : SI lo W b pv fv lv ps F M)
    (ho : W'.ownsRow lo 78 2 (.slice (some ⟨g, 0, none⟩) (M.length + 1) cap) (M.length + 1) (gones M ++ [.int .i64 q, .int .i64 y])) (hg : W.grownBy W' lv.ownBlock) (hat : lv.ownBlock = some g ∨ g = W.heap.size) : SI lo W' b pv fv (.slice (some ⟨g, 0, none⟩) (M.length + 1) cap) ps F (M ++ [(q, y)]) := by
  have new : ∀ k, (Value.slice (some ⟨g, 0, none⟩) (M.length + 1) cap).ownBlock = some k → lv.ownBlock = some k ∨ k = W.heap.size := fun k hk => by
    simp [Value.ownBlock] at hk
    subst hk
    exact hat
  refine ⟨⟨h.hb.1, Nat.lt_of_lt_of_le h.hb.2 hg.size⟩, kept_of h.pins hg h.pl, kept_of h.free hg h.fl, by rw [gones_snoc]; simpa using ho, ⟨h.nb.1, h.nb.2.1, fun e => ?_⟩, h.pf, fun k h1 h2 => ?_, fun k h1 h2 => ?_⟩
  · rcases new b e with e1 | e1
    · exact h.nb.2.2 e1
    · have := h.hb.2; omega
  · rcases new k h2 with e1 | e1
    · exact h.pl k h1 e1
    · have := (h.pins.lt k h1).2; omega
  · rcases new k h2 with e1 | e1
    · exact h.fl k h1 e1
    · have := (h.free.lt k h1).2; omega
theorem SI.ar {lo : Nat} {W : World} {b : Nat} {pv fv lv : Value} {ps F : List Int} {M : List (Int × Int)} (h : SI lo W b pv fv lv ps F M) : AR lo W.heap.size pv lv ps M W := by
  refine ⟨Row.of_owns h.pins, Rw.of_owns h.lim, fun h1 h2 e => ?_⟩
  obtain ⟨g, cap, hv, -, -⟩ := h.pins.form h1
  exact h.pl g (by rw [hv]; rfl) (by rw [← e, hv]; rfl)
def oldsTo (a : Int) (L : List (Int × Int)) (k : Nat) : List Int := ((L.take k).filter (oldB a)).map (·.1)
def keptTo (a : Int) (L : List (Int × Int)) (k : Nat) : List (Int × Int) := (L.take k).filter (fun p => !oldB a p)
theorem old_yes {a : Int} {L : List (Int × Int)} {k : Nat} (hk : k < L.length) (h : (goneAt L k).2 ≤ a - 2) : oldsTo a L (k + 1) = oldsTo a L k ++ [(goneAt L k).1] ∧ keptTo a L (k + 1) = keptTo a L k := by
  have e : oldB a (goneAt L k) = true := by simp [oldB, h]
  unfold oldsTo keptTo
  rw [List.take_succ_eq_append_getElem hk, goneAt_eq L k hk]
  simp [List.filter_append, e]
theorem old_no {a : Int} {L : List (Int × Int)} {k : Nat} (hk : k < L.length) (h : ¬ (goneAt L k).2 ≤ a - 2) : oldsTo a L (k + 1) = oldsTo a L k ∧ keptTo a L (k + 1) = keptTo a L k ++ [goneAt L k] := by
  have e : oldB a (goneAt L k) = false := by simp [oldB, h]
  unfold oldsTo keptTo
  rw [List.take_succ_eq_append_getElem hk, goneAt_eq L k hk]
  simp [List.filter_append, e]
theorem old_len (a : Int) (L : List (Int × Int)) (k : Nat) : (oldsTo a L k).length ≤ L.length ∧ (keptTo a L k).length ≤ L.length := by
  unfold oldsTo keptTo
  have h1 := List.length_filter_le (oldB a) (L.take k)
  have h2 := List.length_filter_le (fun p => !oldB a p) (L.take k)
  have h3 := List.length_take_le' k L
  rw [List.length_map]
  omega
theorem old_all (a : Int) (L : List (Int × Int)) : oldsTo a L L.length = colF a L ∧ keptTo a L L.length = colL a L := by
  unfold oldsTo keptTo colF colL
  rw [List.take_length]
  exact ⟨rfl, rfl⟩

set_option maxHeartbeats 800000 in
set_option maxRecDepth 100000 in
theorem spec_collect_no (w : World) (a : Int) (p l : Value) (ps : List Int) (L : List (Int × Int)) (hA : AIn w p l ps L) (hB : okB a ps L = false) :
    Calls Try.prog 53 #[.agg #[.int .i64 a, p, l]] w fun e w' => e = .returned (.tuple #[.agg #[.int .i64 0, .slice none 0 0, .slice none 0 0], .slice none 0 0]) ∧ Below w.heap.size w w' := by
  have H := hidIt hA
  obtain ⟨pa, pc, la, lc, rfl, rfl, -⟩ := hA.form
  clear hA
  go_enter Try.func53, Try.ntmps53
  go_wp2_with fail
  generalize hW : World.alloc (World.alloc w _) _ = W2
  have bW : Hid (Below w.heap.size w W2) := (by rw [← hW]; exact ((Below.refl w.heap.size w).alloc (Nat.le_refl _) _).alloc (by simp) _ : Below w.heap.size w W2)
  have zW : W2.heap.size = w.heap.size + 2 := by rw [← hW]; simp
  have c0 : W2.cell? ⟨w.heap.size, 0, none⟩ = some (.int .i64 a) := by rw [← hW]; simp [go_sem]
  have c1 : W2.cell? ⟨w.heap.size, 1, none⟩ = some (.slice pa ps.length pc) := by rw [← hW]; simp [go_sem]
  have c2 : W2.cell? ⟨w.heap.size, 2, none⟩ = some (.slice la L.length lc) := by rw [← hW]; simp [go_sem]
  have d0 : W2.cell? ⟨w.heap.size + 1, 0, none⟩ = some (.int .i64 0) := by rw [← hW]; simp [go_sem]
  have d1 : W2.cell? ⟨w.heap.size + 1, 1, none⟩ = some (.slice none 0 0) := by rw [← hW]; simp [go_sem]
  have d2 : W2.cell? ⟨w.heap.size + 1, 2, none⟩ = some (.slice none 0 0) := by rw [← hW]; simp [go_sem]
  have f0 : ∀ o, W2.frozen? ⟨w.heap.size + 1, o, none⟩ = false := by rw [← hW]; simp [go_sem]
  clear hW
  refine (spec_agesok W2 a _ _ ps L (H.out.below bW.out)).mono ?_
  rintro e w3 ⟨rfl, b3⟩
  have z3 := b3.size
  have B3 := hidIt (bW.out.trans (b3.mono (by omega)))
  replace c0 := below_cell b3 (by omega) c0
  replace c1 := below_cell b3 (by omega) c1
  replace c2 := below_cell b3 (by omega) c2
  replace d0 := below_cell b3 (by omega) d0
  replace d1 := below_cell b3 (by omega) d1
  replace d2 := below_cell b3 (by omega) d2
  replace f0 : ∀ o, w3.frozen? ⟨w.heap.size + 1, o, none⟩ = false := fun o => below_frozen b3 (by omega) (f0 o)
  clear b3
  rw [hB]
  go_wp2
  exact bodyPost_ret (v := .tuple #[.agg #[.int .i64 0, .slice none 0 0, .slice none 0 0], .slice none 0 0]) (by simp [results, Try.results53, go_sem, d0, d1, d2]) rfl ⟨rfl, by exact ((B3.out.setCell (by simp) _).setCell (by simp) _).setCell (by simp) _⟩
structure LI (w3 wr : World) (a : Int) (b : Nat) (pv fv lv : Value) (ps : List Int) (L : List (Int × Int)) (k : Nat) : Prop where
  si : SI w3.heap.size wr b pv fv lv ps (oldsTo a L k) (keptTo a L k)
  below : Below w3.heap.size w3 wr
  c0 : wr.cell? ⟨b, 0, none⟩ = some (.int .i64 a)
  c1 : wr.cell? ⟨b, 1, none⟩ = some pv
  c2 : wr.cell? ⟨b, 2, none⟩ = some lv
  cf : ∀ o, wr.frozen? ⟨b, o, none⟩ = false
/- the first of the model's answer, in whatever order it was made -/
def CpB (w3 : World) (a : Int) (ps : List Int) (s : Value) (W : World) : Prop :=
  ∃ b g cap, s = .pointer (some ⟨b, 0, none⟩) ∧ Below w3.heap.size w3 W ∧ w3.heap.size ≤ b ∧ b < W.heap.size ∧ g ≠ b ∧ W.cell? ⟨b, 0, none⟩ = some (.int .i64 a) ∧ W.cell? ⟨b, 1, none⟩ = some (.slice (some ⟨g, 0, none⟩) ps.length cap) ∧ W.cell? ⟨b, 2, none⟩ = some (.slice none 0 0) ∧ (∀ o, W.frozen? ⟨b, o, none⟩ = false) ∧ W.ownsRow w3.heap.size 3 1 (.slice (some ⟨g, 0, none⟩) ps.length cap) ps.length (ints ps)
theorem s3_keep {w3 W W' : World} {b : Nat} {x0 x1 : Value} (h : Below w3.heap.size w3 W ∧ W.cell? ⟨b, 0, none⟩ = some x0 ∧ W.cell? ⟨b, 1, none⟩ = some x1 ∧ b < w3.heap.size) (hb : Below w3.heap.size W W') : Below w3.heap.size w3 W' ∧ W'.cell? ⟨b, 0, none⟩ = some x0 ∧ W'.cell? ⟨b, 1, none⟩ = some x1 ∧ b < w3.heap.size :=
  ⟨h.1.trans hb, below_cell hb h.2.2.2 h.2.1, below_cell hb h.2.2.2 h.2.2.1, h.2.2.2⟩
theorem s3_drew {w3 W : World} {b : Nat} {x0 x1 : Value} (h : Below w3.heap.size w3 W ∧ W.cell? ⟨b, 0, none⟩ = some x0 ∧ W.cell? ⟨b, 1, none⟩ = some x1 ∧ b < w3.heap.size) : Below w3.heap.size w3 W.drew ∧ W.drew.cell? ⟨b, 0, none⟩ = some x0 ∧ W.drew.cell? ⟨b, 1, none⟩ = some x1 ∧ b < w3.heap.size := s3_keep h (Below.refl _ _).drew
theorem s3_al {w3 W : World} {b : Nat} {x0 x1 : Value} (h : Below w3.heap.size w3 W ∧ W.cell? ⟨b, 0, none⟩ = some x0 ∧ W.cell? ⟨b, 1, none⟩ = some x1 ∧ b < w3.heap.size) (o : Obj) : Below w3.heap.size w3 (W.alloc o) ∧ (W.alloc o).cell? ⟨b, 0, none⟩ = some x0 ∧ (W.alloc o).cell? ⟨b, 1, none⟩ = some x1 ∧ b < w3.heap.size := s3_keep h ((Below.refl _ _).alloc h.1.size _)

set_option maxHeartbeats 1600000 in
set_option maxRecDepth 100000 in
theorem spec_collect_yes (w : World) (a : Int) (p l : Value) (ps : List Int) (L : List (Int × Int)) (hA : AIn w p l ps L) (hB : okB a ps L = true) :
    Calls Try.prog 53 #[.agg #[.int .i64 a, p, l]] w (SAns a ps (colL a L) (colF a L) w) := by
  obtain ⟨a0, a1, n1, n8, m1, -, -⟩ := okB_len hB
  obtain ⟨i1, hi1, hy0, hy1, hy2⟩ := info_parts info3
  obtain ⟨i2, hi2, hz0, hz1, hz2⟩ := info_parts infoGone
  have H := hidIt hA
  obtain ⟨pa, pc, la, lc, rfl, rfl, hcap⟩ := hA.form
  clear hA
  go_enter Try.func53, Try.ntmps53
  go_wp2_with fail
  generalize hW : World.alloc (World.alloc w _) _ = W2
  have bW : Hid (Below w.heap.size w W2) := (by rw [← hW]; exact ((Below.refl w.heap.size w).alloc (Nat.le_refl _) _).alloc (by simp) _ : Below w.heap.size w W2)
  have zW : W2.heap.size = w.heap.size + 2 := by rw [← hW]; simp
  have c0 : W2.cell? ⟨w.heap.size, 0, none⟩ = some (.int .i64 a) := by rw [← hW]; simp [go_sem]
  have c1 : W2.cell? ⟨w.heap.size, 1, none⟩ = some (.slice pa ps.length pc) := by rw [← hW]; simp [go_sem]
  have c2 : W2.cell? ⟨w.heap.size, 2, none⟩ = some (.slice la L.length lc) := by rw [← hW]; simp [go_sem]
  have d0 : W2.cell? ⟨w.heap.size + 1, 0, none⟩ = some (.int .i64 0) := by rw [← hW]; simp [go_sem]
  have d1 : W2.cell? ⟨w.heap.size + 1, 1, none⟩ = some (.slice none 0 0) := by rw [← hW]; simp [go_sem]
  have d2 : W2.cell? ⟨w.heap.size + 1, 2, none⟩ = some (.slice none 0 0) := by rw [← hW]; simp [go_sem]
  have f0 : ∀ o, W2.frozen? ⟨w.heap.size + 1, o, none⟩ = false := by rw [← hW]; simp [go_sem]
  clear hW
  refine (spec_agesok W2 a _ _ ps L (H.out.below bW.out)).mono ?_
  rintro e w3 ⟨rfl, b3⟩
  have z3 := b3.size
  have B3 := hidIt (bW.out.trans (b3.mono (by omega)))
  replace c0 := below_cell b3 (by omega) c0
  replace c1 := below_cell b3 (by omega) c1
  replace c2 := below_cell b3 (by omega) c2
  replace d0 := below_cell b3 (by omega) d0
  replace d1 := below_cell b3 (by omega) d1
  replace d2 := below_cell b3 (by omega) d2
  replace f0 : ∀ o, w3.frozen? ⟨w.heap.size + 1, o, none⟩ = false := fun o => below_frozen b3 (by omega) (f0 o)
  clear b3
  rw [hB]
  go_wp2_with fail
  obtain ⟨ad1, rfl, -⟩ := inrow_src H.out.pins (by simp; omega)
  have SR1 : Hid (∀ W, Below w3.heap.size w3 W → ∀ j v, (ints ps)[j]? = some v → W.cell? (ad1.add j) = some v) := fun W hb j v hj => by
    obtain ⟨ad, he, hs⟩ := inrow_src (H.out.pins.below (B3.out.trans (hb.mono (by omega)))) (by simp; omega)
    cases he
    exact hs j v hj
  have hS : Below w3.heap.size w3 w3 ∧ w3.cell? ⟨w.heap.size, 0, none⟩ = some (.int .i64 a) ∧ w3.cell? ⟨w.heap.size, 1, none⟩ = some (.slice (some ad1) ps.length pc) ∧ w.heap.size < w3.heap.size := ⟨Below.refl _ _, c0, c1, by omega⟩
  go_cut [4] from 12 to 18 (fun x4 wc => CpB w3 a ps x4 wc)
  case first =>
    go_region_held3 (fun W => Below w3.heap.size w3 W ∧ W.cell? ⟨w.heap.size, 0, none⟩ = some (.int .i64 a) ∧ W.cell? ⟨w.heap.size, 1, none⟩ = some (.slice (some ad1) ps.length pc) ∧ w.heap.size < w3.heap.size)
      (first | ((repeat (first | (with_reducible assumption) | (with_reducible refine s3_drew ?_) | (with_reducible refine s3_al ?_ _))); done))
      (first | (refine step_append_new rfl (.tmp 14) (.tmp 16) 22 rfl 3 i1 (.int .i64 0) 1 8 Try.underlying22 hi1 hy0 hy1 hy2 rfl _ rfl ad1 ps.length pc (ints ps) rfl (by simp) (SR1.out _ (And.left (by assumption))) (by omega) (by unfold maxLen; omega) (by omega) ?_; intro Zs1 cap1 hZ1))
    all_goals
      go_wp2_with fail
      go_meet
      refine ⟨_, _, _, rfl, ?_, ?_, ?_, ?_, by simp [go_sem], by simp [go_sem]; exact ⟨rfl, rfl⟩, by simp [go_sem], by simp [go_sem], ?_⟩
      · (repeat (first | exact Below.refl _ _ | refine Below.drew ?_ | refine Below.alloc ?_ (by simp <;> omega) _))
      · first | omega | (simp; done) | (simp; omega)
      · first | (simp; done) | (simp; omega)
      · first | omega | (simp; done) | (simp; omega)
      · refine own_of_block (cur := Zs1) ?_ (by omega) hZ1.out.1 hZ1.out.2.1 hZ1.out.2.2.1 (by simp) hZ1.out.2.2.2
        (repeat (first | (with_reducible refine at_drew ?_) | (with_reducible refine at_new ?_; (focus (first | (simp; done) | (simp <;> omega) | omega)); done) | (with_reducible refine at_old ?_ ?_; (focus (first | (simp; done) | (simp <;> omega) | omega)))))
  case rest =>
  rename World => w4
  obtain ⟨b, g, cap4, rfl, bl4, hb0, hb1, hgb, e0, e1, e2, ef, own4⟩ := hcut
  have z4 := bl4.size
  have hg4 := own4.lt g rfl
  have L0 : LI w3 (w4.alloc (.cells #[] 3)) a b (.slice (some ⟨g, 0, none⟩) ps.length cap4) (.slice (some ⟨w4.heap.size, 0, none⟩) 0 0) (.slice none 0 0) ps L 0 :=
    ⟨⟨⟨hb0, by simp; omega⟩, own4.alloc _, own_empty (heap_alloc_new _ _) (by omega), World.ownsRow_nil _ _ _ _, ⟨by simpa [Value.ownBlock] using hgb, by simp [Value.ownBlock]; omega, by simp [Value.ownBlock]⟩, fun k h1 h2 => by simp [Value.ownBlock] at h1 h2; omega, fun k h1 h2 => by simp [Value.ownBlock] at h2, fun k h1 h2 => by simp [Value.ownBlock] at h2⟩, bl4.alloc (by omega) _, below_cell ((Below.refl _ w4).alloc (Nat.le_refl _) _) hb1 e0, below_cell ((Below.refl _ w4).alloc (Nat.le_refl _) _) hb1 e1, below_cell ((Below.refl _ w4).alloc (Nat.le_refl _) _) hb1 e2, fun o => below_frozen ((Below.refl _ w4).alloc (Nat.le_refl _) _) hb1 (ef o)⟩
  have HL0 := hidIt L0
  have k2x := below_cell bl4 (by omega) c2
  clear L0 e0 e1 e2 ef own4 hS SR1
  generalize hpv : Value.slice (some ⟨g, 0, none⟩) ps.length cap4 = pv at HL0
  have HPV := hidIt hpv
  clear hpv hgb hg4
  have hlt4 : w.heap.size < w4.heap.size := by omega
  go_wp2_with fail
  go_loopw [23, 5] (fun i s5 wr => ∃ (k : Nat) (lv : Value), k ≤ L.length ∧ i = .int .i64 k ∧ LI w3 wr a b pv s5 lv ps L k) (fun i _ _ => L.length - (intOf i).toNat)
  case atStart => exact ⟨0, _, Nat.zero_le _, rfl, HL0.out⟩
  case round =>
    rename World => wr
    clear HL0 k2x
    obtain ⟨k, lv, hk, rfl, I⟩ := hrel
    have II := hidIt I
    obtain ⟨fa, fc, rfl⟩ := (Row.of_owns I.si.free).form
    obtain ⟨ma, mc, rfl, -⟩ := (Rw.of_owns I.si.lim).form
    have b0 := I.c0
    have b1 := I.c1
    have b2 := I.c2
    have bf := I.cf
    have hbw := I.si.hb.2
    have hbl := I.si.hb.1
    have hzr := I.below.size
    have hol := old_len a L k
    rw [← HPV.out] at b1
    have BR := hidIt (B3.out.trans (I.below.mono (by omega)))
    have k0 := below_cell I.below (by omega) c0
    have k2 := below_cell I.below (by omega) c2
    have hlw : w.heap.size < wr.heap.size := by omega
    clear I
    by_cases hlt : k < L.length
    · obtain ⟨la', lc', hlv, -, hl⟩ := H.out.limbo.below BR.out
      simp at hlv
      obtain ⟨rfl, rfl⟩ := hlv
      rcases hl with hl | ⟨b2', off2, rfl, hb2, hl⟩
      · rw [hl] at hlt; simp at hlt
      have g1 := (PIn.at hl k hlt).1
      have g2 := (PIn.at hl k hlt).2
      have hlt' : (k : Int) < (L.length : Int) := by omega
      have HY := hidIt (old_yes (a := a) hlt)
      have HO := hidIt (old_no (a := a) hlt)
      have HE : Hid (goneAt L k = ((goneAt L k).1, (goneAt L k).2)) := rfl
      generalize goneAt L k = gk at g1 g2 HY HO
      obtain ⟨q, y⟩ := gk
      clear hl HE
      simp only at g1 g2
      by_cases hy : y ≤ a - 2
      · have HYY := hidIt (HY.out hy)
        have NB := hidIt II.out.si.nb.2.1
        clear HY HO
        go_wp2_with (at_builtin; refine wpList_append_lies _ rfl _ _ 22 rfl w3.heap.size 3 i1 (.int .i64 0) 1 8 Try.underlying22 hi1 hy0 hy1 hy2 rfl (by omega) (.slice fa (oldsTo a L k).length fc) (oldsTo a L k).length (ints (oldsTo a L k)) rfl ((II.out.si.free.alloc _).alloc _) _ 1 1 [.int .i64 q] rfl rfl (World.news_of_block (at_new (by simp))) (by intro u hu; simp at hu; subst hu; rfl) (by omega) (by unfold maxLen; omega) (by omega) (by simp; omega) _ rfl ?_; intro g6 cap6 w6 hown hgrow hat hlt6; have q0 := farv (b := b) (o := 0) hgrow (by simp <;> omega) (fun k hk e => by subst e; exact NB.out hk) (below_cell (((Below.refl _ wr).alloc (Nat.le_refl _) _).alloc (by simp) _) hbw b0); have q1 := farv (b := b) (o := 1) hgrow (by simp <;> omega) (fun k hk e => by subst e; exact NB.out hk) (below_cell (((Below.refl _ wr).alloc (Nat.le_refl _) _).alloc (by simp) _) hbw b1); have q2 := farv (b := b) (o := 2) hgrow (by simp <;> omega) (fun k hk e => by subst e; exact NB.out hk) (below_cell (((Below.refl _ wr).alloc (Nat.le_refl _) _).alloc (by simp) _) hbw b2); have qf : ∀ o, w6.frozen? ⟨b, o, none⟩ = false := (fun o => farv_frozen (b := b) (o := o) hgrow (by simp <;> omega) (fun k hk e => by subst e; exact NB.out hk) (below_frozen (((Below.refl _ wr).alloc (Nat.le_refl _) _).alloc (by simp) _) hbw (bf o))); have HO6 := hidIt (And.intro hown (And.intro hgrow hat)); clear hown hgrow hat b0 b1 b2 bf)
        go_roundw
        case rel =>
          refine ⟨k + 1, .slice ma (keptTo a L k).length mc, by omega, by go_num, ⟨?_, ?_, q0, by rw [q1, HPV.out], q2, qf⟩⟩
          · have s := (II.out.si.below (((Below.refl _ wr).alloc (Nat.le_refl _) _).alloc (by simp) _)).appF HO6.out.1 HO6.out.2.1 HO6.out.2.2
            rw [HYY.out.1, HYY.out.2]
            exact s
          · exact ((II.out.below.alloc (by omega) _).alloc (by simp; omega) _).grown HO6.out.2.1 (by simp; omega) (fun k hk => (II.out.si.free.lt k hk).1)
        case measure => simp [intOf]; omega
      · have HOO := hidIt (HO.out hy)
        have NB := hidIt II.out.si.nb.2.2
        have hbw1 : b < wr.heap.size + 1 := by omega
        clear HY HO
        go_wp2_with (at_builtin; refine wpList_append_lies _ rfl _ _ 30 rfl w3.heap.size 78 i2 (.agg #[.int .i64 0, .int .i64 0]) 2 16 Try.underlying30 hi2 hz0 hz1 hz2 rfl (by omega) (.slice ma (keptTo a L k).length mc) (keptTo a L k).length (gones (keptTo a L k)) rfl ((II.out.si.lim.alloc _).alloc _) _ 1 1 [.int .i64 q, .int .i64 y] rfl rfl (World.news_of_block (at_new (by simp))) (by intro u hu; simp at hu; rcases hu with rfl | rfl <;> rfl) (by omega) (by unfold maxLen; omega) (by omega) (by simp; omega) _ rfl ?_; intro g6 cap6 w6 hown hgrow hat hlt6; have q0 := farv (b := b) (o := 0) hgrow (by simp <;> omega) (fun k hk e => by subst e; exact NB.out hk) (below_cell (((Below.refl _ wr).alloc (Nat.le_refl _) _).alloc (by simp) _) hbw b0); have q1 := farv (b := b) (o := 1) hgrow (by simp <;> omega) (fun k hk e => by subst e; exact NB.out hk) (below_cell (((Below.refl _ wr).alloc (Nat.le_refl _) _).alloc (by simp) _) hbw b1); have q2 := farv (b := b) (o := 2) hgrow (by simp <;> omega) (fun k hk e => by subst e; exact NB.out hk) (below_cell (((Below.refl _ wr).alloc (Nat.le_refl _) _).alloc (by simp) _) hbw b2); have qf : ∀ o, w6.frozen? ⟨b, o, none⟩ = false := (fun o => farv_frozen (b := b) (o := o) hgrow (by simp <;> omega) (fun k hk e => by subst e; exact NB.out hk) (below_frozen (((Below.refl _ wr).alloc (Nat.le_refl _) _).alloc (by simp) _) hbw (bf o))); have HO6 := hidIt (And.intro hown (And.intro hgrow hat)); clear hown hgrow hat b0 b1 b2 bf)
        go_roundw
        case rel =>
          have s := ((II.out.si.below (((Below.refl _ wr).alloc (Nat.le_refl _) _).alloc (by simp) _)).appL HO6.out.1 HO6.out.2.1 HO6.out.2.2).set 2 (.slice (some ⟨g6, 0, none⟩) ((keptTo a L k).length + 1) cap6)
          refine ⟨k + 1, .slice (some ⟨g6, 0, none⟩) ((keptTo a L k).length + 1) cap6, by omega, by go_num, ⟨?_, ?_, ?_, ?_, ?_, ?_⟩⟩
          · rw [HOO.out.1, HOO.out.2]
            exact s
          · exact (((II.out.below.alloc (by omega) _).alloc (by simp; omega) _).grown HO6.out.2.1 (by simp; omega) (fun k hk => (II.out.si.lim.lt k hk).1)).setCell (by show w3.heap.size ≤ b; omega) _
          · rw [World.cell?_setCell_other _ _ _ _ (by simp)]; exact q0
          · rw [World.cell?_setCell_other _ _ _ _ (by simp), q1, HPV.out]
          · exact World.cell?_setCell_same _ _ _ q2
          · intro o; rw [World.frozen?_setCell]; exact qf o
        case measure => simp [intOf]; omega
    · obtain rfl : k = L.length := by omega
      have HALL := hidIt (old_all a L)
      have kd0 := below_cell II.out.below (by omega) d0
      have kd1 := below_cell II.out.below (by omega) d1
      have kd2 := below_cell II.out.below (by omega) d2
      have kdf : ∀ o, wr.frozen? ⟨w.heap.size + 1, o, none⟩ = false := fun o => below_frozen II.out.below (by omega) (f0 o)
      go_wp2
      rw [← HALL.out.1, ← HALL.out.2]
      refine bodyPost_ret (v := .tuple #[.agg #[.int .i64 a, .slice (some ⟨g, 0, none⟩) ps.length cap4, .slice ma (keptTo a L L.length).length mc], .slice fa (oldsTo a L L.length).length fc]) (by simp [results, Try.results53, go_sem, kd0, kd1, kd2]) rfl ⟨_, _, _, rfl, ?_, ?_, ?_⟩
      · have A := II.out.si.ar
        rw [← HPV.out] at A
        exact (((A.set_out (.inl (by omega))).set_out (.inl (by omega))).set_out (.inl (by omega))).wide (by omega) (by simp)
      · exact ((((Row.of_owns II.out.si.free).set_below _ _ (by show w.heap.size + 1 < w3.heap.size; omega)).set_below _ _ (by show w.heap.size + 1 < w3.heap.size; omega)).set_below _ _ (by show w.heap.size + 1 < w3.heap.size; omega)).wide (by omega) (by simp)
      · exact ((BR.out.setCell (by simp) _).setCell (by simp) _).setCell (by simp) _
theorem spec_collect (w : World) (a : Int) (p l : Value) (ps : List Int) (L : List (Int × Int)) (hA : AIn w p l ps L) :
    Calls Try.prog 53 #[.agg #[.int .i64 a, p, l]] w (SAns (if okB a ps L = true then a else 0) (if okB a ps L = true then ps else []) (if okB a ps L = true then colL a L else []) (if okB a ps L = true then colF a L else []) w) := by
  cases hB : okB a ps L with
  | false => exact (spec_collect_no w a p l ps L hA hB).mono fun _ _ k => SAns.nope k
  | true => exact spec_collect_yes w a p l ps L hA hB

end Go.Proofs.Ytdcnakpkmgepgaa

namespace Go.Proofs.Ytdcnakpkmgepgaa
open Go.ChangeShapes Go.WideShapes Go.ChangeAt Go.RowKit
set_option linter.unusedVariables false

set_option maxHeartbeats 1600000 in
set_option maxRecDepth 100000 in
theorem spec_reclaim (w : World) (f p l v : Value) (P : Pl) (hf : PlFit P) (hA : PlIn w f p l v P) :
    Calls Try.prog 22 #[.agg #[f, .int .i64 P.a, p, l, v]] w (PlS3 (plRec P) (plRecF P) w) := by
  have H := hidIt hA
  have HF := hidIt hf
  obtain ⟨fa, fc, pa, pc, la, lc, va, vc, rfl, rfl, rfl, rfl⟩ := hA.form
  clear hA
  unfold PlFit at hf
  go_enter Try.func22, Try.ntmps22
  go_wp2_with fail
  generalize hW : World.alloc (World.alloc w _) _ = W0
  have X := bx2 w #[.slice fa P.fr.length fc, .int .i64 P.a, .slice pa P.ps.length pc, .slice la P.L.length lc, .slice va P.lv.length vc] #[.slice none 0 0, .int .i64 0, .slice none 0 0, .slice none 0 0, .slice none 0 0] 34 34
  rw [hW] at X
  clear hW
  obtain ⟨X0, X1, bW, zW⟩ := X
  refine (spec_poolok W0 _ _ _ _ P HF.out (H.out.below bW)).mono ?_
  rintro e w1 ⟨rfl, b1⟩
  have z1 := b1.size
  have H0 := hidIt (X0.below b1)
  have H1 := hidIt (X1.below b1)
  have B1 := hidIt (bel_two bW b1)
  clear X0 X1 bW b1
  cases hp : plOkB P with
  | false =>
    have HP := hidIt (rec_no hp)
    have q0 := H1.out.2.1 0
    have q1 := H1.out.2.1 1
    have q2 := H1.out.2.1 2
    have q3 := H1.out.2.1 3
    have q4 := H1.out.2.1 4
    have qf := H1.out.2.2
    simp at q0 q1 q2 q3 q4
    have hl1 := H1.out.1
    go_wp2
    exact bodyPost_ret (v := .tuple #[.agg #[.slice none 0 0, .int .i64 0, .slice none 0 0, .slice none 0 0, .slice none 0 0], .slice none 0 0]) (by simp [results, Try.results22, go_sem, q0, q1, q2, q3, q4]) rfl (by rw [HP.out.1, HP.out.2]; exact PlS3.none ⟨rfl, bel_set5 B1.out (by omega)⟩)
  | true =>
    have HP := hidIt (rec_yes hp)
    have hok := (plOk_parts hp).1
    have HC := hidIt (fun (p l : Value) W (hA : AIn W p l P.ps P.L) => spec_collect W P.a p l P.ps P.L hA)
    rw [if_pos hok, if_pos hok, if_pos hok, if_pos hok] at HC
    have hcs := col_sum P.a P.L
    generalize hFS : colF P.a P.L = FS at HC HP hcs
    generalize hLS : colL P.a P.L = LS at HC HP hcs
    clear hFS hLS hok
    have k0 := H0.out.2.1 0
    have k1 := H0.out.2.1 1
    have k2 := H0.out.2.1 2
    have k3 := H0.out.2.1 3
    have k4 := H0.out.2.1 4
    simp at k0 k1 k2 k3 k4
    go_wp2_with fail
    clear k0 k1 k2 k3 k4
    refine (spec_copypool w1 _ _ _ _ P HF.out (ok_pins hp) (H.out.below B1.out)).mono ?_
    rintro e w2 ⟨f2, p2, l2, v2, rfl, rq, b2⟩
    obtain ⟨ya, yb, yc, yd, ye, yf, yg, yh, rfl, rfl, rfl, rfl⟩ := rq.form
    have z2 := b2.size
    have G0 := hidIt (H0.out.below b2)
    have G1 := hidIt (H1.out.below b2)
    have B2 := hidIt (bel_two B1.out b2)
    have HQ := hidIt rq
    clear rq b2 H0 H1
    have k1 := G0.out.2.1 1
    have k2 := G0.out.2.1 2
    have k3 := G0.out.2.1 3
    simp at k1 k2 k3
    have hl0 := G0.out.1
    go_wp2_with fail
    generalize hW : World.alloc w2 _ = W3
    have zW3 : W3.heap.size = w2.heap.size + 1 := by rw [← hW]; simp
    have Y3 := hidIt (show Bx W3 w2.heap.size #[.slice ya P.fr.length yb, .int .i64 P.a, .slice yc P.ps.length yd, .slice ye P.L.length yf, .slice yg P.lv.length yh] from by rw [← hW]; exact Bx.new w2 _ _)
    have b3 := hidIt (show Below w2.heap.size w2 W3 from by rw [← hW]; exact (Below.refl _ _).alloc (Nat.le_refl _) _)
    clear hW k1 k2 k3
    have J1 := hidIt (G1.out.below b3.out)
    have B3 := hidIt (bel_two B2.out b3.out)
    have Q3 := hidIt (HQ.out.below b3.out)
    clear G0 G1 HQ b3
    refine (HC.out _ _ W3 (H.out.below B3.out).ag).mono ?_
    rintro e w4 ⟨p4, l4, u4, rfl, ar, ru, b4⟩
    obtain ⟨xa, xb, xc, xd, rfl, rfl, -⟩ := ar.form
    obtain ⟨ua, uc, rfl⟩ := ru.form
    have z4 := b4.size
    have Y4 := hidIt (Y3.out.below b4)
    have J4 := hidIt (J1.out.below b4)
    have B4 := hidIt (bel_two B3.out b4)
    have Q4 := hidIt (Q3.out.below (b4.mono (by omega)))
    have A4 := hidIt ar
    have U4 := hidIt ru
    clear ar ru b4 Y3 J1 Q3
    have k1 := Y4.out.2.1 1
    have k2 := Y4.out.2.1 2
    have k3 := Y4.out.2.1 3
    have kf := Y4.out.2.2
    simp at k1 k2 k3
    have hly := Y4.out.1
    go_wp2_with fail
    generalize hW : World.alloc _ (Obj.cells #[Value.int IntKind.i64 P.a, Value.slice xa P.ps.length xb, Value.slice xc LS.length xd] 32) = W5
    have E5 : ∀ k, k ≠ w2.heap.size → k < w4.heap.size → W5.heap[k]? = w4.heap[k]? := fun k h1 h2 => by
      rw [← hW]
      exact (Below.heap_alloc _ _ _ (by simpa using h2)).trans ((Below.heap_setCell _ _ _ _ h1).trans ((Below.heap_setCell _ _ _ _ h1).trans (Below.heap_setCell _ _ _ _ h1)))
    have z5 : W5.heap.size = w4.heap.size + 1 := by rw [← hW]; simp
    have Y5 := hidIt (show Bx W5 w2.heap.size #[.slice ya P.fr.length yb, .int .i64 P.a, .slice xa P.ps.length xb, .slice xc LS.length xd, .slice yg P.lv.length yh] from by
      rw [← hW]
      exact (((Y4.out.set (i := 1) (.int .i64 P.a) (by simp)).set (i := 2) (.slice xa P.ps.length xb) (by simp)).set (i := 3) (.slice xc LS.length xd) (by simp)).alloc _)
    have B5 := hidIt (show Below w.heap.size w W5 from by
      rw [← hW]
      exact bel_al' (((B4.out.setCell (by show w.heap.size ≤ w2.heap.size; omega) _).setCell (by show w.heap.size ≤ w2.heap.size; omega) _).setCell (by show w.heap.size ≤ w2.heap.size; omega) _) (by simp; omega) _)
    clear hW k1 k2 k3 kf
    have J5 := hidIt (J4.out.block (by omega) (E5 _ (by omega) J4.out.1))
    have Q5 := hidIt (show RowQ W5 w1.heap.size w2.heap.size (.slice ya P.fr.length yb) P.fr ∧ RowQ W5 w1.heap.size w2.heap.size (.slice yg P.lv.length yh) P.lv from ⟨RowQ.loc _ _ _ _ w4 _ Q4.out.fr (fun k k1 k2 => E5 k (by omega) (by omega)), RowQ.loc _ _ _ _ w4 _ Q4.out.lv (fun k k1 k2 => E5 k (by omega) (by omega))⟩)
    have A5 := hidIt (AR.loc _ _ _ _ _ _ w4 _ A4.out (fun k k1 k2 => E5 k (by omega) k2))
    have U5 := hidIt (Row.loc _ _ _ _ w4 _ U4.out (fun k k1 k2 => E5 k (by omega) k2))
    clear Q4 A4 U4 Y4 J4 E5
    have hly5 := Y5.out.1
    have k0 := Y5.out.2.1 0
    simp at k0
    have kf := Y5.out.2.2
    have IF := hidIt (U5.out.intsIn (by omega : w4.heap.size ≤ W5.heap.size))
    have IR := hidIt (Q5.out.1.inr (by omega : w2.heap.size ≤ W5.heap.size))
    go_region_law (first
      | (refine step_ints rfl (.tmp 21) (.tmp 22) rfl W5.heap.size (.slice (some ⟨w4.heap.size + 1, 0, none⟩) 0 0) [] rfl ?_ _ FS rfl ?_ (by simp; omega) ?_ ?_; (focus (first | exact own_new_drew z5.symm (Nat.le_of_eq z5) | exact own_new z5.symm (Nat.le_of_eq z5))); (focus (first | exact IF.out.below (bel_al (Below.refl _ _) _).drew | exact IF.out.below (bel_al (Below.refl _ _) _))); (focus (simp)); intro v7 w7 ho7 hg7 _; have b7 : Below W5.heap.size W5 w7 := (by first | exact bel_grown (bel_al (Below.refl _ _) _).drew hg7 (fun j hj => by simp [Value.ownBlock] at hj; omega) | exact bel_grown (bel_al (Below.refl _ _) _) hg7 (fun j hj => by simp [Value.ownBlock] at hj; omega)); have c7 := below_cell b7 hly5 k0)
      | (refine step_ints rfl (.tmp 23) (.tmp 25) rfl W5.heap.size _ ([] ++ FS) rfl ?_ _ P.fr rfl ?_ (by simp; omega) ?_ ?_; (focus (exact ho7)); (focus (exact IR.out.below b7)); (focus (exact b7.size)); intro v8 w8 ho8 hg8 _; have b8 : Below W5.heap.size W5 w8 := bel_grown b7 hg8 (fun j hj => (ho7.lt j hj).1); have c8 := below_cell b8 hly5 k0; have f8 := fun o => below_frozen b8 hly5 (kf o); obtain ⟨va8, vc8, rfl⟩ := own_form ho8))
    all_goals
      have J8 := hidIt (J5.out.below b8)
      have Y8 := hidIt (Y5.out.below b8)
      have z8 := b8.size
      have B8 := hidIt (bel_two B5.out b8)
      have F8 := hidIt (show Row w8 W5.heap.size w8.heap.size (.slice va8 (FS.length + P.fr.length) vc8) (ints (FS ++ P.fr)) from by have := Row.of_owns ho8; simpa using this)
      have A8 := hidIt (A5.out.below (b8.mono (by omega)))
      have V8 := hidIt (RowQ.loc _ _ _ _ W5 w8 Q5.out.2 (fun k _ k2 => b8.block k (by omega)))
      have U8 := hidIt (U5.out.below (b8.mono (by omega)))
      clear IF IR ho7 hg7 b7 c7 ho8 hg8 b8 c8 f8 k0 kf J5 Y5 A5 Q5 U5
      have y1 := Y8.out.2.1 1
      have y2 := Y8.out.2.1 2
      have y3 := Y8.out.2.1 3
      have y4 := Y8.out.2.1 4
      have y0 := Y8.out.2.1 0
      have q0 := J8.out.2.1 0
      have q1 := J8.out.2.1 1
      have q2 := J8.out.2.1 2
      have q3 := J8.out.2.1 3
      have q4 := J8.out.2.1 4
      have qf := J8.out.2.2
      simp at y0 y1 y2 y3 y4 q0 q1 q2 q3 q4
      have hlk := Y8.out.1
      have hlq := J8.out.1
      have hne : w2.heap.size ≠ w.heap.size + 1 := by omega
      have hne2 : w.heap.size + 1 ≠ w2.heap.size := by omega
      go_wp2
      have E : ∀ k, k ≠ w.heap.size + 1 → k ≠ w2.heap.size → ((((((w8.setCell ⟨w2.heap.size, 0, none⟩ (.slice va8 (FS.length + P.fr.length) vc8)).setCell ⟨w.heap.size + 1, 0, none⟩ (.slice va8 (FS.length + P.fr.length) vc8)).setCell ⟨w.heap.size + 1, 1, none⟩ (.int .i64 P.a)).setCell ⟨w.heap.size + 1, 2, none⟩ (.slice xa P.ps.length xb)).setCell ⟨w.heap.size + 1, 3, none⟩ (.slice xc LS.length xd)).setCell ⟨w.heap.size + 1, 4, none⟩ (.slice yg P.lv.length yh)).heap[k]? = w8.heap[k]? := fun k h1 h2 => (set5_heap k h1).trans (Below.heap_setCell _ _ _ _ h2)
      refine bodyPost_ret (v := .tuple #[.agg #[.slice va8 (FS.length + P.fr.length) vc8, .int .i64 P.a, .slice xa P.ps.length xb, .slice xc LS.length xd, .slice yg P.lv.length yh], .slice ua FS.length uc]) (by simp [results, Try.results22, go_sem, q0, q1, q2, q3, q4]) rfl (by
        rw [HP.out.1, HP.out.2]
        refine ⟨_, _, _, _, _, rfl, ⟨?_, ?_, ?_⟩, ?_, bel_set5 (B8.out.setCell (by simp; omega) _) (by omega)⟩
        · exact (RowQ.loc _ _ _ _ w8 _ F8.out.toQ (fun k k1 k2 => E k (by omega) (by omega))).wide (by omega) (by simp)
        · exact (AR.loc _ _ _ _ _ _ w8 _ A8.out (fun k k1 k2 => E k (by omega) (by omega))).wide (by omega) (by simp; omega)
        · exact (RowQ.loc _ _ _ _ w8 _ V8.out (fun k k1 k2 => E k (by omega) (by omega))).wide (by omega) (by simp; omega)
        · exact (Row.loc _ _ _ _ w8 _ U8.out (fun k k1 k2 => E k (by omega) (by omega))).wide (by omega) (by simp; omega))

end Go.Proofs.Ytdcnakpkmgepgaa

namespace Go.Proofs.Ytdcnakpkmgepgaa
open Go.ChangeShapes Go.WideShapes Go.ChangeAt Go.RowKit
set_option linter.unusedVariables false

set_option maxHeartbeats 3200000 in
set_option maxRecDepth 100000 in
theorem walk_Reclaim (P : Pl) (f p l v : Value) (w : World) (r0 : PlIn w f p l v P) (n0 : P.fr.length ≤ maxLen) (n1 : P.ps.length ≤ maxLen) (n2 : P.L.length ≤ maxLen) (n3 : P.lv.length ≤ maxLen) (hwf : PlWf P) :
    Calls Try.prog 7 #[.agg #[f, .int .i64 P.a, p, l, v]] w fun e w' => e = .returned (.bool true) ∧ Below w.heap.size w w' := by
  have RI := hidIt r0
  obtain ⟨xaa, xka, xba, xla, xca, xma, xda, xna, rfl, rfl, rfl, rfl⟩ := r0.form
  clear r0
  unfold maxLen at n0 n1 n2 n3
  by_cases hs : P.fr.length + P.ps.length + P.L.length + P.lv.length ≤ 1048576
  · have HF : Hid (PlFit P) := hidIt (show PlFit P from hs)
    have HS := hidIt (fun f p l v W (hA : PlIn W f p l v P) => spec_reclaim W f p l v P  hs hA)
    have HI := hidIt (fun f p l v W (hA : PlIn W f p l v P) => impl_reclaim W f p l v P  hs hwf hA)
    have HG : Hid (PlFit (plRec P)) := hidIt (fit_reclaim P  hs)
    have hF : (plRecF P).length ≤ 1048576 := fitR_reclaim P  hs
    generalize plRec P = P' at HS HI HG
    generalize plRecF P = F' at HS HI hF
    have s0 := hidIt ((Sv.start w).box5 (.slice xaa P.fr.length xka) (.int .i64 P.a) (.slice xba P.ps.length xla) (.slice xca P.L.length xma) (.slice xda P.lv.length xna) 27)
    go_enter Try.func7, Try.ntmps7
    go_wp2_with fail
    refine (sz_pool P.a _ _ _ _ P.fr.length _ P.ps.length _ P.L.length _ P.lv.length _ _ (by omega) (by omega) (by omega) (by omega)).mono ?_
    rintro e w1 ⟨⟨z, rfl, hz, -⟩, b1⟩
    have hz0 := hz hs
    clear hz
    have s1 := hidIt (s0.out.grow b1)
    have z1 := b1.size
    (try simp at z1)
    obtain ⟨c10, c11, c12, c13, c14⟩ := s1.out.get5 (b := w.heap.size) (x0 := (.slice xaa P.fr.length xka)) (x1 := (.int .i64 P.a)) (x2 := (.slice xba P.ps.length xla)) (x3 := (.slice xca P.L.length xma)) (x4 := (.slice xda P.lv.length xna)) (by simp) (by simp) (by simp) (by simp) (by simp)
    clear b1 s0
    go_wp2_with fail
    clear hz0 c10 c11 c12 c13 c14
    refine (to_pool _ _ _ _ _ P HF.out (RI.out.below s1.out.below)).mono ?_
    rintro e w2 ⟨f2, p2, l2, v2, rfl, r2, b2⟩
    have s2 := hidIt (s1.out.grow b2)
    have z2 := b2.size
    have R2 := hidIt (r2.toQ.pin (Nat.le_refl _))
    obtain ⟨xa2, xk2, xb2, xl2, xc2, xm2, xd2, xn2, rfl, rfl, rfl, rfl⟩ := r2.form
    clear r2 b2 s1
    go_wp2_with fail
    refine (HS.out _ _ _ _ _ R2.out).mono ?_
    rintro e w3 ⟨f3, p3, l3, v3, u3, rfl, r3, rf3, b3⟩
    have s3 := hidIt (((s2.out.grow b3).row (Nat.le_refl _) (PlQ.loc _ _ _ _ _ _ _) r3).row (Nat.le_refl _) (Row.loc _ _ _ _) rf3)
    obtain ⟨ua3, uc3, rfl⟩ := rf3.form
    obtain ⟨xa3, xk3, xb3, xl3, xc3, xm3, xd3, xn3, rfl, rfl, rfl, rfl⟩ := r3.form
    have z3 := b3.size
    clear r3 rf3 b3 s2 R2
    have t3 := hidIt (s3.out.box5 (.slice xa3 P'.fr.length xk3) (.int .i64 P'.a) (.slice xb3 P'.ps.length xl3) (.slice xc3 P'.L.length xm3) (.slice xd3 P'.lv.length xn3) 34)
    obtain ⟨c30, c31, c32, c33, c34⟩ := t3.out.get5 (b := w.heap.size) (x0 := (.slice xaa P.fr.length xka)) (x1 := (.int .i64 P.a)) (x2 := (.slice xba P.ps.length xla)) (x3 := (.slice xca P.L.length xma)) (x4 := (.slice xda P.lv.length xna)) (by simp) (by simp) (by simp) (by simp) (by simp)
    go_wp2_with fail
    clear c30 c31 c32 c33 c34
    refine (to_pool _ _ _ _ _ P HF.out (RI.out.below t3.out.below)).mono ?_
    rintro e w4 ⟨f4, p4, l4, v4, rfl, r4, b4⟩
    have s4 := hidIt ((t3.out.grow b4).row (Nat.le_refl _) (PlR.loc _ _ _ _ _ _ _) r4)
    obtain ⟨xa4, xk4, xb4, xl4, xc4, xm4, xd4, xn4, rfl, rfl, rfl, rfl⟩ := r4.form
    have z4 := b4.size
    (try simp at z4)
    clear r4 b4 t3 s3
    have t4 := hidIt (s4.out.box5 (.slice xa4 P.fr.length xk4) (.int .i64 P.a) (.slice xb4 P.ps.length xl4) (.slice xc4 P.L.length xm4) (.slice xd4 P.lv.length xn4) 34)
    go_wp2_with fail
    refine (HI.out _ _ _ _ _ ((t4.out.at (.head _)).2.toQ.pin (t4.out.at (.head _)).1)).mono ?_
    rintro e w5 ⟨f5, p5, l5, v5, u5, m5x, rfl, r5, rf5, hm1, hm2, b5⟩
    (try simp at hm1)
    have s5 := hidIt (((t4.out.grow b5).row hm2 (Row.loc _ _ _ _) rf5).row (Nat.le_refl _) (PlR.loc _ _ _ _ _ _ _) r5)
    obtain ⟨ua5, uc5, rfl⟩ := rf5.form
    obtain ⟨xa5, xk5, xb5, xl5, xc5, xm5, xd5, xn5, rfl, rfl, rfl, rfl⟩ := r5.form
    have z5 := b5.size
    (try simp at z5)
    clear r5 rf5 b5 t4 s4
    have t5 := hidIt (s5.out.box5 (.slice xa5 P'.fr.length xk5) (.int .i64 P'.a) (.slice xb5 P'.ps.length xl5) (.slice xc5 P'.L.length xm5) (.slice xd5 P'.lv.length xn5) 34)
    obtain ⟨c50, c51, c52, c53, c54⟩ := t5.out.get5 (b := w3.heap.size) (x0 := (.slice xa3 P'.fr.length xk3)) (x1 := (.int .i64 P'.a)) (x2 := (.slice xb3 P'.ps.length xl3)) (x3 := (.slice xc3 P'.L.length xm3)) (x4 := (.slice xd3 P'.lv.length xn3)) (by simp) (by simp) (by simp) (by simp) (by simp)
    go_wp2_with fail
    clear c50 c51 c52 c53 c54 s5
    refine (eq_pool _ _ _ _ _ _ _ _ _ _ _ _ _ P' HG.out (t5.out.at (.head _)).1 (t5.out.at (.tail _ (.tail _ (.tail _ (.tail _ (.head _)))))).1 (t5.out.at (.head _)).2.toQ (t5.out.at (.tail _ (.tail _ (.tail _ (.tail _ (.head _)))))).2).mono ?_
    rintro e w6a ⟨rfl, b6a⟩
    have s6a := hidIt (t5.out.grow b6a)
    have z6a := b6a.size
    (try simp at z6a)
    clear b6a t5
    go_wp2_with fail
    refine (eq_intB _ _ _ _ _ _ _ F' (by omega) (s6a.out.at (.tail _ (.head _))).2 (s6a.out.at (.tail _ (.tail _ (.tail _ (.head _))))).2).mono ?_
    rintro e w6 ⟨rfl, b6⟩
    have s6 := hidIt (s6a.out.grow b6)
    have z6 := b6.size
    (try simp at z6)
    clear b6 s6a
    go_wp2_with fail
    obtain ⟨PP, p0, pd, pg, ps'⟩ := s6.out.pack
    have PD := hidIt pd
    have PG := hidIt pg
    have PS := hidIt ps'
    have PC := hidIt (fun W (h : PP W) => (⟨(ps' W h).get (by simp), (ps' W h).get (by simp), (ps' W h).get (by simp), (ps' W h).get (by simp), (ps' W h).get (by simp), (ps' W h).get (by simp), (ps' W h).get (by simp), (ps' W h).get (by simp), (ps' W h).get (by simp), (ps' W h).get (by simp)⟩ : W.cell? ⟨w.heap.size, 0, none⟩ = some (.slice xaa P.fr.length xka) ∧ W.cell? ⟨w.heap.size, 1, none⟩ = some (.int .i64 P.a) ∧ W.cell? ⟨w.heap.size, 2, none⟩ = some (.slice xba P.ps.length xla) ∧ W.cell? ⟨w.heap.size, 3, none⟩ = some (.slice xca P.L.length xma) ∧ W.cell? ⟨w.heap.size, 4, none⟩ = some (.slice xda P.lv.length xna) ∧ W.cell? ⟨w4.heap.size, 0, none⟩ = some (.slice xa4 P.fr.length xk4) ∧ W.cell? ⟨w4.heap.size, 1, none⟩ = some (.int .i64 P.a) ∧ W.cell? ⟨w4.heap.size, 2, none⟩ = some (.slice xb4 P.ps.length xl4) ∧ W.cell? ⟨w4.heap.size, 3, none⟩ = some (.slice xc4 P.L.length xm4) ∧ W.cell? ⟨w4.heap.size, 4, none⟩ = some (.slice xd4 P.lv.length xn4)))
    have h6 := and_mk PC.out p0
    clear pd pg ps' p0 s6
    go_region_held3 (fun W => PP W ∧ W.cell? ⟨w.heap.size, 0, none⟩ = some (.slice xaa P.fr.length xka) ∧ W.cell? ⟨w.heap.size, 1, none⟩ = some (.int .i64 P.a) ∧ W.cell? ⟨w.heap.size, 2, none⟩ = some (.slice xba P.ps.length xla) ∧ W.cell? ⟨w.heap.size, 3, none⟩ = some (.slice xca P.L.length xma) ∧ W.cell? ⟨w.heap.size, 4, none⟩ = some (.slice xda P.lv.length xna) ∧ W.cell? ⟨w4.heap.size, 0, none⟩ = some (.slice xa4 P.fr.length xk4) ∧ W.cell? ⟨w4.heap.size, 1, none⟩ = some (.int .i64 P.a) ∧ W.cell? ⟨w4.heap.size, 2, none⟩ = some (.slice xb4 P.ps.length xl4) ∧ W.cell? ⟨w4.heap.size, 3, none⟩ = some (.slice xc4 P.L.length xm4) ∧ W.cell? ⟨w4.heap.size, 4, none⟩ = some (.slice xd4 P.lv.length xn4))
      (first | exact and_mk PC.out (PD.out _ (And.left (by assumption))) | exact and_mk PC.out (PG.out _ _ (And.left (by assumption)) (by assumption)))
      (first | (go_at_call 11; refine (to_pool _ _ _ _ _ P HF.out (RI.out.below (PS.out _ (And.left (by assumption))).below)).mono ?_; rintro e wa ⟨fa', pa', la', va', rfl, ra, ba⟩; obtain ⟨xa7, xk7, xb7, xl7, xc7, xm7, xd7, xn7, rfl, rfl, rfl, rfl⟩ := ra.form) | (go_at_call 13; refine (eq_pool _ _ _ _ _ _ _ _ _ _ _ _ _ P HF.out ((PS.out _ (And.left (by assumption))).at (.tail _ (.tail _ (.head _)))).1 (Nat.le_refl _) ((PS.out _ (And.left (by assumption))).at (.tail _ (.tail _ (.head _)))).2.toQ ra.toQ).mono ?_; rintro e w7 ⟨rfl, b7⟩))
    rename_i h7
    have s7 := hidIt ((PS.out _ h7.1).front2)
    have z7 : w6.heap.size ≤ w7.heap.size := by have := b7.size; have := ba.size; simp at *; omega
    clear PD PG PC PS h6 h7 ra ba b7
    obtain ⟨c70, c71, c72, c73, c74⟩ := s7.out.get5 (b := w4.heap.size) (x0 := (.slice xa4 P.fr.length xk4)) (x1 := (.int .i64 P.a)) (x2 := (.slice xb4 P.ps.length xl4)) (x3 := (.slice xc4 P.L.length xm4)) (x4 := (.slice xd4 P.lv.length xn4)) (by simp) (by simp) (by simp) (by simp) (by simp)
    go_wp2_with fail
    clear c70 c71 c72 c73 c74
    refine (mark_pool _ _ _ _ _ _ _ P 1 HF.out (by omega) (s7.out.at (.head _)).1 (s7.out.at (.head _)).2).mono ?_
    rintro e w8 ⟨rfl, r8, o8⟩
    have s8 := hidIt (s7.out.mark1 o8 (PlM.loc _ _ _ _ _ _ _ _ _ _ _) r8 (by first | omega | (simp; done) | (simp; omega)) (by first | omega | (simp; done) | (simp; omega)) (by first | omega | (simp; done) | (simp; omega)))
    have z8 := o8.size
    clear r8 o8 s7
    obtain ⟨c80, c81, c82, c83, c84⟩ := s8.out.get5 (b := w5.heap.size) (x0 := (.slice xa5 P'.fr.length xk5)) (x1 := (.int .i64 P'.a)) (x2 := (.slice xb5 P'.ps.length xl5)) (x3 := (.slice xc5 P'.L.length xm5)) (x4 := (.slice xd5 P'.lv.length xn5)) (by simp) (by simp) (by simp) (by simp) (by simp)
    obtain ⟨d80, d81, d82, d83, d84⟩ := s8.out.get5 (b := w3.heap.size) (x0 := (.slice xa3 P'.fr.length xk3)) (x1 := (.int .i64 P'.a)) (x2 := (.slice xb3 P'.ps.length xl3)) (x3 := (.slice xc3 P'.L.length xm3)) (x4 := (.slice xd3 P'.lv.length xn3)) (by simp) (by simp) (by simp) (by simp) (by simp)
    go_wp2_with fail
    clear c80 c81 c82 c83 c84 d80 d81 d82 d83 d84
    refine (eq_pool _ _ _ _ _ _ _ _ _ _ _ _ _ P' HG.out (s8.out.at (.tail _ (.head _))).1 (s8.out.at (.tail _ (.tail _ (.tail _ (.tail _ (.head _)))))).1 (s8.out.at (.tail _ (.head _))).2.toQ (s8.out.at (.tail _ (.tail _ (.tail _ (.tail _ (.head _)))))).2).mono ?_
    rintro e w9a ⟨rfl, b9a⟩
    have s9a := hidIt (s8.out.grow b9a)
    have z9a := b9a.size
    (try simp at z9a)
    clear b9a s8
    go_wp2_with fail
    refine (eq_intB _ _ _ _ _ _ _ F' (by omega) (s9a.out.at (.tail _ (.tail _ (.head _)))).2 (s9a.out.at (.tail _ (.tail _ (.tail _ (.head _))))).2).mono ?_
    rintro e w9b ⟨rfl, b9b⟩
    have s9b := hidIt (s9a.out.grow b9b)
    have z9b := b9b.size
    (try simp at z9b)
    clear b9b s9a
    have s9 := hidIt s9b.out.front1
    have z9 := z9b
    clear s9b
    obtain ⟨c90, c91, c92, c93, c94⟩ := s9.out.get5 (b := w5.heap.size) (x0 := (.slice xa5 P'.fr.length xk5)) (x1 := (.int .i64 P'.a)) (x2 := (.slice xb5 P'.ps.length xl5)) (x3 := (.slice xc5 P'.L.length xm5)) (x4 := (.slice xd5 P'.lv.length xn5)) (by simp) (by simp) (by simp) (by simp) (by simp)
    go_wp2_with fail
    clear c90 c91 c92 c93 c94
    refine (mark_pool _ _ _ _ _ _ _ P' 1 HG.out (by omega) (s9.out.at (.head _)).1 (s9.out.at (.head _)).2).mono ?_
    rintro e w10 ⟨rfl, r10, o10⟩
    have s10 := hidIt (s9.out.mark1 o10 (PlM.loc _ _ _ _ _ _ _ _ _ _ _) r10 (by first | omega | (simp; done) | (simp; omega)) (by first | omega | (simp; done) | (simp; omega)) (by first | omega | (simp; done) | (simp; omega)))
    have z10 := o10.size
    clear r10 o10 s9
    have s10f := hidIt s10.out.front2
    clear s10
    have HGq := HG.out
    unfold PlFit at HGq
    go_wp2_with fail
    refine (mark_int _ _ _ _ F' (1 + P'.fr.length + P'.ps.length + P'.L.length * 2 + P'.lv.length) (by omega) (by omega) (s10f.out.at (.head _)).1 (s10f.out.at (.head _)).2).mono ?_
    rintro e w10b ⟨rfl, r10, o10⟩
    have s10b := hidIt (s10f.out.mark1 (Q := fun W => Row W _ _ _ (imarks (1 + P'.fr.length + P'.ps.length + P'.L.length * 2 + P'.lv.length) F'.length)) o10 (Row.loc _ _ _ _) r10 (by first | omega | (simp; done) | (simp; omega)) (by first | omega | (simp; done) | (simp; omega)) (by first | omega | (simp; done) | (simp; omega)))
    have z10b := o10.size
    clear r10 o10 s10f
    obtain ⟨e10, e11, e12, e13, e14⟩ := s10b.out.get5 (b := w5.heap.size) (x0 := (.slice xa5 P'.fr.length xk5)) (x1 := (.int .i64 P'.a)) (x2 := (.slice xb5 P'.ps.length xl5)) (x3 := (.slice xc5 P'.L.length xm5)) (x4 := (.slice xd5 P'.lv.length xn5)) (by simp) (by simp) (by simp) (by simp) (by simp)
    go_wp2_with fail
    clear e10 e11 e12 e13 e14
    refine (held_pool _ _ _ P'.a _ _ _ _ P'.fr.length P'.ps.length P'.L.length P'.lv.length 1 HG.out (by omega) (s10b.out.at (.tail _ (.head _))).1 (s10b.out.at (.tail _ (.head _))).2).mono ?_
    rintro e w11 ⟨rfl, b11⟩
    have s11 := hidIt (s10b.out.grow b11)
    have z11 := b11.size
    clear b11 s10b
    go_wp2_with fail
    refine (held_int _ _ _ _ F'.length (1 + P'.fr.length + P'.ps.length + P'.L.length * 2 + P'.lv.length) (by omega) (by omega) (s11.out.at (.head _)).2).mono ?_
    rintro e w11 ⟨rfl, rfl⟩
    obtain ⟨e20, e21, e22, e23, e24⟩ := s11.out.get5 (b := w.heap.size) (x0 := (.slice xaa P.fr.length xka)) (x1 := (.int .i64 P.a)) (x2 := (.slice xba P.ps.length xla)) (x3 := (.slice xca P.L.length xma)) (x4 := (.slice xda P.lv.length xna)) (by simp) (by simp) (by simp) (by simp) (by simp)
    go_wp2_with fail
    clear e20 e21 e22 e23 e24
    refine (to_pool _ _ _ _ _ P HF.out (RI.out.below s11.out.below)).mono ?_
    rintro e w12 ⟨f12, p12, l12, v12, rfl, r12, b12⟩
    have s12 := hidIt (s11.out.grow b12)
    have R12 := hidIt (r12.toQ.pin (Nat.le_refl _))
    obtain ⟨xa12, xk12, xb12, xl12, xc12, xm12, xd12, xn12, rfl, rfl, rfl, rfl⟩ := r12.form
    have z12 := b12.size
    clear r12 b12 s11
    go_wp2_with fail
    refine (HI.out _ _ _ _ _ R12.out).mono ?_
    rintro e w13 ⟨f13, p13, l13, v13, u13, m13x, rfl, r13, rf13, hn1, hn2, b13⟩
    have s13 := hidIt (((s12.out.grow b13).row hn2 (Row.loc _ _ _ _) rf13).row (Nat.le_refl _) (PlR.loc _ _ _ _ _ _ _) r13)
    obtain ⟨ua13, uc13, rfl⟩ := rf13.form
    obtain ⟨xa13, xk13, xb13, xl13, xc13, xm13, xd13, xn13, rfl, rfl, rfl, rfl⟩ := r13.form
    have z13 := b13.size
    clear r13 rf13 b13 s12 R12
    have t13 := hidIt (s13.out.box5 (.slice xa13 P'.fr.length xk13) (.int .i64 P'.a) (.slice xb13 P'.ps.length xl13) (.slice xc13 P'.L.length xm13) (.slice xd13 P'.lv.length xn13) 34)
    obtain ⟨e30, e31, e32, e33, e34⟩ := t13.out.get5 (b := w3.heap.size) (x0 := (.slice xa3 P'.fr.length xk3)) (x1 := (.int .i64 P'.a)) (x2 := (.slice xb3 P'.ps.length xl3)) (x3 := (.slice xc3 P'.L.length xm3)) (x4 := (.slice xd3 P'.lv.length xn3)) (by simp) (by simp) (by simp) (by simp) (by simp)
    go_wp2_with fail
    clear e30 e31 e32 e33 e34 s13
    refine (eq_pool _ _ _ _ _ _ _ _ _ _ _ _ _ P' HG.out (t13.out.at (.head _)).1 (t13.out.at (.tail _ (.tail _ (.tail _ (.tail _ (.tail _ (.tail _ (.head _)))))))).1 (t13.out.at (.head _)).2.toQ (t13.out.at (.tail _ (.tail _ (.tail _ (.tail _ (.tail _ (.tail _ (.head _)))))))).2).mono ?_
    rintro e w14a ⟨rfl, b14a⟩
    have s14a := hidIt (t13.out.grow b14a)
    have z14a := b14a.size
    (try simp at z14a)
    clear b14a t13
    go_wp2_with fail
    refine (eq_intB _ _ _ _ _ _ _ F' (by omega) (s14a.out.at (.tail _ (.head _))).2 (s14a.out.at (.tail _ (.tail _ (.tail _ (.tail _ (.tail _ (.head _))))))).2).mono ?_
    rintro e w14 ⟨rfl, b14⟩
    have s14 := hidIt (s14a.out.grow b14)
    have z14 := b14.size
    (try simp at z14)
    clear b14 s14a
    obtain ⟨e40, e41, e42, e43, e44⟩ := s14.out.get5 (b := w5.heap.size) (x0 := (.slice xa5 P'.fr.length xk5)) (x1 := (.int .i64 P'.a)) (x2 := (.slice xb5 P'.ps.length xl5)) (x3 := (.slice xc5 P'.L.length xm5)) (x4 := (.slice xd5 P'.lv.length xn5)) (by simp) (by simp) (by simp) (by simp) (by simp)
    go_wp2_with fail
    clear e40 e41 e42 e43 e44
    refine (held_pool _ _ _ P'.a _ _ _ _ P'.fr.length P'.ps.length P'.L.length P'.lv.length 1 HG.out (by omega) (s14.out.at (.tail _ (.tail _ (.tail _ (.head _))))).1 (s14.out.at (.tail _ (.tail _ (.tail _ (.head _))))).2).mono ?_
    rintro e w15 ⟨rfl, b15⟩
    have s15 := hidIt (s14.out.grow b15)
    clear b15 s14
    go_wp2_with fail
    refine (held_int _ _ _ _ F'.length (1 + P'.fr.length + P'.ps.length + P'.L.length * 2 + P'.lv.length) (by omega) (by omega) (s15.out.at (.tail _ (.tail _ (.head _)))).2).mono ?_
    rintro e w15 ⟨rfl, rfl⟩
    go_wp2
    go_ret
    exact ⟨rfl, s15.out.below⟩
  · go_enter Try.func7, Try.ntmps7
    go_wp2_with fail
    refine (sz_pool P.a _ _ _ _ P.fr.length _ P.ps.length _ P.L.length _ P.lv.length _ _ (by omega) (by omega) (by omega) (by omega)).mono ?_
    rintro e w1 ⟨⟨z, rfl, -, hz⟩, b1⟩
    obtain rfl := hz hs
    go_wp2
    go_ret
    exact ⟨rfl, ((Below.refl _ _).alloc (Nat.le_refl _) _).trans (b1.mono (by simp <;> omega))⟩

end Go.Proofs.Ytdcnakpkmgepgaa
