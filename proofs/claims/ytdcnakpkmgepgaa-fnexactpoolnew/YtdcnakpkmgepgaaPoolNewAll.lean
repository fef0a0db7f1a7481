/- Contracts of functions of the program and of its model, and plain lemmas: several texts in one. -/
import Derived.Test.YtdcnakpkmgepgaaRows
import Derived.WalkKit
import Derived.ProofKit
import Derived.OpenShut
import Derived.ShutString
import Derived.Test.YtdcnakpkmgepgaaPoolBaseA
import Derived.Maps.OwnSet
import Derived.Maps.RangeWalk
import Derived.Test.YtdcnakpkmgepgaaPoolBaseB
import Derived.Deep.AppendSrc
import Derived.Deep.Upon
import Derived.Deep.AppendLies
import Derived.Laws.OwnMore
import Derived.Deep.LoopGhost
import Derived.Deep.RegionHeld3
import Derived.Laws.EntriesVeiled
import Derived.Deep.DeepCutAuto
import Derived.Deep.OwnRows

namespace Go.Proofs.Ytdcnakpkmgepgaa
open Go.ChangeShapes Go.WideShapes Go.ChangeAt Go.RowKit
set_option linter.unusedVariables false

def stLit (q : Int × Int) : DataW Unit := .agg [.lit (.int .i64 q.1), .lit (.int .i64 q.2)]
def stVal (q : Int × Int) : Value := .agg #[.int .i64 q.1, .int .i64 q.2]
theorem stVal_inj {p q : Int × Int} (h : stVal p = stVal q) : p = q := by
  obtain ⟨a, b⟩ := p
  obtain ⟨c, d⟩ := q
  simp [stVal] at h
  obtain ⟨rfl, rfl⟩ := h
  rfl
structure IsR (R : Value → Option (DataW Unit × List MemPlace)) : Prop where
  mk1 : ∀ q, R (stVal q) = some (stLit q, [])
  inv : ∀ v y, R v = some y → ∃ q, v = stVal q ∧ y = (stLit q, [])
theorem exR : ∃ R, IsR R := by
  classical
  refine ⟨fun v => if h : ∃ q, v = stVal q then some (stLit h.choose, []) else none, fun q => ?_, fun v y h => ?_⟩
  · have h : ∃ p, stVal q = stVal p := ⟨q, rfl⟩
    show (if h : ∃ p, stVal q = stVal p then some (stLit h.choose, []) else none) = _
    rw [dif_pos h, ← stVal_inj h.choose_spec]
  · by_cases hq : ∃ q, v = stVal q
    · replace h : (if h : ∃ q, v = stVal q then some (stLit h.choose, ([] : List MemPlace)) else none) = some y := h
      rw [dif_pos hq] at h
      cases h
      exact ⟨_, hq.choose_spec, rfl⟩
    · replace h : (if h : ∃ q, v = stVal q then some (stLit h.choose, ([] : List MemPlace)) else none) = some y := h
      rw [dif_neg hq] at h
      cases h
theorem stLit_inj {p q : Int × Int} (h : stLit p = stLit q) : p = q := by
  obtain ⟨a, b⟩ := p
  obtain ⟨c, d⟩ := q
  simp [stLit] at h
  obtain ⟨rfl, rfl⟩ := h
  rfl
theorem mapLaw : Maps.Keyed Try.prog 3 := Maps.int_keyed Try.underlying3
theorem zeroSt (w : World) : (zeroValue 61).run Try.prog w = .ok (stVal (0, 0)) w := by kernel_rfl
def keyI (z : Int) : Lit := .int .i64 z
theorem keyI_isKey (z : Int) : WideAt.IsKeyLit (keyI z) := trivial
theorem keyI_inj {y z : Int} (h : keyI y = keyI z) : y = z := by cases h; rfl
/- what the datum says at each number -/
def Tells (D : DataW Unit) (g : Int → Option (Int × Int)) : Prop := ∀ z, match g z with
  | none => Maps.has D (keyI z) = false
  | some q => Maps.has D (keyI z) = true ∧ ∀ zd, D.atKey (keyI z) zd = stLit q
def MapF (w : World) (b n : Nat) (g : Int → Option (Int × Int)) : Prop := ∃ (R : Value → Option (DataW Unit × List MemPlace)) (D : DataW Unit), IsR R ∧ w.ownsMap Try.prog 3 R b n D ∧ Tells D g
def updF (g : Int → Option (Int × Int)) (k : Int) (q : Int × Int) : Int → Option (Int × Int) := fun z => if z = k then some q else g z
def delF (g : Int → Option (Int × Int)) (k : Int) : Int → Option (Int × Int) := fun z => if z = k then none else g z
theorem tells_empty : Tells (.map []) (fun _ => none) := fun _ => rfl
theorem tells_put {D : DataW Unit} {g : Int → Option (Int × Int)} (h : Tells D g) (hm : Maps.IsMap D) (k : Int) (q : Int × Int) : Tells (D.put (keyI k) (stLit q)) (updF g k q) := by
  intro z
  by_cases hz : z = k
  · subst hz
    have e : updF g z q z = some q := by simp [updF]
    rw [e]
    exact ⟨Maps.has_put_same hm (keyI_isKey z) _, fun zd => Maps.atKey_put_same hm (keyI_isKey z) _ _⟩
  · have e : updF g k q z = g z := by simp [updF, hz]
    have hne : keyI z ≠ keyI k := fun e => hz (keyI_inj e)
    rw [e]
    have := h z
    cases hg : g z with
    | none => rw [hg] at this; exact (Maps.has_put_other hne _).trans this
    | some p => rw [hg] at this; exact ⟨(Maps.has_put_other hne _).trans this.1, fun zd => (Maps.atKey_put_other hne _ _).trans (this.2 zd)⟩
theorem tells_del {D : DataW Unit} {g : Int → Option (Int × Int)} (h : Tells D g) (k : Int) : Tells (D.del (keyI k)) (delF g k) := by
  intro z
  by_cases hz : z = k
  · subst hz
    have e : delF g z z = none := by simp [delF]
    rw [e]
    exact Maps.has_del_same
  · have e : delF g k z = g z := by simp [delF, hz]
    have hne : keyI z ≠ keyI k := fun e => hz (keyI_inj e)
    rw [e]
    have := h z
    cases hg : g z with
    | none => rw [hg] at this; exact (Maps.has_del_other hne).trans this
    | some p => rw [hg] at this; exact ⟨(Maps.has_del_other hne).trans this.1, fun zd => (Maps.atKey_del_other hne _).trans (this.2 zd)⟩
theorem MapF.made (w : World) : MapF (w.alloc (.map #[] 0)) w.heap.size 0 (fun _ => none) := by
  obtain ⟨R, hR⟩ := exR
  exact ⟨R, _, hR, World.ownsMap_made _ _ _ _, tells_empty⟩
theorem MapF.mono {w : World} {b n m : Nat} {g : Int → Option (Int × Int)} (h : MapF w b n g) (hn : n ≤ m) : MapF w b m g := by
  obtain ⟨R, D, hR, h1, h2⟩ := h
  exact ⟨R, D, hR, h1.mono hn, h2⟩
theorem MapF.lt {w : World} {b n : Nat} {g : Int → Option (Int × Int)} (h : MapF w b n g) : b < w.heap.size := by
  obtain ⟨R, D, hR, h1, h2⟩ := h
  exact h1.lt
theorem MapF.kept {w w' : World} {b n : Nat} {row : Option Nat} {g : Int → Option (Int × Int)} (h : MapF w b n g) (hg : w.grownBy w' row) (hne : some b ≠ row) : MapF w' b n g := by
  obtain ⟨R, D, hR, h1, h2⟩ := h
  exact ⟨R, D, hR, h1.kept hg hne, h2⟩
theorem MapF.below {w w' : World} {b n : Nat} {g : Int → Option (Int × Int)} (h : MapF w b n g) (hb : Below w.heap.size w w') : MapF w' b n g :=
  h.kept (row := none) ⟨hb.os, hb.tape, hb.output, hb.size, fun k hk _ => hb.block k hk⟩ (by simp)
theorem MapF.alloc {w : World} {b n : Nat} {g : Int → Option (Int × Int)} (h : MapF w b n g) (o : Obj) : MapF (w.alloc o) b n g := h.below ((Below.refl _ _).alloc (Nat.le_refl _) _)
theorem MapF.set {w : World} {b n : Nat} {g : Int → Option (Int × Int)} (h : MapF w b n g) {c o : Nat} (hc : b ≠ c) (x : Value) : MapF (w.setCell ⟨c, o, none⟩ x) b n g := by
  obtain ⟨R, D, hR, h1, h2⟩ := h
  exact ⟨R, D, hR, h1.setCell hc x, h2⟩
theorem MapF.at {w : World} {b n : Nat} {g : Int → Option (Int × Int)} (h : MapF w b n g) (z : Int) (hz : (Lit.int .i64 z).wf = true) :
    (Instr.lookup 58 (.map (some b)) (.int .i64 z) false).run Try.prog w = .ok (stVal ((g z).getD (0, 0))) w := by
  obtain ⟨R, D, hR, h1, h2⟩ := h
  obtain ⟨v, ps, hrun, hv⟩ := h1.lookup (t := 58) mapLaw Try.underlying58 (zeroSt w) (hR.mk1 (0, 0)) (Maps.keyOf_int_mk Try.underlying3 hz)
  obtain ⟨q, rfl, hq⟩ := hR.inv _ _ hv
  rw [hrun]
  have := h2 z
  have e : q = (g z).getD (0, 0) := by
    cases hg : g z with
    | none =>
      rw [hg] at this
      have h3 := Maps.atKey_of_not_has this (stLit (0, 0))
      simp only [Prod.mk.injEq] at hq
      exact (stLit_inj (h3.symm.trans hq.1)).symm
    | some p =>
      rw [hg] at this
      simp only [Prod.mk.injEq] at hq
      exact (stLit_inj ((this.2 (stLit (0, 0))).symm.trans hq.1)).symm
  rw [e]
theorem wpList_put {P : Program} (w : World) {ops : Array Oper} {rest : List Oper} {o : Oper} {a : Act} {Q : Exit → Act → World → Prop} (hP : P = Try.prog)
    (hg : o.guard = none) (m x v : Operand) (hop : o.op = Op.mapUpdate 58 m x v) (b n : Nat) (g : Int → Option (Int × Int))
    (hm : a.eval m = .map (some b)) (h : MapF w b n g) (hn : n < maxLen) (z : Int) (q : Int × Int) (hx : a.eval x = .int .i64 z) (hv : a.eval v = stVal q) (hz : (Lit.int .i64 z).wf = true)
    (hK : ∀ w', MapF w' b (n + 1) (updF g z q) → w.grownBy w' (some b) → wpList P ops Q rest (a.put o.dst undef) w') :
    wpList P ops Q (o :: rest) a w := by
  subst hP
  obtain ⟨R, D, hR, h1, h2⟩ := h
  exact wpList_mapUpdate_own w hg m x v _ hop 3 61 mapLaw Try.underlying58 R b n D hm h1 hn _ _ (keyI z) hx hv (Maps.keyOf_int_mk Try.underlying3 hz) (stLit q) [] (hR.mk1 q)
    (fun w' o' g' => hK w' ⟨R, _, hR, o', tells_put h2 h1.isMap z q⟩ g')
theorem wpList_del {P : Program} (w : World) {ops : Array Oper} {rest : List Oper} {o : Oper} {a : Act} {Q : Exit → Act → World → Prop} (hP : P = Try.prog)
    (hg : o.guard = none) (m x : Operand) (hop : o.op = Op.call { callee := Callee.builtin Builtin.delete, args := #[m, x], argTypes := #[58, 3] }) (b n : Nat) (g : Int → Option (Int × Int))
    (hm : a.eval m = .map (some b)) (h : MapF w b n g) (z : Int) (hx : a.eval x = .int .i64 z) (hz : (Lit.int .i64 z).wf = true)
    (hK : ∀ w', MapF w' b n (delF g z) → w.grownBy w' (some b) → wpList P ops Q rest (a.put o.dst (.tuple #[])) w') :
    wpList P ops Q (o :: rest) a w := by
  subst hP
  obtain ⟨R, D, hR, h1, h2⟩ := h
  exact wpList_delete_own w hg m x _ _ hop 61 mapLaw Try.underlying58 R b n D hm h1 _ (keyI z) hx (Maps.keyOf_int_mk Try.underlying3 hz)
    (fun w' o' g' => hK w' ⟨R, _, hR, o', tells_del h2 z⟩ g'.grown)
/- what a map holds behind some stores -/
def putAll (U : List (Int × (Int × Int))) (g : Int → Option (Int × Int)) : Int → Option (Int × Int) := U.foldl (fun g p => updF g p.1 p.2) g
theorem putAll_snoc (U : List (Int × (Int × Int))) (p : Int × (Int × Int)) (g : Int → Option (Int × Int)) : putAll (U ++ [p]) g = updF (putAll U g) p.1 p.2 := by simp [putAll, List.foldl_append]
theorem putAll_app (U V : List (Int × (Int × Int))) (g : Int → Option (Int × Int)) : putAll (U ++ V) g = putAll V (putAll U g) := by simp [putAll, List.foldl_append]

end Go.Proofs.Ytdcnakpkmgepgaa

namespace Go.Proofs.Ytdcnakpkmgepgaa
open Go.ChangeShapes Go.WideShapes Go.ChangeAt Go.RowKit
set_option linter.unusedVariables false

def nodesL (L : List (Int × Int)) : List Int := L.map (·.1)
def allOf (P : Pl) : List Int := P.fr ++ (P.lv ++ nodesL P.L)
def RisesP (xs : List Int) : Prop := ∀ j, 0 < j → ∀ hj : j < xs.length, xs[j - 1]'(by omega) < xs[j]
def PlacesP (l : List Int) : Prop := ∀ j (hj : j < l.length), 0 ≤ l[j] ∧ l[j] < (l.length : Int) ∧ ¬ l[j] ∈ l.take j
def HoldsAll (l : List Int) : Prop := ∀ k : Nat, k < l.length → (k : Int) ∈ l
def riseB (xs : List Int) : Bool := (List.range xs.length).all fun j => decide (j = 0) || decide (xs.getD (j - 1) 0 < xs.getD j 0)
def placesB (l : List Int) : Bool := (List.range l.length).all fun j => decide (0 ≤ l.getD j 0) && decide (l.getD j 0 < (l.length : Int)) && !decide (l.getD j 0 ∈ l.take j)
theorem getD_of {l : List Int} {j : Nat} (h : j < l.length) : l.getD j 0 = l[j] := by simp [List.getD, h]
theorem riseB_iff (xs : List Int) : riseB xs = true ↔ RisesP xs := by
  unfold riseB
  rw [List.all_eq_true]
  constructor
  · intro h j h0 hj
    have := h j (List.mem_range.2 hj)
    rw [getD_of hj, getD_of (show j - 1 < xs.length by omega)] at this
    simp at this
    rcases this with this | this
    · omega
    · exact this
  · intro h j hj
    have hj := List.mem_range.1 hj
    rw [getD_of hj, getD_of (show j - 1 < xs.length by omega)]
    by_cases h0 : j = 0
    · simp [h0]
    · have := h j (by omega) hj
      simp [this]
theorem placesB_iff (l : List Int) : placesB l = true ↔ PlacesP l := by
  unfold placesB
  rw [List.all_eq_true]
  constructor
  · intro h j hj
    have := h j (List.mem_range.2 hj)
    rw [getD_of hj] at this
    simp only [Bool.and_eq_true, decide_eq_true_eq, Bool.not_eq_true', decide_eq_false_iff_not] at this
    exact ⟨this.1.1, this.1.2, this.2⟩
  · intro h j hj
    have hj := List.mem_range.1 hj
    rw [getD_of hj]
    have := h j hj
    simp only [Bool.and_eq_true, decide_eq_true_eq, Bool.not_eq_true', decide_eq_false_iff_not]
    exact ⟨⟨this.1, this.2.1⟩, this.2.2⟩
def plOkB (P : Pl) : Bool := okB P.a P.ps P.L && decide ((allOf P).length ≤ 100) && riseB P.lv && placesB (allOf P)
theorem bool_no {b : Bool} {p : Prop} (h : b = true ↔ p) (k : ¬ p) : b = false := by
  cases b with
  | false => rfl
  | true => exact absurd (h.1 rfl) k
theorem riseB_no {xs : List Int} {j : Nat} (h0 : 0 < j) (hj : j < xs.length) (h : ¬ xs[j - 1]'(by omega) < xs[j]) : riseB xs = false := bool_no (riseB_iff xs) (fun k => h (k j h0 hj))
theorem riseB_yes {xs : List Int} (h : RisesP xs) : riseB xs = true := (riseB_iff xs).2 h
theorem placesB_no {l : List Int} {j : Nat} (hj : j < l.length) (h : ¬ (0 ≤ l[j] ∧ l[j] < (l.length : Int) ∧ ¬ l[j] ∈ l.take j)) : placesB l = false := bool_no (placesB_iff l) (fun k => h (k j hj))
theorem placesB_yes {l : List Int} (h : PlacesP l) : placesB l = true := (placesB_iff l).2 h
theorem places_nodup {l : List Int} (h : PlacesP l) : l.Nodup ∧ ∀ x ∈ l, 0 ≤ x ∧ x < (l.length : Int) := by
  refine ⟨List.pairwise_iff_getElem.2 fun i j hi hj hij e => (h j hj).2.2 ?_, fun x hx => ?_⟩
  · rw [← e]
    exact List.mem_take_iff_getElem.2 ⟨i, by omega, rfl⟩
  · obtain ⟨j, hj, rfl⟩ := List.mem_iff_getElem.1 hx
    exact ⟨(h j hj).1, (h j hj).2.1⟩
theorem pigeon (n : Nat) : ∀ l : List Int, (∀ x ∈ l, 0 ≤ x ∧ x < (n : Int)) → l.Nodup → l.length ≤ n ∧ (l.length = n → ∀ k : Nat, k < n → (k : Int) ∈ l) := by
  induction n with
  | zero =>
    intro l h _
    cases l with
    | nil => exact ⟨Nat.le_refl _, fun _ k hk => by omega⟩
    | cons x l => have := h x (List.mem_cons_self ..); omega
  | succ n ih =>
    intro l h hn
    by_cases hm : (n : Int) ∈ l
    · have p := List.perm_cons_erase hm
      have hn2 := p.nodup hn
      have h2 : ∀ x ∈ l.erase (n : Int), 0 ≤ x ∧ x < (n : Int) := by
        intro x hx
        have h3 := h x (List.mem_of_mem_erase hx)
        have h4 : x ≠ (n : Int) := fun e => (List.nodup_cons.1 hn2).1 (e ▸ hx)
        omega
      obtain ⟨i1, i2⟩ := ih _ h2 (List.nodup_cons.1 hn2).2
      have hl := p.length_eq
      simp only [List.length_cons] at hl
      refine ⟨by omega, fun e k hk => ?_⟩
      by_cases hkn : k = n
      · subst hkn; exact hm
      · exact List.mem_of_mem_erase (i2 (by omega) k (by omega))
    · have h2 : ∀ x ∈ l, 0 ≤ x ∧ x < (n : Int) := by
        intro x hx
        have h3 := h x hx
        have h4 : x ≠ (n : Int) := fun e => hm (e ▸ hx)
        omega
      obtain ⟨i1, i2⟩ := ih _ h2 hn
      exact ⟨by omega, fun e => by omega⟩
theorem covers (n : Nat) : ∀ l : List Int, l.length = n → (∀ k : Nat, k < n → (k : Int) ∈ l) → (∀ x ∈ l, 0 ≤ x ∧ x < (n : Int)) ∧ l.Nodup := by
  induction n with
  | zero =>
    intro l h _
    obtain rfl := List.length_eq_zero_iff.1 h
    exact ⟨fun x hx => by simp at hx, List.nodup_nil⟩
  | succ n ih =>
    intro l h hk
    have hm := hk n (by omega)
    have p := List.perm_cons_erase hm
    have hl := p.length_eq
    simp only [List.length_cons] at hl
    obtain ⟨i1, i2⟩ := ih (l.erase (n : Int)) (by omega) (fun k hk2 => (List.mem_erase_of_ne (by omega)).2 (hk k (by omega)))
    have hnn : ¬ (n : Int) ∈ l.erase (n : Int) := fun hx => by have := i1 _ hx; omega
    refine ⟨fun x hx => ?_, p.symm.nodup (List.nodup_cons.2 ⟨hnn, i2⟩)⟩
    rcases List.mem_cons.1 (p.mem_iff.1 hx) with rfl | hx
    · omega
    · have := i1 x hx; omega
theorem places_iff (l : List Int) : PlacesP l ↔ HoldsAll l := by
  constructor
  · intro h
    obtain ⟨h1, h2⟩ := places_nodup h
    exact (pigeon l.length l h2 h1).2 rfl
  · intro h j hj
    obtain ⟨h1, h2⟩ := covers l.length l rfl h
    refine ⟨(h1 _ (List.getElem_mem hj)).1, (h1 _ (List.getElem_mem hj)).2, fun hm => ?_⟩
    obtain ⟨i, hi, e⟩ := List.mem_take_iff_getElem.1 hm
    exact List.pairwise_iff_getElem.1 h2 i j (by omega) hj (by omega) e
theorem placesB_hold {l : List Int} (h : HoldsAll l) : placesB l = true := placesB_yes ((places_iff l).2 h)
theorem placesB_lack {l : List Int} {k : Nat} (hk : k < l.length) (h : ¬ (k : Int) ∈ l) : placesB l = false := bool_no (placesB_iff l) (fun p => h ((places_iff l).1 p k hk))
theorem plOk_parts {P : Pl} (h : plOkB P = true) : okB P.a P.ps P.L = true ∧ (allOf P).length ≤ 100 ∧ RisesP P.lv ∧ PlacesP (allOf P) := by
  simp only [plOkB, Bool.and_eq_true] at h
  obtain ⟨⟨⟨h1, h2⟩, h3⟩, h4⟩ := h
  exact ⟨h1, of_decide_eq_true h2, (riseB_iff _).1 h3, (placesB_iff _).1 h4⟩
theorem plOk_no1 {P : Pl} (h : okB P.a P.ps P.L = false) : plOkB P = false := by simp [plOkB, h]
theorem plOk_no2 {P : Pl} (h : ¬ (allOf P).length ≤ 100) : plOkB P = false := by simp [plOkB, h]
theorem plOk_no3 {P : Pl} (h : riseB P.lv = false) : plOkB P = false := by simp [plOkB, h]
theorem plOk_no4 {P : Pl} (h : placesB (allOf P) = false) : plOkB P = false := by simp [plOkB, h]
theorem plOk_yes {P : Pl} (h1 : okB P.a P.ps P.L = true) (h2 : (allOf P).length ≤ 100) (h3 : riseB P.lv = true) (h4 : placesB (allOf P) = true) : plOkB P = true := by simp [plOkB, h1, h2, h3, h4]
theorem allOf_len (P : Pl) : (allOf P).length = P.fr.length + P.lv.length + P.L.length := by simp [allOf, nodesL]; omega
/- where each place is: 1 free, 2 alive, 3 in limbo -/
def stU (P : Pl) : List (Int × (Int × Int)) := P.fr.map (fun z => (z, (1, 0))) ++ (P.lv.map (fun z => (z, (2, 0))) ++ P.L.map (fun q => (q.1, (3, q.2))))
def stF (P : Pl) : Int → Option (Int × Int) := putAll (stU P) (fun _ => none)
theorem stU_keys (P : Pl) : (stU P).map (·.1) = allOf P := by simp [stU, allOf, nodesL, List.map_map, Function.comp_def]
theorem putAll_old (U : List (Int × (Int × Int))) (g : Int → Option (Int × Int)) (z : Int) (h : ¬ z ∈ U.map (·.1)) : putAll U g z = g z := by
  induction U generalizing g with
  | nil => rfl
  | cons p U ih =>
    simp only [List.map_cons, List.mem_cons, not_or] at h
    show putAll U (updF g p.1 p.2) z = g z
    rw [ih _ h.2]
    simp [updF, h.1]
theorem putAll_mem (U : List (Int × (Int × Int))) (g : Int → Option (Int × Int)) (z : Int) (h : z ∈ U.map (·.1)) : ∃ q, putAll U g z = some q ∧ (z, q) ∈ U := by
  induction U generalizing g with
  | nil => simp at h
  | cons p U ih =>
    by_cases hz : z ∈ U.map (·.1)
    · obtain ⟨q, h1, h2⟩ := ih (updF g p.1 p.2) hz
      exact ⟨q, h1, List.mem_cons_of_mem _ h2⟩
    · have hp : z = p.1 := by simpa [hz] using h
      refine ⟨p.2, ?_, by rw [hp]; exact List.mem_cons_self ..⟩
      show putAll U (updF g p.1 p.2) z = some p.2
      rw [putAll_old U _ z hz]
      simp [updF, hp]
theorem putAll_nodup (U : List (Int × (Int × Int))) (g : Int → Option (Int × Int)) (hn : (U.map (·.1)).Nodup) (z : Int) (q : Int × Int) (h : (z, q) ∈ U) : putAll U g z = some q := by
  obtain ⟨q', h1, h2⟩ := putAll_mem U g z (List.mem_map.2 ⟨_, h, rfl⟩)
  rw [h1]
  obtain ⟨i, hi, ei⟩ := List.mem_iff_getElem.1 h
  obtain ⟨j, hj, ej⟩ := List.mem_iff_getElem.1 h2
  have hp := List.pairwise_iff_getElem.1 hn
  have key : i = j := by
    rcases Nat.lt_trichotomy i j with hlt | rfl | hlt
    · exact absurd (by rw [List.getElem_map, List.getElem_map, ei, ej]) (hp i j (by simpa using hi) (by simpa using hj) hlt)
    · rfl
    · exact absurd (by rw [List.getElem_map, List.getElem_map, ei, ej]) (hp j i (by simpa using hj) (by simpa using hi) hlt)
  subst key
  rw [ei] at ej
  cases ej
  rfl
theorem stF_none (P : Pl) (z : Int) (h : ¬ z ∈ allOf P) : stF P z = none := putAll_old _ _ _ (by rw [stU_keys]; exact h)
theorem stF_some (P : Pl) (z : Int) (h : z ∈ allOf P) : ∃ q, stF P z = some q ∧ q.1 ≠ 0 := by
  obtain ⟨q, h1, h2⟩ := putAll_mem (stU P) (fun _ => none) z (by rw [stU_keys]; exact h)
  refine ⟨q, h1, ?_⟩
  simp only [stU, List.mem_append, List.mem_map] at h2
  rcases h2 with ⟨y, -, e⟩ | ⟨y, -, e⟩ | ⟨y, -, e⟩ <;> (cases e; simp)

end Go.Proofs.Ytdcnakpkmgepgaa

namespace Go.Proofs.Ytdcnakpkmgepgaa
open Go.ChangeShapes Go.WideShapes Go.ChangeAt Go.RowKit
set_option linter.unusedVariables false

def SrcS (w : World) (size : Nat) (x : Value) (m : Nat) (news : List Value) : Prop :=
  (∃ a c, x = .slice a 0 c ∧ m = 0 ∧ news = []) ∨ ∃ ad c, x = .slice (some ad) m c ∧ news.length = m * size ∧ (∀ j u, news[j]? = some u → w.cell? (ad.add j) = some u) ∧ ∀ u ∈ news, u.oneCell' = true
theorem add_none (b o j : Nat) : (⟨b, o, none⟩ : Addr).add j = ⟨b, o + j, none⟩ := by unfold Addr.add; split <;> simp_all
theorem src_ints {w : World} {v : Value} {xs : List Int} (h : IntsIn w v xs) : SrcS w 1 v xs.length (ints xs) := by
  obtain ⟨⟨a, c, rfl, h⟩, -⟩ := h
  rcases h with rfl | ⟨b, off, rfl, hb, hc⟩
  · exact .inl ⟨a, c, rfl, rfl, rfl⟩
  · refine .inr ⟨_, c, rfl, by simp, fun j u hj => ?_, ints_one xs⟩
    obtain ⟨hj1, rfl⟩ := List.getElem?_eq_some_iff.1 hj
    rw [add_none, List.getElem_map]
    exact hc j (by simpa using hj1)
section
variable {P : Program} (w : World)
theorem run_append_src (t ty : TypeId) (base : Nat) (e : TypeId) (i : TypeInfo) (z : Value) (size bytes : Nat) (ht : P.underlying t = some (.slice e)) (hi : P.info? e = some i) (hz : i.zero = some z)
    (hsize : i.size = size) (hby : i.bytes = bytes) (hzs : z.cells.size = size) (hsz : 0 < size)
    (v : Value) (n : Nat) (xs : List Value) (hown : w.ownsRow base e size v n xs) (x : Value) (m : Nat) (news : List Value) (hx : SrcS w size x m news)
    (h63 : n + m ≤ maxLen) (hbytes : (n + m) * bytes ≤ 140737488355328) (hbase : base ≤ w.heap.size) :
    ∃ v' w', (Builtin.append_ #[t, t] ty #[v, x]).run P w = .ok v' w' ∧ w'.ownsRow base e size v' (n + m) (xs ++ news) ∧ w.grownBy w' v.ownBlock ∧ (v'.ownBlock = v.ownBlock ∨ v'.ownBlock = some w.heap.size) := by
  rcases hx with ⟨a, c, rfl, rfl, rfl⟩ | ⟨ad, c, rfl, hl, hnews, h1⟩
  · obtain ⟨a', c', hv, hle⟩ : ∃ a' c', v = .slice a' n c' ∧ n ≤ c' := by
      rcases hown.2 with ⟨h1, h2⟩ | ⟨g, cap, cur, h1, -, -, h4, -⟩
      · exact ⟨none, 0, by rw [h1, h2], by omega⟩
      · exact ⟨_, cap, h1, h4⟩
    have hs : Src P i.size t (.slice a 0 c) 0 [] w := by
      cases a with
      | none => exact Src.ofNil w ht c
      | some ad => exact Src.ofSlice w ht ad 0 c [] (by simp) (fun j u h => by simp at h) (fun u h => by cases h)
    have hr := run_append_nothing w t t ty e i ht hi a' n c' hle _ hs
    rw [← hv] at hr
    exact ⟨v, w, hr, by rw [Nat.add_zero, List.append_nil]; exact hown, ⟨rfl, rfl, rfl, Nat.le_refl _, fun _ _ _ => rfl⟩, .inl rfl⟩
  · obtain ⟨v', w', hr, h2, h3, _, h5⟩ := run_append_own_at (P := P) w base t ty e i z size bytes ht hi hz hsize hby hzs hsz v n xs hown ad m c news hl hnews h1 h63 hbytes hbase
    exact ⟨v', w', hr, h2, h3, h5⟩
theorem wp_append_src {o : Oper} {a : Act} {K : Act → World → Prop} {Q : Exit → Act → World → Prop} (s x : Operand) (t : TypeId)
    (ho : o.op = .call { callee := .builtin .append, args := #[s, x], argTypes := #[t, t] })
    (base : Nat) (e : TypeId) (i : TypeInfo) (z : Value) (size bytes : Nat) (ht : P.underlying t = some (.slice e)) (hi : P.info? e = some i) (hz : i.zero = some z)
    (hsize : i.size = size) (hby : i.bytes = bytes) (hzs : z.cells.size = size) (hsz : 0 < size)
    (v : Value) (n : Nat) (xs : List Value) (hs : a.eval s = v) (hown : w.ownsRow base e size v n xs) (y : Value) (m : Nat) (news : List Value) (hy : a.eval x = y) (hx : SrcS w size y m news)
    (h63 : n + m ≤ maxLen) (hbytes : (n + m) * bytes ≤ 140737488355328) (hbase : base ≤ w.heap.size)
    (h : ∀ v' w', w'.ownsRow base e size v' (n + m) (xs ++ news) → w.grownBy w' v.ownBlock → (v'.ownBlock = v.ownBlock ∨ v'.ownBlock = some w.heap.size) → K (a.put o.dst v') w') : Oper.wp P o a w K Q := by
  obtain ⟨v', w', hr, h2, h3, h4⟩ := run_append_src (P := P) w t o.type base e i z size bytes ht hi hz hsize hby hzs hsz v n xs hown y m news hx h63 hbytes hbase
  unfold Oper.wp execOp
  simp only [ho, resolve, invoke, builtin, Sem.run_bind, Sem.run_pure, Result.andThen_ok, List.map_toArray, List.map_cons, List.map_nil, hs, hy, hr]
  exact h v' w' h2 h3 h4
theorem wpList_append_src {ops : Array Oper} {rest : List Oper} {o : Oper} {a : Act} {Q : Exit → Act → World → Prop} (hgd : o.guard = none) (s x : Operand) (t : TypeId)
    (ho : o.op = .call { callee := .builtin .append, args := #[s, x], argTypes := #[t, t] })
    (base : Nat) (e : TypeId) (i : TypeInfo) (z : Value) (size bytes : Nat) (ht : P.underlying t = some (.slice e)) (hi : P.info? e = some i) (hz : i.zero = some z)
    (hsize : i.size = size) (hby : i.bytes = bytes) (hzs : z.cells.size = size) (hsz : 0 < size)
    (v : Value) (n : Nat) (xs : List Value) (hs : a.eval s = v) (hown : w.ownsRow base e size v n xs) (y : Value) (m : Nat) (news : List Value) (hy : a.eval x = y) (hx : SrcS w size y m news)
    (h63 : n + m ≤ maxLen) (hbytes : (n + m) * bytes ≤ 140737488355328) (hbase : base ≤ w.heap.size)
    (h : ∀ v' w', w'.ownsRow base e size v' (n + m) (xs ++ news) → w.grownBy w' v.ownBlock → (v'.ownBlock = v.ownBlock ∨ v'.ownBlock = some w.heap.size) → wpList P ops Q rest (a.put o.dst v') w') : wpList P ops Q (o :: rest) a w :=
  wpList_plain hgd fun _ hK => wp_append_src w s x t ho base e i z size bytes ht hi hz hsize hby hzs hsz v n xs hs hown y m news hy hx h63 hbytes hbase fun v' w' h2 h3 h4 => hK _ _ (h v' w' h2 h3 h4)
theorem step_append_src {ops : Array Oper} {o : Oper} {a : Act} {K : Act → World → Prop} {Q : Exit → Act → World → Prop} {E : Prop} (hgd : o.guard = none) (s x : Operand) (t : TypeId)
    (ho : o.op = .call { callee := .builtin .append, args := #[s, x], argTypes := #[t, t] })
    (base : Nat) (e : TypeId) (i : TypeInfo) (z : Value) (size bytes : Nat) (ht : P.underlying t = some (.slice e)) (hi : P.info? e = some i) (hz : i.zero = some z)
    (hsize : i.size = size) (hby : i.bytes = bytes) (hzs : z.cells.size = size) (hsz : 0 < size)
    (v : Value) (n : Nat) (xs : List Value) (hs : a.eval s = v) (hown : w.ownsRow base e size v n xs) (y : Value) (m : Nat) (news : List Value) (hy : a.eval x = y) (hx : SrcS w size y m news)
    (h63 : n + m ≤ maxLen) (hbytes : (n + m) * bytes ≤ 140737488355328) (hbase : base ≤ w.heap.size)
    (h : ∀ v' w', w'.ownsRow base e size v' (n + m) (xs ++ news) → w.grownBy w' v.ownBlock → (v'.ownBlock = v.ownBlock ∨ v'.ownBlock = some w.heap.size) → K (a.put o.dst v') w') : if Region.wanted o (yielded ops a.tmps) = true then Oper.wp P o a w K Q else E := by
  have hw : Region.wanted o (yielded ops a.tmps) = true := by simp [Region.wanted, hgd]
  rw [if_pos hw]
  exact wp_append_src w s x t ho base e i z size bytes ht hi hz hsize hby hzs hsz v n xs hs hown y m news hy hx h63 hbytes hbase h
end
/- an owned row, cut to nothing -/
theorem own_cut {w : World} {base : Nat} {e : TypeId} {size g n cap : Nat} {xs : List Value} (h : w.ownsRow base e size (.slice (some ⟨g, 0, none⟩) n cap) n xs) : w.ownsRow base e size (.slice (some ⟨g, 0, none⟩) 0 cap) 0 [] := by
  rcases h.2 with ⟨h1, -⟩ | ⟨g', cap', cur, h1, h2, h3, h4, h5, h6, h7⟩
  · cases h1
  · simp at h1
    obtain ⟨rfl, rfl⟩ := h1
    exact ⟨by simp, .inr ⟨_, _, cur, rfl, h2, h3, Nat.zero_le _, h5, h6, by simp⟩⟩
theorem own_nil (w : World) (base : Nat) (e : TypeId) (size : Nat) : w.ownsRow base e size (.slice none 0 0) 0 [] := ⟨by simp, .inl ⟨rfl, rfl⟩⟩
theorem IntsIn.tail {w : World} {b off n c : Nat} {x : Int} {xs : List Int} (h : IntsIn w (.slice (some ⟨b, off, none⟩) n c) (x :: xs)) (c' : Nat) : IntsIn w (.slice (some ⟨b, off + 1, none⟩) xs.length c') xs := by
  obtain ⟨⟨a, c2, hv, h⟩, -⟩ := h
  simp at hv
  obtain ⟨rfl, rfl, rfl⟩ := hv
  rcases h with h | ⟨b', off', hb, h1, h2⟩
  · cases h
  · simp at hb
    obtain ⟨rfl, rfl⟩ := hb
    refine ⟨⟨_, c', rfl, .inr ⟨b, off + 1, rfl, h1, fun j hj => ?_⟩⟩, _, c', rfl, trivial⟩
    have := h2 (j + 1) (by simpa using hj)
    rw [show off + 1 + j = off + (j + 1) by omega, this]
    simp
theorem IntsIn.none (w : World) (a : Option Addr) (c : Nat) : IntsIn w (.slice a 0 c) [] := ⟨⟨a, c, rfl, .inl rfl⟩, a, c, rfl, trivial⟩
theorem own_form {w : World} {base : Nat} {e : TypeId} {v : Value} {n size : Nat} {xs : List Value} (h : w.ownsRow base e size v n xs) : ∃ a c, v = .slice a n c := by
  rcases own_cells2 h with ⟨h1, h2, -⟩ | ⟨g, cc, h1, -⟩
  · exact ⟨none, 0, by rw [h1, h2]⟩
  · exact ⟨_, cc, h1⟩
theorem own_form3 {w : World} {base : Nat} {e : TypeId} {v : Value} {n size : Nat} {xs : List Value} (h : w.ownsRow base e size v n xs) : ∃ a m c, v = .slice a m c := by
  obtain ⟨a, c, h⟩ := own_form h
  exact ⟨a, n, c, h⟩

end Go.Proofs.Ytdcnakpkmgepgaa

namespace Go.Proofs.Ytdcnakpkmgepgaa
open Go.ChangeShapes Go.WideShapes Go.ChangeAt Go.RowKit
set_option linter.unusedVariables false

def stGo (xs : List Int) (n : Int) : Nat → Int → List Int → List Int
  | 0, _, _ => []
  | f + 1, i, out => if i = 0 then out else if (1 ≤ i ∧ i ≤ n) ∧ ¬ (i - 1) ∈ out then stGo xs n f (xs.getD i.toNat 0) (out ++ [i - 1]) else []
def stItems (n : Int) (xs : List Int) : List Int :=
  if szB n = true ∧ (xs.length : Int) = 1 + n then (if unB (xs.getD 0 0) = true then stGo xs n (n.toNat + 1) (unI (xs.getD 0 0)) [] else []) else []
theorem stGo_end (xs : List Int) (n : Int) (f : Nat) (out : List Int) : stGo xs n (f + 1) 0 out = out := by rw [stGo, if_pos rfl]
theorem stGo_step (xs : List Int) (n : Int) (f : Nat) (i : Int) (out : List Int) (h0 : i ≠ 0) (h : (1 ≤ i ∧ i ≤ n) ∧ ¬ (i - 1) ∈ out) : stGo xs n (f + 1) i out = stGo xs n f (xs.getD i.toNat 0) (out ++ [i - 1]) := by rw [stGo, if_neg h0, if_pos h]
theorem stGo_bad (xs : List Int) (n : Int) (f : Nat) (i : Int) (out : List Int) (h0 : i ≠ 0) (h : ¬ ((1 ≤ i ∧ i ≤ n) ∧ ¬ (i - 1) ∈ out)) : stGo xs n (f + 1) i out = [] := by rw [stGo, if_neg h0, if_neg h]
theorem stGo_len (xs : List Int) (n : Int) (f : Nat) : ∀ (i : Int) (out : List Int), (stGo xs n f i out).length ≤ out.length + f := by
  induction f with
  | zero => intro i out; simp [stGo]
  | succ f ih =>
    intro i out
    by_cases h0 : i = 0
    · subst h0; rw [stGo_end]; omega
    · by_cases h : (1 ≤ i ∧ i ≤ n) ∧ ¬ (i - 1) ∈ out
      · rw [stGo_step xs n f i out h0 h]
        have := ih (xs.getD i.toNat 0) (out ++ [i - 1])
        simp at this ⊢
        omega
      · rw [stGo_bad xs n f i out h0 h]; simp
theorem stItems_len (n : Int) (xs : List Int) : (stItems n xs).length ≤ 17 := by
  unfold stItems
  by_cases h : szB n = true ∧ (xs.length : Int) = 1 + n
  · rw [if_pos h]
    have hb : 1 ≤ n ∧ n ≤ 16 := of_decide_eq_true h.1
    split
    · have := stGo_len xs n (n.toNat + 1) (unI (xs.getD 0 0)) []
      simp at this ⊢
      omega
    · simp
  · rw [if_neg h]; simp
theorem few (n : Nat) : ∀ l : List Int, l.Nodup → (∀ x ∈ l, 0 ≤ x ∧ x < (n : Int)) → l.length ≤ n := by
  induction n with
  | zero =>
    intro l _ h
    cases l with
    | nil => simp
    | cons a t => have := h a (by simp); omega
  | succ n ih =>
    intro l hd h
    by_cases hm : (n : Int) ∈ l
    · have h1 := ih (l.erase (n : Int)) (hd.erase _) (fun x hx => by
        have hx' := (List.Nodup.mem_erase_iff hd).1 hx
        have := h x hx'.2
        omega)
      have h2 := List.length_erase_of_mem hm
      omega
    · have := ih l hd (fun x hx => by
        have h1 := h x hx
        have : x ≠ (n : Int) := fun e => hm (e ▸ hx)
        omega)
      omega
def hasN (xs : List Int) (y : Int) : Bool := decide (y ∈ xs)
def sliceLen (v : Value) : Nat := match v with | .slice _ n _ => n | _ => 0

end Go.Proofs.Ytdcnakpkmgepgaa

namespace Go.Proofs.Ytdcnakpkmgepgaa
open Go.ChangeShapes Go.WideShapes Go.ChangeAt Go.RowKit
set_option linter.unusedVariables false

def inB (x lo hi : Int) : Bool := decide (lo ≤ x ∧ x ≤ hi)

end Go.Proofs.Ytdcnakpkmgepgaa

namespace Go.Proofs.Ytdcnakpkmgepgaa
open Go.ChangeShapes Go.WideShapes Go.ChangeAt Go.RowKit
set_option linter.unusedVariables false

theorem spec_has_zero (a : Option Addr) (c : Nat) (y : Int) (w : World) :
    Calls Try.prog 33 #[.slice a 0 c, .int .i64 y] w fun e w' => e = .returned (.bool false) ∧ w' = w := by
  go_enter Try.func33, Try.ntmps33
  go_wp2
  go_loop [9] (fun i => i = .int .i64 0) (fun _ => 0)
  case atStart => rfl
  case round =>
    subst hrel
    go_wp2
    go_ret
    exact ⟨rfl, rfl⟩
theorem take_hit {xs : List Int} {y : Int} {k : Nat} (hk : k < xs.length) (h : xs[k] = y) : hasN xs y = true := decide_eq_true (h ▸ List.getElem_mem hk)
theorem take_end {xs : List Int} {y : Int} {k : Nat} (hk : ¬ k < xs.length) (h : ¬ y ∈ xs.take k) : hasN xs y = false := by
  rw [List.take_of_length_le (by omega)] at h
  exact decide_eq_false h
theorem take_miss {xs : List Int} {y : Int} {k : Nat} (hk : k < xs.length) (h : ¬ xs[k] = y) (h2 : ¬ y ∈ xs.take k) : ¬ y ∈ xs.take (k + 1) := by
  rw [List.take_succ_eq_append_getElem hk]
  simp only [List.mem_append, List.mem_singleton]
  rintro (h3 | h3)
  · exact h2 h3
  · exact h h3.symm
set_option maxHeartbeats 400000 in
set_option maxRecDepth 100000 in
theorem spec_has_some (g c : Nat) (xs : List Int) (y : Int) (w : World) (hn : xs.length ≤ 4194304) (hA : ∀ j (hj : j < xs.length), w.cell? ⟨g, j, none⟩ = some (.int .i64 xs[j])) :
    Calls Try.prog 33 #[.slice (some ⟨g, 0, none⟩) xs.length c, .int .i64 y] w fun e w' => e = .returned (.bool (hasN xs y)) ∧ w' = w := by
  have HA := hidIt hA
  clear hA
  go_enter Try.func33, Try.ntmps33
  go_wp2
  go_loop [6, 9] (fun _ i => ∃ k : Nat, k ≤ xs.length ∧ i = .int .i64 k ∧ Hid (¬ y ∈ xs.take k)) (fun _ i => xs.length - (intOf i).toNat)
  case atStart => exact ⟨0, Nat.zero_le _, rfl, by show ¬ y ∈ xs.take 0; simp⟩
  case round =>
    obtain ⟨k, hk, rfl, HT⟩ := hrel
    by_cases hlt : k < xs.length
    · have cA := HA.out k hlt
      have hlt' : (k : Int) < (xs.length : Int) := by omega
      obtain ⟨x, hx⟩ : ∃ x, xs[k] = x := ⟨_, rfl⟩
      rw [hx] at cA
      have HX := hidIt hx
      clear hx
      by_cases he : x = y
      · have HE := hidIt he
        have hb : (x == y) = true := by simpa using he
        clear he
        go_wp2
        go_ret
        exact ⟨ret_boolx (take_hit hlt (HX.out.trans HE.out)).symm, rfl⟩
      · have HE := hidIt he
        have hb : (x == y) = false := by simpa using he
        clear he
        go_wp2
        go_round
        case rel => exact ⟨k + 1, by omega, by go_num, take_miss hlt (by rw [HX.out]; exact HE.out) HT.out⟩
        case measure => simp [intOf]; omega
    · go_wp2
      go_ret
      exact ⟨ret_boolx (take_end hlt HT.out).symm, rfl⟩
theorem spec_has (lo hi : Nat) (v : Value) (xs : List Int) (y : Int) (w : World) (hn : xs.length ≤ 4194304) (r : Row w lo hi v (ints xs)) :
    Calls Try.prog 33 #[v, .int .i64 y] w fun e w' => e = .returned (.bool (hasN xs y)) ∧ w' = w := by
  by_cases h0 : 0 < xs.length
  · obtain ⟨g, c, rfl, -, -, g3, -⟩ := r.ofSome h0
    exact spec_has_some g c xs y w hn g3
  · obtain rfl : xs = [] := List.length_eq_zero_iff.1 (by omega)
    obtain ⟨a, c, rfl⟩ := r.form
    exact spec_has_zero a c y w

end Go.Proofs.Ytdcnakpkmgepgaa

namespace Go.Proofs.Ytdcnakpkmgepgaa
open Go.ChangeShapes Go.WideShapes Go.ChangeAt Go.RowKit
set_option linter.unusedVariables false

theorem ints_of_owns {w w' : World} {base : Nat} {e : TypeId} {v : Value} {n : Nat} {xs : List Int} (h : w'.ownsRow base e 1 v n (ints xs)) (hb : w.heap.size ≤ base) (hw : Below w.heap.size w w') : IntsNew w w' v xs := by
  rcases own_cells h with ⟨rfl, hn, hx⟩ | ⟨g, cap, rfl, h1, h2, h3, h4, h5, h6, h7⟩
  · have : xs = [] := by simpa using hx
    subst this
    exact ⟨[], ⟨none, 0, rfl, trivial, .inl ⟨rfl, rfl⟩⟩, List.nodup_nil, by simp, hw⟩
  · rw [ints_len] at h5
    refine ⟨[g], ⟨_, cap, by rw [h5], trivial, .inr ⟨g, rfl, rfl, h2, fun j hj => ?_, h7⟩⟩, by simp, by simp; omega, hw⟩
    rw [h6 j (by simpa using hj)]
    simp

end Go.Proofs.Ytdcnakpkmgepgaa

namespace Go.Proofs.Ytdcnakpkmgepgaa
open Go.ChangeShapes Go.WideShapes Go.ChangeAt Go.RowKit
set_option linter.unusedVariables false

theorem bel_al {W0 W : World} (h : Below W0.heap.size W0 W) (o : Obj) : Below W0.heap.size W0 (W.alloc o) := h.alloc h.size o
theorem bel_call {W0 W Y : World} (h : Below W0.heap.size W0 W) (k : Below W.heap.size W Y) : Below W0.heap.size W0 Y := h.trans (k.mono h.size)
theorem bel_two {w W0 W : World} (h : Below w.heap.size w W0) (k : Below W0.heap.size W0 W) : Below w.heap.size w W := h.trans (k.mono h.size)
theorem bel_grown {W0 W Y : World} {q : Option Nat} (h : Below W0.heap.size W0 W) (g : W.grownBy Y q) (hq : ∀ j, q = some j → W0.heap.size ≤ j) : Below W0.heap.size W0 Y := h.grown g h.size hq
theorem own_new {W : World} {lo g : Nat} {e : TypeId} {size : Nat} (hg : g = W.heap.size) (hl : lo ≤ g) : (W.alloc (.cells #[] e)).ownsRow lo e size (.slice (some ⟨g, 0, none⟩) 0 0) 0 [] := own_empty (at_new hg) hl
theorem own_new_drew {W : World} {lo g : Nat} {e : TypeId} {size : Nat} (hg : g = W.heap.size) (hl : lo ≤ g) : (W.alloc (.cells #[] e)).drew.ownsRow lo e size (.slice (some ⟨g, 0, none⟩) 0 0) 0 [] := own_empty (at_drew (at_new hg)) hl
theorem step_ints {w : World} {ops : Array Oper} {o : Oper} {a : Act} {K : Act → World → Prop} {Q : Exit → Act → World → Prop} {E : Prop} (hgd : o.guard = none) (s x : Operand)
    (ho : o.op = .call { callee := .builtin .append, args := #[s, x], argTypes := #[22, 22] }) (base : Nat) (v : Value) (xs : List Int) (hs : a.eval s = v) (hown : w.ownsRow base 3 1 v xs.length (ints xs))
    (y : Value) (ys : List Int) (hy : a.eval x = y) (hx : IntsIn w y ys) (h63 : xs.length + ys.length ≤ 16777216) (hbase : base ≤ w.heap.size)
    (h : ∀ v' w', w'.ownsRow base 3 1 v' (xs ++ ys).length (ints (xs ++ ys)) → w.grownBy w' v.ownBlock → (v'.ownBlock = v.ownBlock ∨ v'.ownBlock = some w.heap.size) → K (a.put o.dst v') w') : if Region.wanted o (yielded ops a.tmps) = true then Oper.wp Try.prog o a w K Q else E := by
  obtain ⟨i0, hi0, hz0, hz1, hz2⟩ := info_parts info3
  refine step_append_src w hgd s x 22 ho base 3 i0 (.int .i64 0) 1 8 Try.underlying22 hi0 hz0 hz1 hz2 rfl (by decide) v xs.length (ints xs) hs hown y ys.length (ints ys) hy (src_ints hx) (by unfold maxLen; omega) (by omega) hbase ?_
  intro v' w' h1 h2 h3
  exact h v' w' (by simpa using h1) h2 h3
theorem nodes_take (L : List (Int × Int)) (k : Nat) (hk : k < L.length) : (nodesL L).take (k + 1) = (nodesL L).take k ++ [(goneAt L k).1] := by
  unfold nodesL
  rw [List.take_succ_eq_append_getElem (by simpa using hk), List.getElem_map, goneAt_eq L k hk]
theorem nodes_all (L : List (Int × Int)) : (nodesL L).take L.length = nodesL L := List.take_of_length_le (by simp [nodesL])
theorem own_grow2 {w w' : World} {base : Nat} {e : TypeId} {size n : Nat} {v : Value} {xs : List Value} (h : w.ownsRow base e size v n xs) (hb : Below w.heap.size w w') : w'.ownsRow base e size v n xs := own_below h hb
set_option maxHeartbeats 1600000 in
set_option maxRecDepth 100000 in
theorem spec_all (w : World) (f p l v : Value) (P : Pl) (hf : PlFit P) (h : PlIn w f p l v P) :
    Calls Try.prog 31 #[.agg #[f, .int .i64 P.a, p, l, v]] w fun e w' => ∃ v', e = .returned v' ∧ w'.ownsRow (w.heap.size + 1) 3 1 v' (allOf P).length (ints (allOf P)) ∧ Below w.heap.size w w' := by
  obtain ⟨i0, hi0, hz0, hz1, hz2⟩ := info_parts info3
  have H := hidIt h
  have HF := hidIt hf
  obtain ⟨fa, fc, pa, pc, la, lc, va, vc, rfl, rfl, rfl, rfl⟩ := h.form
  clear h
  unfold PlFit at hf
  go_enter Try.func31, Try.ntmps31
  go_wp2_with fail
  generalize hW : World.alloc w _ = W0
  have X := Bx.new w #[.slice fa P.fr.length fc, .int .i64 P.a, .slice pa P.ps.length pc, .slice la P.L.length lc, .slice va P.lv.length vc] 34
  have bW : Below w.heap.size w W0 := by rw [← hW]; exact (Below.refl _ _).alloc (Nat.le_refl _) _
  have zW : W0.heap.size = w.heap.size + 1 := by rw [← hW]; simp
  rw [hW] at X
  clear hW
  have HX := hidIt X
  have BW := hidIt bW
  clear X bW
  have q0 := HX.out.2.1 0
  have q4 := HX.out.2.1 4
  simp at q0 q4
  have SO := hidIt (fun W (hb : Below W0.heap.size W0 W) => (⟨hb, below_cell hb HX.out.1 q0, below_cell hb HX.out.1 q4⟩ : Below W0.heap.size W0 W ∧ W.cell? ⟨w.heap.size, 0, none⟩ = some (.slice fa P.fr.length fc) ∧ W.cell? ⟨w.heap.size, 4, none⟩ = some (.slice va P.lv.length vc)))
  have hS := SO.out W0 (Below.refl _ _)
  clear q0 q4
  go_cut [3] from 6 to 12 (fun x3 wc => wc.ownsRow (w.heap.size + 1) 3 1 x3 (P.fr.length + P.lv.length) (ints (P.fr ++ P.lv)) ∧ Below W0.heap.size W0 wc)
  case first =>
    go_region_held3 (fun W => Below W0.heap.size W0 W ∧ W.cell? ⟨w.heap.size, 0, none⟩ = some (.slice fa P.fr.length fc) ∧ W.cell? ⟨w.heap.size, 4, none⟩ = some (.slice va P.lv.length vc))
      (first | exact SO.out _ (by assumption) | exact SO.out _ (Below.drew (And.left (by assumption))) | exact SO.out _ (bel_al (And.left (by assumption)) _))
      (first
      | (refine step_ints rfl (.tmp 6) (.tmp 8) rfl (w.heap.size + 1) (.slice (some ⟨w.heap.size + 1, 0, none⟩) 0 0) [] rfl ?_ _ P.fr rfl ?_ (by simp; omega) ?_ ?_; (focus (first | exact own_new_drew zW.symm (Nat.le_refl _) | exact own_new zW.symm (Nat.le_refl _))); (focus (exact H.out.fr.below (bel_two BW.out (And.left (by assumption))))); (focus (exact Nat.le_trans (Nat.le_of_eq zW.symm) (Below.size (And.left (by assumption))))); intro v1 w1 ho1 hg1 _; have hb1 : Below W0.heap.size W0 w1 := bel_grown (And.left (by assumption)) hg1 (fun q hq => by simp [Value.ownBlock] at hq; omega))
      | (refine step_ints rfl (.tmp 9) (.tmp 11) rfl (w.heap.size + 1) _ ([] ++ P.fr) rfl ?_ _ P.lv rfl ?_ (by simp; omega) ?_ ?_; (focus (exact ho1)); (focus (exact H.out.lv.below (bel_two BW.out (And.left (by assumption))))); (focus (exact Nat.le_trans (Nat.le_of_eq zW.symm) (Below.size (And.left (by assumption))))); intro v2 w2 ho2 hg2 _; have hb2 : Below W0.heap.size W0 w2 := bel_grown (And.left (by assumption)) hg2 (fun q hq => by have := (ho1.lt q hq).1; omega)))
    all_goals
      go_wp2_with fail
      go_meet
      exact ⟨by simpa using ho2, hb2⟩
  case rest =>
  obtain ⟨ho, hb⟩ := hcut
  rename World => w1
  have HO := hidIt ho
  have BB := hidIt (bel_two BW.out hb)
  have zz := hb.size
  have k3 := (HX.out.below hb).2.1 3
  have hl1 := (HX.out.below hb).1
  simp at k3
  clear ho hb SO hS
  go_wp2_with fail
  go_loopg [3, 17] P.L.length (fun gk v i wr => ∃ k : Nat, k ≤ P.L.length ∧ gk = P.L.length - k ∧ i = .int .i64 k ∧ wr.ownsRow (w.heap.size + 1) 3 1 v (P.fr.length + P.lv.length + k) (ints (P.fr ++ P.lv ++ (nodesL P.L).take k)) ∧ w.heap.size + 1 ≤ wr.heap.size ∧ Below w.heap.size w wr)
  case atStart => exact ⟨0, Nat.zero_le _, rfl, rfl, by simpa using HO.out, by omega, BB.out⟩
  case round =>
    rename World => wr
    obtain ⟨k, hk, hgk, rfl, hown, hz, hbw⟩ := hrel
    have HG := hidIt hgk
    clear hgk
    by_cases hlt : k < P.L.length
    · have hlt' : (k : Int) < (P.L.length : Int) := by omega
      obtain ⟨la', lc', hv, -, hp⟩ := H.out.ag.limbo.below hbw
      simp at hv
      obtain ⟨rfl, rfl⟩ := hv
      rcases hp with hp | ⟨b, off, rfl, hb, hp⟩
      · rw [hp] at hlt; simp at hlt
      have c1 := (PIn.at hp k hlt).1
      have c2 := (PIn.at hp k hlt).2
      have HS := hidIt (nodes_take P.L k hlt)
      have HO := hidIt (Row.of_owns hown)
      obtain ⟨av, cv, hv⟩ := own_form hown
      subst hv
      have zz2 := hbw.size
      clear hp
      generalize (goneAt P.L k).2 = y at c2
      generalize (goneAt P.L k).1 = q at c1 HS
      go_wp2_with (at_builtin; refine wpList_append_own _ rfl _ _ 22 rfl (w.heap.size + 1) 3 i0 (.int .i64 0) 1 8 Try.underlying22 hi0 hz0 hz1 hz2 rfl (by decide) _ _ _ rfl ((hown.alloc _).alloc _) ⟨wr.heap.size + 1, 0, none⟩ 1 1 [.int .i64 q] rfl rfl ?c1 ?c2 ?c3 ?c4 ?c5 ?_)
      case c1 => have := cell_one_new (wr.alloc (.cells #[.int .i64 q, .int .i64 y] 78)) (.int .i64 q) 3; simpa using this
      case c2 => intro u hu; simp at hu; subst hu; rfl
      case c3 => unfold maxLen; omega
      case c4 => omega
      case c5 => simp; omega
      intro v' w1' hown' hgrow _
      have hb1 : Below w.heap.size w w1' := ((hbw.alloc hbw.size _).alloc (by simp; omega) _).grown hgrow (by simp; omega) (fun j hj => by have := (hown.lt j hj).1; omega)
      have hzz := hgrow.size
      simp at hzz
      clear hgrow hown
      go_wp2
      go_roundg (P.L.length - (k + 1))
      case measure => rw [HG.out]; omega
      case rel =>
        refine ⟨k + 1, by omega, rfl, by go_num, ?_, by omega, hb1⟩
        rw [HS.out]
        simpa [Nat.add_assoc] using hown'
    · obtain rfl : k = P.L.length := by omega
      have e1 : (ints (P.fr ++ P.lv ++ (nodesL P.L).take P.L.length)) = ints (allOf P) := by rw [nodes_all]; simp [allOf]
      have e2 : P.fr.length + P.lv.length + P.L.length = (allOf P).length := (allOf_len P).symm
      rw [e1, e2] at hown
      have HN := hidIt hown
      obtain ⟨av, cv, hv⟩ := own_form hown
      subst hv
      clear hown
      go_wp2
      go_ret
      exact ⟨_, rfl, HN.out, hbw⟩

end Go.Proofs.Ytdcnakpkmgepgaa

namespace Go.Proofs.Ytdcnakpkmgepgaa
open Go.ChangeShapes Go.WideShapes Go.ChangeAt Go.RowKit
set_option linter.unusedVariables false

def natsTo (k : Nat) : List Int := (List.range k).map fun j : Nat => (j : Int)
theorem natsTo_len (k : Nat) : (natsTo k).length = k := by simp [natsTo]
theorem natsTo_succ (k : Nat) : natsTo (k + 1) = natsTo k ++ [(k : Int)] := by simp [natsTo, List.range_succ]
def pnB (n h : Int) : Bool := newB h && decide (1 ≤ n ∧ n ≤ 100)
def pnP (n h : Int) : Pl := if pnB n h = true then ⟨natsTo n.toNat, 0, newP h, [], []⟩ else plZero
theorem pn_no {n h : Int} (e : pnB n h = false) : pnP n h = plZero := by simp [pnP, e]
theorem pn_yes {k : Nat} {h : Int} (e1 : newB h = true) (e2 : 1 ≤ k ∧ k ≤ 100) : pnB (k : Int) h = true ∧ pnP (k : Int) h = ⟨natsTo k, 0, newP h, [], []⟩ := by
  have e : pnB (k : Int) h = true := by simp [pnB, e1]; omega
  exact ⟨e, by simp [pnP, e]⟩
theorem bel_set5' {B : Nat} {W0 W : World} {b o0 o1 o2 o3 o4 : Nat} {x0 x1 x2 x3 x4 : Value} (h : Below B W0 W) (hb : B ≤ b) : Below B W0 (((((W.setCell ⟨b, o0, none⟩ x0).setCell ⟨b, o1, none⟩ x1).setCell ⟨b, o2, none⟩ x2).setCell ⟨b, o3, none⟩ x3).setCell ⟨b, o4, none⟩ x4) :=
  ((((h.setCell hb _).setCell hb _).setCell hb _).setCell hb _).setCell hb _
theorem bel_al' {B : Nat} {W0 W : World} (h : Below B W0 W) (hz : B ≤ W.heap.size) (o : Obj) : Below B W0 (W.alloc o) := h.alloc hz o
theorem PlQ.set {W : World} {lo hi : Nat} {f p l v : Value} {P : Pl} (h : PlQ lo hi f p l v P W) {b o : Nat} {x : Value} (hb : b < lo) : PlQ lo hi f p l v P (W.setCell ⟨b, o, none⟩ x) :=
  PlQ.loc lo hi f p l v P W _ h (fun k k1 _ => Below.heap_setCell _ _ _ _ (by show k ≠ b; omega))
/- the model's loop -/
structure PN (w wr : World) (b lo : Nat) (v p l : Value) (ps : List Int) (k : Nat) : Prop where
  below : Below w.heap.size w wr
  box : Bx wr b #[v, .int .i64 0, p, l, .slice none 0 0]
  res : Bx wr w.heap.size #[.slice none 0 0, .int .i64 0, .slice none 0 0, .slice none 0 0, .slice none 0 0]
  own : wr.ownsRow (b + 1) 3 1 v k (ints (natsTo k))
  ag : AR lo b p l ps [] wr
  lt : w.heap.size < lo
  lo : lo ≤ b
theorem PN.step {w wr w1 : World} {b lo : Nat} {v v1 p l : Value} {ps : List Int} {k : Nat} {o : Obj} (h : PN w wr b lo v p l ps k) (hown : w1.ownsRow (b + 1) 3 1 v1 (k + 1) (ints (natsTo (k + 1)))) (hg : (wr.alloc o).grownBy w1 v.ownBlock) : PN w (w1.setCell ⟨b, 0, none⟩ v1) b lo v1 p l ps (k + 1) := by
  have hb := h.box.1
  have hw := h.res.1
  have hl : ∀ q, v.ownBlock = some q → b + 1 ≤ q := fun q hq => (h.own.lt q hq).1
  have hl1 : ∀ q, v1.ownBlock = some q → b + 1 ≤ q := fun q hq => (hown.lt q hq).1
  have ho : ∀ q, q ≤ b → w1.heap[q]? = wr.heap[q]? := fun q hq => (hg.block q (by simp; omega) (fun e => by have := hl q e.symm; omega)).trans (Below.heap_alloc _ _ _ (by omega))
  have hz : wr.heap.size ≤ w1.heap.size := by have := hg.size; simp at this; omega
  have hlt := h.lt
  have hlo := h.lo
  refine ⟨?_, ?_, ?_, ?_, ?_, h.lt, h.lo⟩
  · exact ((h.below.alloc h.below.size _).grown hg (by simp; omega) (fun q hq => by have := hl q hq; omega)).setCell (by simp; omega) _
  · exact (h.box.block hz (ho b (Nat.le_refl _))).set (i := 0) v1 (by simp)
  · exact (h.res.block hz (ho _ (by omega))).other _ (by omega)
  · exact hown.kept (row := some b) ⟨rfl, rfl, rfl, by simp, fun q _ hq => Below.heap_setCell _ _ _ _ (fun e => hq (by rw [e]))⟩ (by
      cases hv : v1.ownBlock with
      | none => exact .inl rfl
      | some q => exact .inr (by have := hl1 q hv; simp; omega))
  · exact (AR.loc _ _ _ _ _ _ _ _ h.ag (fun q q1 q2 => ho q (by omega))).set_out (.inr (Nat.le_refl _))
set_option maxHeartbeats 1600000 in
set_option maxRecDepth 100000 in
theorem spec_poolnew_no (w : World) (n h : Int) (e : pnB n h = false) :
    Calls Try.prog 14 #[.int .i64 n, .int .i64 h] w fun e w' => e = .returned (.tuple #[.agg #[.slice none 0 0, .int .i64 0, .slice none 0 0, .slice none 0 0, .slice none 0 0], .bool false]) ∧ Below w.heap.size w w' := by
  go_enter Try.func14, Try.ntmps14
  go_wp2_with fail
  generalize hW : World.alloc w _ = W0
  have X := Bx.new w #[.slice none 0 0, .int .i64 0, .slice none 0 0, .slice none 0 0, .slice none 0 0] 34
  have bW : Below w.heap.size w W0 := by rw [← hW]; exact (Below.refl _ _).alloc (Nat.le_refl _) _
  have zW : W0.heap.size = w.heap.size + 1 := by rw [← hW]; simp
  rw [hW] at X
  clear hW
  refine (spec_agesnew W0 h).mono ?_
  rintro e w1 ⟨p1, l1, rfl, ar, b1⟩
  obtain ⟨xa, xb, xc, xd, rfl, rfl, -⟩ := ar.form
  have X1 := X.below b1
  have hz1 := b1.size
  have B1 := hidIt (bel_two bW b1)
  have m0 := X1.2.1 0
  have m1 := X1.2.1 1
  have m2 := X1.2.1 2
  have m3 := X1.2.1 3
  have m4 := X1.2.1 4
  have mf := X1.2.2
  simp at m0 m1 m2 m3 m4
  have hl := X1.1
  clear X X1 b1 bW ar
  cases hB : newB h with
  | false =>
    go_wp2
    exact bodyPost_ret (v := .tuple #[.agg #[.slice none 0 0, .int .i64 0, .slice none 0 0, .slice none 0 0, .slice none 0 0], .bool false]) (by simp [results, Try.results14, go_sem, m0, m1, m2, m3, m4, hl]) rfl ⟨rfl, by first | (with_reducible exact bel_al' (bel_set5' B1.out (Nat.le_refl _)) (by simp; omega) _) | (with_reducible exact bel_set5' (bel_al' B1.out (by omega) _) (Nat.le_refl _))⟩
  | true =>
    by_cases h1 : n < 1
    · go_wp2
      exact bodyPost_ret (v := .tuple #[.agg #[.slice none 0 0, .int .i64 0, .slice none 0 0, .slice none 0 0, .slice none 0 0], .bool false]) (by simp [results, Try.results14, go_sem, m0, m1, m2, m3, m4, hl]) rfl ⟨rfl, by first | (with_reducible exact bel_al' (bel_set5' B1.out (Nat.le_refl _)) (by simp; omega) _) | (with_reducible exact bel_set5' (bel_al' B1.out (by omega) _) (Nat.le_refl _))⟩
    · have h2 : (100 : Int) < n := by
        simp [pnB, hB] at e
        omega
      go_wp2
      exact bodyPost_ret (v := .tuple #[.agg #[.slice none 0 0, .int .i64 0, .slice none 0 0, .slice none 0 0, .slice none 0 0], .bool false]) (by simp [results, Try.results14, go_sem, m0, m1, m2, m3, m4, hl]) rfl ⟨rfl, by first | (with_reducible exact bel_al' (bel_set5' B1.out (Nat.le_refl _)) (by simp; omega) _) | (with_reducible exact bel_set5' (bel_al' B1.out (by omega) _) (Nat.le_refl _))⟩

end Go.Proofs.Ytdcnakpkmgepgaa

namespace Go.Proofs.Ytdcnakpkmgepgaa
open Go.ChangeShapes Go.WideShapes Go.ChangeAt Go.RowKit
set_option linter.unusedVariables false

set_option maxHeartbeats 1600000 in
set_option maxRecDepth 100000 in
theorem spec_poolnew_yes (w : World) (n : Nat) (h : Int) (h1 : 1 ≤ n) (h2 : n ≤ 100) (hB : newB h = true) :
    Calls Try.prog 14 #[.int .i64 (n : Int), .int .i64 h] w (PlS1 ⟨natsTo n, 0, newP h, [], []⟩ true w) := by
  obtain ⟨i0, hi0, hz0, hz1, hz2⟩ := info_parts info3
  have n1 : ¬ ((n : Int) < 1) := by omega
  have n2 : ¬ ((100 : Int) < (n : Int)) := by omega
  go_enter Try.func14, Try.ntmps14
  go_wp2_with fail
  generalize hW : World.alloc w _ = W0
  have X := Bx.new w #[.slice none 0 0, .int .i64 0, .slice none 0 0, .slice none 0 0, .slice none 0 0] 34
  have bW : Below w.heap.size w W0 := by rw [← hW]; exact (Below.refl _ _).alloc (Nat.le_refl _) _
  have zW : W0.heap.size = w.heap.size + 1 := by rw [← hW]; simp
  rw [hW] at X
  clear hW
  refine (spec_agesnew W0 h).mono ?_
  rintro e w1 ⟨p1, l1, rfl, ar, b1⟩
  obtain ⟨xa, xb, xc, xd, rfl, rfl, -⟩ := ar.form
  have X1 := hidIt (X.below b1)
  have hz1' := b1.size
  have B1 := hidIt (bel_two bW b1)
  have A1 := hidIt ar
  clear X b1 bW ar
  rw [hB]
  go_wp2_with fail
  generalize hW : World.alloc (World.alloc w1 _) _ = W2
  have zW2 : W2.heap.size = w1.heap.size + 2 := by rw [← hW]; simp
  have I0 : PN w W2 (w1.heap.size + 1) W0.heap.size (.slice none 0 0) (.slice xa (newP h).length xb) (.slice xc 0 xd) (newP h) 0 := by
    rw [← hW]
    refine ⟨((B1.out.alloc (by omega) _).alloc (by simp; omega) _), Bx.newAt _ _ (by simp), (X1.out.alloc _).alloc _, World.ownsRow_nil _ _ _ _, ((A1.out.alloc (Nat.le_refl _) _).alloc (by simp) _).wide (Nat.le_refl _) (by omega), by omega, by omega⟩
  have I0' := hidIt I0
  clear hW I0
  go_loopg [9] n (fun gk i wr => ∃ (k : Nat) (v : Value), k ≤ n ∧ gk = n - k ∧ i = .int .i64 k ∧ Hid (PN w wr (w1.heap.size + 1) W0.heap.size v (.slice xa (newP h).length xb) (.slice xc 0 xd) (newP h) k))
  case atStart => exact ⟨0, _, Nat.zero_le _, rfl, rfl, I0'⟩
  case round =>
    clear I0'
    rename World => wr
    obtain ⟨k, v, hk, hgk, rfl, I⟩ := hrel
    have HG := hidIt hgk
    clear hgk
    obtain ⟨va, vc, rfl⟩ := own_form I.out.own
    have m0 := I.out.box.2.1 0
    have m1 := I.out.box.2.1 1
    have m2 := I.out.box.2.1 2
    have m3 := I.out.box.2.1 3
    have m4 := I.out.box.2.1 4
    have mf := I.out.box.2.2
    simp at m0 m1 m2 m3 m4
    have hlb := I.out.box.1
    by_cases hlt : k < n
    · have hlt' : (k : Int) < (n : Int) := by omega
      have hown := hidIt (I.out.own.alloc (.cells #[.int .i64 (k : Int)] 3))
      go_wp2_with (at_builtin; refine wpList_append_own _ rfl _ _ 22 rfl (w1.heap.size + 1 + 1) 3 i0 (.int .i64 0) 1 8 Try.underlying22 hi0 hz0 hz1 hz2 rfl (by decide) _ _ _ rfl hown.out ⟨wr.heap.size, 0, none⟩ 1 1 [.int .i64 (k : Int)] rfl rfl ?c1 ?c2 ?c3 ?c4 ?c5 ?_)
      case c1 => have := cell_one_new wr (.int .i64 (k : Int)) 3; simpa using this
      case c2 => intro u hu; simp at hu; subst hu; rfl
      case c3 => unfold maxLen; omega
      case c4 => omega
      case c5 => simp; omega
      intro v1 w2 hown1 hgrow _
      obtain ⟨vb, vd, rfl⟩ := own_form hown1
      have hstep := hidIt (I.out.step (o := .cells #[.int .i64 (k : Int)] 3) (by rw [natsTo_succ]; simpa using hown1) hgrow)
      have hz2 := hgrow.size
      simp at hz2
      have hne : ∀ q, Value.ownBlock (.slice va k vc) = some q → q ≠ w1.heap.size + 1 := fun q hq => by have := (I.out.own.lt q hq).1; omega
      have r0 := farv (w := wr.alloc (.cells #[.int .i64 (k : Int)] 3)) hgrow (b := w1.heap.size + 1) (o := 0) (by simp; omega) hne (below_cell (Below.alloc (Below.refl wr.heap.size wr) (Nat.le_refl _) _) hlb m0)
      have rf := farv_frozen (w := wr.alloc (.cells #[.int .i64 (k : Int)] 3)) hgrow (b := w1.heap.size + 1) (o := 0) (by simp; omega) hne (below_frozen (Below.alloc (Below.refl wr.heap.size wr) (Nat.le_refl _) _) hlb (mf 0))
      clear hown hown1 hgrow hne m0 m1 m2 m3 m4 mf
      go_wp2
      go_roundg (n - (k + 1))
      case measure => rw [HG.out]; omega
      case rel => exact ⟨k + 1, _, by omega, rfl, by go_num, hidIt hstep.out⟩
    · obtain rfl : k = n := by omega
      have q0 := I.out.res.2.1 0
      have q1 := I.out.res.2.1 1
      have q2 := I.out.res.2.1 2
      have q3 := I.out.res.2.1 3
      have q4 := I.out.res.2.1 4
      have qf := I.out.res.2.2
      simp at q0 q1 q2 q3 q4
      have hlw := I.out.res.1
      have hlt3 := I.out.lt
      have hlo3 := I.out.lo
      have HQ := hidIt (show PlQ W0.heap.size wr.heap.size (.slice va k vc) (.slice xa (newP h).length xb) (.slice xc 0 xd) (.slice none 0 0) ⟨natsTo k, 0, newP h, [], []⟩ wr from
        ⟨((Row.of_owns I.out.own).toQ.wide (by omega) (Nat.le_refl _)), I.out.ag.wide (Nat.le_refl _) (by omega), (Row.size0 _ _ _).toQ⟩)
      have HB := hidIt I.out.below
      clear I HG
      go_wp2
      refine bodyPost_ret (v := .tuple #[.agg #[.slice va k vc, .int .i64 0, .slice xa (newP h).length xb, .slice xc 0 xd, .slice none 0 0], .bool true]) (by simp [results, Try.results14, go_sem, q0, q1, q2, q3, q4]) rfl ⟨_, _, _, _, rfl, ?_, ?_⟩
      · exact (((((HQ.out.set (by omega)).set (by omega)).set (by omega)).set (by omega)).set (by omega)).wide (by omega) (by simp)
      · exact bel_set5' HB.out (by omega)
theorem spec_poolnew (w : World) (n h : Int) : Calls Try.prog 14 #[.int .i64 n, .int .i64 h] w (PlS1 (pnP n h) (pnB n h) w) := by
  cases hp : pnB n h with
  | false => rw [pn_no hp]; exact (spec_poolnew_no w n h hp).mono fun _ _ k => PlS1.none k
  | true =>
    have hq : newB h = true ∧ 1 ≤ n ∧ n ≤ 100 := by simpa [pnB] using hp
    obtain ⟨k, rfl⟩ : ∃ k : Nat, n = k := ⟨n.toNat, by omega⟩
    rw [(pn_yes hq.1 (by omega)).2]
    exact spec_poolnew_yes w k h (by omega) (by omega) hq.1

end Go.Proofs.Ytdcnakpkmgepgaa

namespace Go.Proofs.Ytdcnakpkmgepgaa
open Go.ChangeShapes Go.WideShapes Go.ChangeAt Go.RowKit
set_option linter.unusedVariables false

structure PI (w wr : World) (m g b lo n : Nat) (p l : Value) (ps : List Int) (k : Nat) : Prop where
  below : Below w.heap.size w wr
  box : Bx wr m #[.slice (some ⟨g, 0, none⟩) n n, .int .i64 0, p, l, .slice none 0 0]
  res : Bx wr w.heap.size #[.slice none 0 0, .int .i64 0, .slice none 0 0, .slice none 0 0, .slice none 0 0]
  row1 : ∀ j, j < k → wr.cell? ⟨g, j, none⟩ = some (.int .i64 (j : Int))
  row2 : ∀ j, k ≤ j → j < n → ∃ x, wr.cell? ⟨g, j, none⟩ = some x
  fz : g < wr.heap.size ∧ ∀ j, wr.frozen? ⟨g, j, none⟩ = false
  ag : AR lo b p l ps [] wr
  ne : g ≠ m
  lt : w.heap.size < lo
  lo : lo ≤ b
  bm : b ≤ m
  bg : b ≤ g
theorem PI.step {w wr : World} {m g b lo n : Nat} {p l : Value} {ps : List Int} {k : Nat} (h : PI w wr m g b lo n p l ps k) (hk : k < n) : PI w (wr.setCell ⟨g, k, none⟩ (.int .i64 (k : Int))) m g b lo n p l ps (k + 1) := by
  have h1 := h.lt
  have h2 := h.lo
  have h3 := h.bg
  have hne : ∀ j, j ≠ k → (⟨g, k, none⟩ : Addr) ≠ ⟨g, j, none⟩ := fun j e e2 => e (by cases e2; rfl)
  refine ⟨h.below.setCell (by show w.heap.size ≤ g; omega) _, h.box.other _ (fun e => h.ne e.symm), h.res.other _ (by omega), fun j hj => ?_, fun j hj hj2 => ?_, ⟨by simpa using h.fz.1, fun j => by rw [World.frozen?_setCell]; exact h.fz.2 j⟩, h.ag.set_out (.inr h3), h.ne, h.lt, h.lo, h.bm, h.bg⟩
  · by_cases e : j = k
    · subst e
      obtain ⟨x, hx⟩ := h.row2 j (Nat.le_refl _) hk
      exact World.cell?_setCell_same _ _ _ hx
    · rw [World.cell?_setCell_other _ _ _ _ (hne j e)]
      exact h.row1 j (by omega)
  · obtain ⟨x, hx⟩ := h.row2 j (by omega) hj2
    exact ⟨x, by rw [World.cell?_setCell_other _ _ _ _ (hne j (by omega))]; exact hx⟩
theorem PlR.set {W : World} {lo hi : Nat} {f p l v : Value} {P : Pl} (h : PlR lo hi f p l v P W) {b o : Nat} {x : Value} (hb : b < lo) : PlR lo hi f p l v P (W.setCell ⟨b, o, none⟩ x) := h.set_low hb
theorem made_one (n j : Nat) (hj : j < n) : ∃ x, (madeCells #[Value.int .i64 0] n)[j]? = some x := by
  have : j < (madeCells #[Value.int .i64 0] n).size := by simp [madeCells, hj]
  exact ⟨_, Array.getElem?_eq_getElem this⟩
theorem pi_gb {w W2 : World} {b lo n : Nat} {p l : Value} {ps : List Int} {T1 T2 : TypeId} (B : Below w.heap.size w W2) (X : Bx W2 w.heap.size #[.slice none 0 0, .int .i64 0, .slice none 0 0, .slice none 0 0, .slice none 0 0]) (A : AR lo b p l ps [] W2) (h1 : w.heap.size < lo) (h2 : lo ≤ b) (h3 : b ≤ W2.heap.size) :
    PI w ((W2.alloc (.cells (madeCells #[.int .i64 0] n) T1)).alloc (.cells #[.slice (some ⟨W2.heap.size, 0, none⟩) n n, .int .i64 0, p, l, .slice none 0 0] T2)).drew (W2.heap.size + 1) W2.heap.size b lo n p l ps 0 := by
  have M := ((Bx.new W2 (madeCells #[.int .i64 0] n) T1).alloc (.cells #[.slice (some ⟨W2.heap.size, 0, none⟩) n n, .int .i64 0, p, l, .slice none 0 0] T2)).drew
  refine ⟨(((B.alloc (by omega) _).alloc (by simp; omega) _).drew), (Bx.newAt _ _ (by simp)).drew, ((X.alloc _).alloc _).drew, fun j hj => by omega, fun j _ hj => ?_, ⟨M.1, M.2.2⟩, ((A.alloc h3 _).alloc (by simp; omega) _).below (Below.refl _ _).drew, by omega, h1, h2, by omega, h3⟩
  obtain ⟨x, hx⟩ := made_one n j hj
  exact ⟨x, (M.2.1 j).trans hx⟩
theorem pi_bg {w W2 : World} {b lo n : Nat} {p l : Value} {ps : List Int} {T1 T2 : TypeId} (B : Below w.heap.size w W2) (X : Bx W2 w.heap.size #[.slice none 0 0, .int .i64 0, .slice none 0 0, .slice none 0 0, .slice none 0 0]) (A : AR lo b p l ps [] W2) (h1 : w.heap.size < lo) (h2 : lo ≤ b) (h3 : b ≤ W2.heap.size) :
    PI w ((W2.alloc (.cells #[.slice (some ⟨W2.heap.size + 1, 0, none⟩) n n, .int .i64 0, p, l, .slice none 0 0] T2)).alloc (.cells (madeCells #[.int .i64 0] n) T1)).drew W2.heap.size (W2.heap.size + 1) b lo n p l ps 0 := by
  have M := (Bx.newAt (W := W2.alloc (.cells #[.slice (some ⟨W2.heap.size + 1, 0, none⟩) n n, .int .i64 0, p, l, .slice none 0 0] T2)) (n := W2.heap.size + 1) (madeCells #[.int .i64 0] n) T1 (by simp)).drew
  refine ⟨(((B.alloc (by omega) _).alloc (by simp; omega) _).drew), ((Bx.new _ _ _).alloc _).drew, ((X.alloc _).alloc _).drew, fun j hj => by omega, fun j _ hj => ?_, ⟨M.1, M.2.2⟩, ((A.alloc h3 _).alloc (by simp; omega) _).below (Below.refl _ _).drew, by omega, h1, h2, h3, by omega⟩
  obtain ⟨x, hx⟩ := made_one n j hj
  exact ⟨x, (M.2.1 j).trans hx⟩
set_option maxHeartbeats 1600000 in
set_option maxRecDepth 100000 in
theorem impl_poolnew_yes (w : World) (n : Nat) (h : Int) (h1 : 1 ≤ n) (h2 : n ≤ 100) (hB : newB h = true) :
    Calls Try.prog 15 #[.int .i64 (n : Int), .int .i64 h] w (PlI1 ⟨natsTo n, 0, newP h, [], []⟩ true w) := by
  have n1 : ¬ ((n : Int) < 1) := by omega
  have n2 : ¬ ((100 : Int) < (n : Int)) := by omega
  have hmk := run_make_row' (P := Try.prog) 22 3 (.int .i64 0) 8 Try.underlying22 info3 rfl .i64 .i64 n (by omega) (by omega)
  go_enter Try.func15, Try.ntmps15
  go_wp2_with fail
  generalize hW : World.alloc w _ = W0
  have X := Bx.new w #[.slice none 0 0, .int .i64 0, .slice none 0 0, .slice none 0 0, .slice none 0 0] 34
  have bW : Below w.heap.size w W0 := by rw [← hW]; exact (Below.refl _ _).alloc (Nat.le_refl _) _
  have zW : W0.heap.size = w.heap.size + 1 := by rw [← hW]; simp
  rw [hW] at X
  clear hW
  refine (impl_agesnew W0 h).mono ?_
  rintro e w1 ⟨p1, l1, rfl, ar, b1⟩
  obtain ⟨xa, xb, xc, xd, rfl, rfl, -⟩ := ar.form
  have X1 := hidIt (X.below b1)
  have hz1' := b1.size
  have B1 := hidIt (bel_two bW b1)
  have A1 := hidIt ar
  clear X b1 bW ar
  rw [hB]
  go_wp2_with fail
  generalize hW : World.alloc w1 _ = W2
  have zW2 : W2.heap.size = w1.heap.size + 1 := by rw [← hW]; simp
  have Y := Bx.new w1 #[.int .i64 0, .slice xa (newP h).length xb, .slice xc 0 xd] 32
  rw [show w1.alloc (.cells #[.int .i64 0, .slice xa (newP h).length xb, .slice xc 0 xd] 32) = W2 from hW] at Y
  have B2 := hidIt (show Below w1.heap.size w1 W2 from by rw [← hW]; exact (Below.refl _ _).alloc (Nat.le_refl _) _)
  clear hW
  have y0 := Y.2.1 0
  have y1 := Y.2.1 1
  have y2 := Y.2.1 2
  simp at y0 y1 y2
  clear Y
  have l0 : w1.heap.size < W2.heap.size := by omega
  have SO := hidIt (fun W (hb : Below W2.heap.size W2 W) => (⟨hb, below_cell hb l0 y0, below_cell hb l0 y1, below_cell hb l0 y2⟩ : Below W2.heap.size W2 W ∧ W.cell? ⟨w1.heap.size, 0, none⟩ = some (.int .i64 0) ∧ W.cell? ⟨w1.heap.size, 1, none⟩ = some (.slice xa (newP h).length xb) ∧ W.cell? ⟨w1.heap.size, 2, none⟩ = some (.slice xc 0 xd)))
  have KD := hidIt (fun W (hh : Below W2.heap.size W2 W ∧ W.cell? ⟨w1.heap.size, 0, none⟩ = some (.int .i64 0) ∧ W.cell? ⟨w1.heap.size, 1, none⟩ = some (.slice xa (newP h).length xb) ∧ W.cell? ⟨w1.heap.size, 2, none⟩ = some (.slice xc 0 xd)) => SO.out W.drew hh.1.drew)
  have hS := SO.out W2 (Below.refl _ _)
  clear y0 y1 y2
  have HB2 := hidIt (B1.out.trans (B2.out.mono (by omega)))
  have HX2 := hidIt (X1.out.below B2.out)
  have HA2 := hidIt (A1.out.below B2.out)
  go_cut [8] from 26 to 29 (fun x8 wc => ∃ m g, x8 = .pointer (some ⟨m, 0, none⟩) ∧ Hid (PI w wc m g w1.heap.size W0.heap.size n (.slice xa (newP h).length xb) (.slice xc 0 xd) (newP h) 0))
  case first =>
    go_region_held3 (fun W => Below W2.heap.size W2 W ∧ W.cell? ⟨w1.heap.size, 0, none⟩ = some (.int .i64 0) ∧ W.cell? ⟨w1.heap.size, 1, none⟩ = some (.slice xa (newP h).length xb) ∧ W.cell? ⟨w1.heap.size, 2, none⟩ = some (.slice xc 0 xd))
      (first | (refine SO.out _ ?_; (repeat (first | (with_reducible exact Below.refl _ _) | (with_reducible exact (And.left (by assumption))) | (with_reducible refine Below.drew ?_) | (with_reducible refine bel_al ?_ _) | (refine Below.setCell ?_ (by simp <;> omega) _))); done)) (fail)
    all_goals
      go_wp2_with fail
      go_meet
      first
      | (refine ⟨w1.heap.size + 1 + 1, w1.heap.size + 1, rfl, ?_⟩; have q := pi_gb (n := n) (T1 := 3) (T2 := 34) HB2.out HX2.out HA2.out (by omega) (by omega) (by omega); rw [zW2] at q; exact q)
      | (refine ⟨w1.heap.size + 1, w1.heap.size + 1 + 1, rfl, ?_⟩; have q := pi_bg (n := n) (T1 := 3) (T2 := 34) HB2.out HX2.out HA2.out (by omega) (by omega) (by omega); rw [zW2] at q; exact q)
  case rest =>
  obtain ⟨m, g, rfl, I0⟩ := hcut
  clear SO KD hS
  go_wp2_with fail
  go_loopw [31] (fun i wr => ∃ k : Nat, k ≤ n ∧ i = .int .i64 k ∧ Hid (PI w wr m g w1.heap.size W0.heap.size n (.slice xa (newP h).length xb) (.slice xc 0 xd) (newP h) k)) (fun i _ => n - (intOf i).toNat)
  case atStart => exact ⟨0, Nat.zero_le _, rfl, I0⟩
  case round =>
    clear I0
    rename World => wr
    obtain ⟨k, hk, rfl, I⟩ := hrel
    have m0 := I.out.box.2.1 0
    have m1 := I.out.box.2.1 1
    have m2 := I.out.box.2.1 2
    have m3 := I.out.box.2.1 3
    have m4 := I.out.box.2.1 4
    simp at m0 m1 m2 m3 m4
    by_cases hlt : k < n
    · have hlt' : (k : Int) < (n : Int) := by omega
      obtain ⟨x, hx⟩ := I.out.row2 k (Nat.le_refl _) hlt
      have hf := I.out.fz.2 k
      have hst := hidIt (I.out.step hlt)
      clear m1 m2 m3 m4
      go_wp2
      go_roundw
      case rel => exact ⟨k + 1, by omega, by go_num, hidIt hst.out⟩
      case measure => simp [intOf]; omega
    · obtain rfl : k = n := by omega
      have q0 := I.out.res.2.1 0
      have q1 := I.out.res.2.1 1
      have q2 := I.out.res.2.1 2
      have q3 := I.out.res.2.1 3
      have q4 := I.out.res.2.1 4
      have qf := I.out.res.2.2
      simp at q0 q1 q2 q3 q4
      have hlt3 := I.out.lt
      have hlo3 := I.out.lo
      have hbg := I.out.bg
      have hgz := I.out.fz.1
      have HQ := hidIt (show PlR W0.heap.size wr.heap.size (.slice (some ⟨g, 0, none⟩) k k) (.slice xa (newP h).length xb) (.slice xc 0 xd) (.slice none 0 0) ⟨natsTo k, 0, newP h, [], []⟩ wr from
        ⟨w1.heap.size, wr.heap.size, W0.heap.size, w1.heap.size, W0.heap.size, W0.heap.size, ⟨by omega, by omega, by omega, by omega, by omega, by omega, by omega, by omega, by omega⟩, ⟨_, k, by rw [ints_len, natsTo_len], .inr ⟨g, rfl, hbg, hgz, fun j hj => by
          rw [ints_len, natsTo_len] at hj
          rw [I.out.row1 j hj]
          simp [natsTo], I.out.fz.2⟩⟩, I.out.ag, Row.size0 _ _ _⟩)
      have HB := hidIt I.out.below
      have hlw := I.out.res.1
      clear I
      go_wp2
      refine bodyPost_ret (v := .tuple #[.agg #[.slice (some ⟨g, 0, none⟩) k k, .int .i64 0, .slice xa (newP h).length xb, .slice xc 0 xd, .slice none 0 0], .bool true]) (by simp [results, Try.results15, go_sem, q0, q1, q2, q3, q4]) rfl ⟨_, _, _, _, rfl, ?_, ?_⟩
      · exact (((((HQ.out.set (by omega)).set (by omega)).set (by omega)).set (by omega)).set (by omega)).wide (by omega) (by simp)
      · exact bel_set5' HB.out (by omega)
set_option maxHeartbeats 1600000 in
set_option maxRecDepth 100000 in
theorem impl_poolnew_no (w : World) (n h : Int) (e : pnB n h = false) :
    Calls Try.prog 15 #[.int .i64 n, .int .i64 h] w fun e w' => e = .returned (.tuple #[.agg #[.slice none 0 0, .int .i64 0, .slice none 0 0, .slice none 0 0, .slice none 0 0], .bool false]) ∧ Below w.heap.size w w' := by
  go_enter Try.func15, Try.ntmps15
  go_wp2_with fail
  generalize hW : World.alloc w _ = W0
  have X := Bx.new w #[.slice none 0 0, .int .i64 0, .slice none 0 0, .slice none 0 0, .slice none 0 0] 34
  have bW : Below w.heap.size w W0 := by rw [← hW]; exact (Below.refl _ _).alloc (Nat.le_refl _) _
  have zW : W0.heap.size = w.heap.size + 1 := by rw [← hW]; simp
  rw [hW] at X
  clear hW
  refine (impl_agesnew W0 h).mono ?_
  rintro e w1 ⟨p1, l1, rfl, ar, b1⟩
  obtain ⟨xa, xb, xc, xd, rfl, rfl, -⟩ := ar.form
  have X1 := X.below b1
  have hz1 := b1.size
  have B1 := hidIt (bel_two bW b1)
  have m0 := X1.2.1 0
  have m1 := X1.2.1 1
  have m2 := X1.2.1 2
  have m3 := X1.2.1 3
  have m4 := X1.2.1 4
  have mf := X1.2.2
  simp at m0 m1 m2 m3 m4
  have hl := X1.1
  clear X X1 b1 bW ar
  cases hB : newB h with
  | false =>
    go_wp2
    exact bodyPost_ret (v := .tuple #[.agg #[.slice none 0 0, .int .i64 0, .slice none 0 0, .slice none 0 0, .slice none 0 0], .bool false]) (by simp [results, Try.results15, go_sem, m0, m1, m2, m3, m4, hl]) rfl ⟨rfl, by first | (with_reducible exact bel_al' (bel_set5' B1.out (Nat.le_refl _)) (by simp; omega) _) | (with_reducible exact bel_set5' (bel_al' B1.out (by omega) _) (Nat.le_refl _))⟩
  | true =>
    by_cases h1 : n < 1
    · go_wp2
      exact bodyPost_ret (v := .tuple #[.agg #[.slice none 0 0, .int .i64 0, .slice none 0 0, .slice none 0 0, .slice none 0 0], .bool false]) (by simp [results, Try.results15, go_sem, m0, m1, m2, m3, m4, hl]) rfl ⟨rfl, by first | (with_reducible exact bel_al' (bel_set5' B1.out (Nat.le_refl _)) (by simp; omega) _) | (with_reducible exact bel_set5' (bel_al' B1.out (by omega) _) (Nat.le_refl _))⟩
    · have h2 : (100 : Int) < n := by
        simp [pnB, hB] at e
        omega
      go_wp2
      exact bodyPost_ret (v := .tuple #[.agg #[.slice none 0 0, .int .i64 0, .slice none 0 0, .slice none 0 0, .slice none 0 0], .bool false]) (by simp [results, Try.results15, go_sem, m0, m1, m2, m3, m4, hl]) rfl ⟨rfl, by first | (with_reducible exact bel_al' (bel_set5' B1.out (Nat.le_refl _)) (by simp; omega) _) | (with_reducible exact bel_set5' (bel_al' B1.out (by omega) _) (Nat.le_refl _))⟩
theorem impl_poolnew (w : World) (n h : Int) : Calls Try.prog 15 #[.int .i64 n, .int .i64 h] w (PlI1 (pnP n h) (pnB n h) w) := by
  cases hp : pnB n h with
  | false => rw [pn_no hp]; exact (impl_poolnew_no w n h hp).mono fun _ _ k => PlI1.none k
  | true =>
    have hq : newB h = true ∧ 1 ≤ n ∧ n ≤ 100 := by simpa [pnB] using hp
    obtain ⟨k, rfl⟩ : ∃ k : Nat, n = k := ⟨n.toNat, by omega⟩
    rw [(pn_yes hq.1 (by omega)).2]
    exact impl_poolnew_yes w k h (by omega) (by omega) hq.1

end Go.Proofs.Ytdcnakpkmgepgaa

namespace Go.Proofs.Ytdcnakpkmgepgaa
open Go.ChangeShapes Go.WideShapes Go.ChangeAt Go.RowKit
set_option linter.unusedVariables false

theorem pn_fit (n h : Int) : PlFit (pnP n h) := by
  unfold PlFit pnP
  split
  · rename_i hp
    have : newB h = true ∧ 1 ≤ n ∧ n ≤ 100 := by simpa [pnB] using hp
    have h2 := newP_len h
    simp only [natsTo_len, List.length_nil]
    omega
  · simp [plZero]
set_option maxHeartbeats 3200000 in
set_option maxRecDepth 100000 in
theorem walk_PoolNew (n h : Int) (w : World) :
    Calls Try.prog 4 #[.int .i64 n, .int .i64 h] w fun e w' => e = .returned (.bool true) ∧ Below w.heap.size w w' := by
  have HS := hidIt (fun W => spec_poolnew W n h)
  have HI := hidIt (fun W => impl_poolnew W n h)
  have HG := hidIt (pn_fit n h)
  generalize pnP n h = P' at HS HI HG
  generalize pnB n h = B at HS HI
  go_enter Try.func4, Try.ntmps4
  go_wp2_with fail
  refine (HS.out _).mono ?_
  rintro e w1 ⟨f1, p1, l1, v1, rfl, r1, b1⟩
  have s1 := hidIt (((Sv.start w).grow b1).row (Nat.le_refl _) (PlQ.loc _ _ _ _ _ _ _) r1)
  obtain ⟨xa1, xk1, xb1, xl1, xc1, xm1, xd1, xn1, rfl, rfl, rfl, rfl⟩ := r1.form
  have z1 := b1.size
  clear r1 b1
  have t1 := hidIt (s1.out.box5 (.slice xa1 P'.fr.length xk1) (.int .i64 P'.a) (.slice xb1 P'.ps.length xl1) (.slice xc1 P'.L.length xm1) (.slice xd1 P'.lv.length xn1) 34)
  go_wp2_with fail
  refine (HI.out _).mono ?_
  rintro e w2 ⟨f2, p2, l2, v2, rfl, r2, b2⟩
  have s2 := hidIt ((t1.out.grow b2).row (Nat.le_refl _) (PlR.loc _ _ _ _ _ _ _) r2)
  obtain ⟨xa2, xk2, xb2, xl2, xc2, xm2, xd2, xn2, rfl, rfl, rfl, rfl⟩ := r2.form
  have z2 := b2.size
  (try simp at z2)
  clear r2 b2 t1 s1
  have t2 := hidIt (s2.out.box5 (.slice xa2 P'.fr.length xk2) (.int .i64 P'.a) (.slice xb2 P'.ps.length xl2) (.slice xc2 P'.L.length xm2) (.slice xd2 P'.lv.length xn2) 34)
  obtain ⟨c20, c21, c22, c23, c24⟩ := t2.out.get5 (b := w1.heap.size) (x0 := (.slice xa1 P'.fr.length xk1)) (x1 := (.int .i64 P'.a)) (x2 := (.slice xb1 P'.ps.length xl1)) (x3 := (.slice xc1 P'.L.length xm1)) (x4 := (.slice xd1 P'.lv.length xn1)) (by simp) (by simp) (by simp) (by simp) (by simp)
  go_wp2_with fail
  clear c20 c21 c22 c23 c24 s2
  refine (eq_pool _ _ _ _ _ _ _ _ _ _ _ _ _ P' HG.out (t2.out.at (.head _)).1 (t2.out.at (.tail _ (.head _))).1 (t2.out.at (.head _)).2.toQ (t2.out.at (.tail _ (.head _))).2).mono ?_
  rintro e w3 ⟨rfl, b3⟩
  have s3 := hidIt (t2.out.grow b3)
  have z3 := b3.size
  (try simp at z3)
  clear b3 t2
  obtain ⟨c30, c31, c32, c33, c34⟩ := s3.out.get5 (b := w2.heap.size) (x0 := (.slice xa2 P'.fr.length xk2)) (x1 := (.int .i64 P'.a)) (x2 := (.slice xb2 P'.ps.length xl2)) (x3 := (.slice xc2 P'.L.length xm2)) (x4 := (.slice xd2 P'.lv.length xn2)) (by simp) (by simp) (by simp) (by simp) (by simp)
  go_wp2_with fail
  clear c30 c31 c32 c33 c34
  refine (mark_pool _ _ _ _ _ _ _ P' 1 HG.out (by omega) (s3.out.at (.head _)).1 (s3.out.at (.head _)).2).mono ?_
  rintro e w4 ⟨rfl, r4, o4⟩
  have s4 := hidIt (s3.out.mark1 o4 (PlM.loc _ _ _ _ _ _ _ _ _ _ _) r4 (by first | omega | (simp; done) | (simp; omega)) (by first | omega | (simp; done) | (simp; omega)) (by first | omega | (simp; done) | (simp; omega)))
  have z4 := o4.size
  clear r4 o4 s3
  obtain ⟨c40, c41, c42, c43, c44⟩ := s4.out.get5 (b := w2.heap.size) (x0 := (.slice xa2 P'.fr.length xk2)) (x1 := (.int .i64 P'.a)) (x2 := (.slice xb2 P'.ps.length xl2)) (x3 := (.slice xc2 P'.L.length xm2)) (x4 := (.slice xd2 P'.lv.length xn2)) (by simp) (by simp) (by simp) (by simp) (by simp)
  go_wp2_with fail
  clear c40 c41 c42 c43 c44
  refine (held_pool _ _ _ P'.a _ _ _ _ P'.fr.length P'.ps.length P'.L.length P'.lv.length 1 HG.out (by omega) (s4.out.at (.head _)).1 (s4.out.at (.head _)).2).mono ?_
  rintro e w5 ⟨rfl, b5⟩
  have s5 := hidIt (s4.out.grow b5)
  have z5 := b5.size
  clear b5 s4
  go_wp2_with fail
  refine (HI.out _).mono ?_
  rintro e w8 ⟨f8, p8, l8, v8, rfl, r8, b8⟩
  have s8 := hidIt ((s5.out.grow b8).row (Nat.le_refl _) (PlR.loc _ _ _ _ _ _ _) r8)
  obtain ⟨xa8, xk8, xb8, xl8, xc8, xm8, xd8, xn8, rfl, rfl, rfl, rfl⟩ := r8.form
  have z8 := b8.size
  clear r8 b8 s5
  have t8 := hidIt (s8.out.box5 (.slice xa8 P'.fr.length xk8) (.int .i64 P'.a) (.slice xb8 P'.ps.length xl8) (.slice xc8 P'.L.length xm8) (.slice xd8 P'.lv.length xn8) 34)
  obtain ⟨c80, c81, c82, c83, c84⟩ := t8.out.get5 (b := w1.heap.size) (x0 := (.slice xa1 P'.fr.length xk1)) (x1 := (.int .i64 P'.a)) (x2 := (.slice xb1 P'.ps.length xl1)) (x3 := (.slice xc1 P'.L.length xm1)) (x4 := (.slice xd1 P'.lv.length xn1)) (by simp) (by simp) (by simp) (by simp) (by simp)
  go_wp2_with fail
  clear c80 c81 c82 c83 c84 s8
  refine (eq_pool _ _ _ _ _ _ _ _ _ _ _ _ _ P' HG.out (t8.out.at (.head _)).1 (t8.out.at (.tail _ (.tail _ (.head _)))).1 (t8.out.at (.head _)).2.toQ (t8.out.at (.tail _ (.tail _ (.head _)))).2).mono ?_
  rintro e w9 ⟨rfl, b9⟩
  have s9 := hidIt (t8.out.grow b9)
  have z9 := b9.size
  (try simp at z9)
  clear b9 t8
  obtain ⟨c90, c91, c92, c93, c94⟩ := s9.out.get5 (b := w2.heap.size) (x0 := (.slice xa2 P'.fr.length xk2)) (x1 := (.int .i64 P'.a)) (x2 := (.slice xb2 P'.ps.length xl2)) (x3 := (.slice xc2 P'.L.length xm2)) (x4 := (.slice xd2 P'.lv.length xn2)) (by simp) (by simp) (by simp) (by simp) (by simp)
  go_wp2_with fail
  clear c90 c91 c92 c93 c94
  refine (held_pool _ _ _ P'.a _ _ _ _ P'.fr.length P'.ps.length P'.L.length P'.lv.length 1 HG.out (by omega) (s9.out.at (.tail _ (.head _))).1 (s9.out.at (.tail _ (.head _))).2).mono ?_
  rintro e w10 ⟨rfl, b10⟩
  go_wp2
  go_ret
  exact ⟨rfl, (s9.out.grow b10).below⟩

end Go.Proofs.Ytdcnakpkmgepgaa
