/- A map from numbers to pairs of numbers, told by a function: made, written, asked, taken from, gone through; plain lemmas and laws at the operations. -/
import Derived.Test.YtikliofkplbdpaaRows
import Derived.WalkKit
import Derived.ProofKit
import Derived.OpenShut
import Derived.ShutString
import Derived.Test.YtikliofkplbdpaaAgePlain
import Derived.Maps.OwnSet
import Derived.Maps.RangeWalk
namespace Go.Proofs.Ytikliofkplbdpaa
open Go.ChangeShapes Go.WideShapes Go.ChangeAt Go.RowKit
set_option linter.unusedVariables false

def stLit (q : Int × Int) : DataW Unit := .agg [.lit (.int .i64 q.1), .lit (.int .i64 q.2)]
def stVal (q : Int × Int) : Value := .agg #[.int .i64 q.1, .int .i64 q.2]
theorem stVal_inj {p q : Int × Int} (h : stVal p = stVal q) : p = q := by
  obtain ⟨a, b⟩ := p
  obtain ⟨c, d⟩ := q
  simp [stVal] at h
  obtain ⟨rfl, rfl⟩ := h
  rfl
structure IsR (R : Value → Option (DataW Unit × List MemPlace)) : Prop where
  mk1 : ∀ q, R (stVal q) = some (stLit q, [])
  inv : ∀ v y, R v = some y → ∃ q, v = stVal q ∧ y = (stLit q, [])
theorem exR : ∃ R, IsR R := by
  classical
  refine ⟨fun v => if h : ∃ q, v = stVal q then some (stLit h.choose, []) else none, fun q => ?_, fun v y h => ?_⟩
  · have h : ∃ p, stVal q = stVal p := ⟨q, rfl⟩
    show (if h : ∃ p, stVal q = stVal p then some (stLit h.choose, []) else none) = _
    rw [dif_pos h, ← stVal_inj h.choose_spec]
  · by_cases hq : ∃ q, v = stVal q
    · replace h : (if h : ∃ q, v = stVal q then some (stLit h.choose, ([] : List MemPlace)) else none) = some y := h
      rw [dif_pos hq] at h
      cases h
      exact ⟨_, hq.choose_spec, rfl⟩
    · replace h : (if h : ∃ q, v = stVal q then some (stLit h.choose, ([] : List MemPlace)) else none) = some y := h
      rw [dif_neg hq] at h
      cases h
theorem stLit_inj {p q : Int × Int} (h : stLit p = stLit q) : p = q := by
  obtain ⟨a, b⟩ := p
  obtain ⟨c, d⟩ := q
  simp [stLit] at h
  obtain ⟨rfl, rfl⟩ := h
  rfl
theorem mapLaw : Maps.Keyed Try.prog 3 := Maps.int_keyed Try.underlying3
theorem zeroSt (w : World) : (zeroValue 53).run Try.prog w = .ok (stVal (0, 0)) w := by kernel_rfl
def keyI (z : Int) : Lit := .int .i64 z
theorem keyI_isKey (z : Int) : WideAt.IsKeyLit (keyI z) := trivial
theorem keyI_inj {y z : Int} (h : keyI y = keyI z) : y = z := by cases h; rfl
/- what the datum says at each number -/
def Tells (D : DataW Unit) (g : Int → Option (Int × Int)) : Prop := ∀ z, match g z with
  | none => Maps.has D (keyI z) = false
  | some q => Maps.has D (keyI z) = true ∧ ∀ zd, D.atKey (keyI z) zd = stLit q
def MapF (w : World) (b n : Nat) (g : Int → Option (Int × Int)) : Prop := ∃ (R : Value → Option (DataW Unit × List MemPlace)) (D : DataW Unit), IsR R ∧ w.ownsMap Try.prog 3 R b n D ∧ Tells D g
def updF (g : Int → Option (Int × Int)) (k : Int) (q : Int × Int) : Int → Option (Int × Int) := fun z => if z = k then some q else g z
def delF (g : Int → Option (Int × Int)) (k : Int) : Int → Option (Int × Int) := fun z => if z = k then none else g z
theorem tells_empty : Tells (.map []) (fun _ => none) := fun _ => rfl
theorem tells_put {D : DataW Unit} {g : Int → Option (Int × Int)} (h : Tells D g) (hm : Maps.IsMap D) (k : Int) (q : Int × Int) : Tells (D.put (keyI k) (stLit q)) (updF g k q) := by
  intro z
  by_cases hz : z = k
  · subst hz
    have e : updF g z q z = some q := by simp [updF]
    rw [e]
    exact ⟨Maps.has_put_same hm (keyI_isKey z) _, fun zd => Maps.atKey_put_same hm (keyI_isKey z) _ _⟩
  · have e : updF g k q z = g z := by simp [updF, hz]
    have hne : keyI z ≠ keyI k := fun e => hz (keyI_inj e)
    rw [e]
    have := h z
    cases hg : g z with
    | none => rw [hg] at this; exact (Maps.has_put_other hne _).trans this
    | some p => rw [hg] at this; exact ⟨(Maps.has_put_other hne _).trans this.1, fun zd => (Maps.atKey_put_other hne _ _).trans (this.2 zd)⟩
theorem tells_del {D : DataW Unit} {g : Int → Option (Int × Int)} (h : Tells D g) (k : Int) : Tells (D.del (keyI k)) (delF g k) := by
  intro z
  by_cases hz : z = k
  · subst hz
    have e : delF g z z = none := by simp [delF]
    rw [e]
    exact Maps.has_del_same
  · have e : delF g k z = g z := by simp [delF, hz]
    have hne : keyI z ≠ keyI k := fun e => hz (keyI_inj e)
    rw [e]
    have := h z
    cases hg : g z with
    | none => rw [hg] at this; exact (Maps.has_del_other hne).trans this
    | some p => rw [hg] at this; exact ⟨(Maps.has_del_other hne).trans this.1, fun zd => (Maps.atKey_del_other hne _).trans (this.2 zd)⟩
theorem MapF.made (w : World) : MapF (w.alloc (.map #[] 0)) w.heap.size 0 (fun _ => none) := by
  obtain ⟨R, hR⟩ := exR
  exact ⟨R, _, hR, World.ownsMap_made _ _ _ _, tells_empty⟩
theorem MapF.mono {w : World} {b n m : Nat} {g : Int → Option (Int × Int)} (h : MapF w b n g) (hn : n ≤ m) : MapF w b m g := by
  obtain ⟨R, D, hR, h1, h2⟩ := h
  exact ⟨R, D, hR, h1.mono hn, h2⟩
theorem MapF.lt {w : World} {b n : Nat} {g : Int → Option (Int × Int)} (h : MapF w b n g) : b < w.heap.size := by
  obtain ⟨R, D, hR, h1, h2⟩ := h
  exact h1.lt
theorem MapF.kept {w w' : World} {b n : Nat} {row : Option Nat} {g : Int → Option (Int × Int)} (h : MapF w b n g) (hg : w.grownBy w' row) (hne : some b ≠ row) : MapF w' b n g := by
  obtain ⟨R, D, hR, h1, h2⟩ := h
  exact ⟨R, D, hR, h1.kept hg hne, h2⟩
theorem MapF.below {w w' : World} {b n : Nat} {g : Int → Option (Int × Int)} (h : MapF w b n g) (hb : Below w.heap.size w w') : MapF w' b n g :=
  h.kept (row := none) ⟨hb.os, hb.tape, hb.output, hb.size, fun k hk _ => hb.block k hk⟩ (by simp)
theorem MapF.alloc {w : World} {b n : Nat} {g : Int → Option (Int × Int)} (h : MapF w b n g) (o : Obj) : MapF (w.alloc o) b n g := h.below ((Below.refl _ _).alloc (Nat.le_refl _) _)
theorem MapF.set {w : World} {b n : Nat} {g : Int → Option (Int × Int)} (h : MapF w b n g) {c o : Nat} (hc : b ≠ c) (x : Value) : MapF (w.setCell ⟨c, o, none⟩ x) b n g := by
  obtain ⟨R, D, hR, h1, h2⟩ := h
  exact ⟨R, D, hR, h1.setCell hc x, h2⟩
theorem MapF.at {w : World} {b n : Nat} {g : Int → Option (Int × Int)} (h : MapF w b n g) (z : Int) (hz : (Lit.int .i64 z).wf = true) :
    (Instr.lookup 50 (.map (some b)) (.int .i64 z) false).run Try.prog w = .ok (stVal ((g z).getD (0, 0))) w := by
  obtain ⟨R, D, hR, h1, h2⟩ := h
  obtain ⟨v, ps, hrun, hv⟩ := h1.lookup (t := 50) mapLaw Try.underlying50 (zeroSt w) (hR.mk1 (0, 0)) (Maps.keyOf_int_mk Try.underlying3 hz)
  obtain ⟨q, rfl, hq⟩ := hR.inv _ _ hv
  rw [hrun]
  have := h2 z
  have e : q = (g z).getD (0, 0) := by
    cases hg : g z with
    | none =>
      rw [hg] at this
      have h3 := Maps.atKey_of_not_has this (stLit (0, 0))
      simp only [Prod.mk.injEq] at hq
      exact (stLit_inj (h3.symm.trans hq.1)).symm
    | some p =>
      rw [hg] at this
      simp only [Prod.mk.injEq] at hq
      exact (stLit_inj ((this.2 (stLit (0, 0))).symm.trans hq.1)).symm
  rw [e]
theorem wpList_put {P : Program} (w : World) {ops : Array Oper} {rest : List Oper} {o : Oper} {a : Act} {Q : Exit → Act → World → Prop} (hP : P = Try.prog)
    (hg : o.guard = none) (m x v : Operand) (hop : o.op = Op.mapUpdate 50 m x v) (b n : Nat) (g : Int → Option (Int × Int))
    (hm : a.eval m = .map (some b)) (h : MapF w b n g) (hn : n < maxLen) (z : Int) (q : Int × Int) (hx : a.eval x = .int .i64 z) (hv : a.eval v = stVal q) (hz : (Lit.int .i64 z).wf = true)
    (hK : ∀ w', MapF w' b (n + 1) (updF g z q) → w.grownBy w' (some b) → wpList P ops Q rest (a.put o.dst undef) w') :
    wpList P ops Q (o :: rest) a w := by
  subst hP
  obtain ⟨R, D, hR, h1, h2⟩ := h
  exact wpList_mapUpdate_own w hg m x v _ hop 3 53 mapLaw Try.underlying50 R b n D hm h1 hn _ _ (keyI z) hx hv (Maps.keyOf_int_mk Try.underlying3 hz) (stLit q) [] (hR.mk1 q)
    (fun w' o' g' => hK w' ⟨R, _, hR, o', tells_put h2 h1.isMap z q⟩ g')
theorem wpList_del {P : Program} (w : World) {ops : Array Oper} {rest : List Oper} {o : Oper} {a : Act} {Q : Exit → Act → World → Prop} (hP : P = Try.prog)
    (hg : o.guard = none) (m x : Operand) (hop : o.op = Op.call { callee := Callee.builtin Builtin.delete, args := #[m, x], argTypes := #[50, 3] }) (b n : Nat) (g : Int → Option (Int × Int))
    (hm : a.eval m = .map (some b)) (h : MapF w b n g) (z : Int) (hx : a.eval x = .int .i64 z) (hz : (Lit.int .i64 z).wf = true)
    (hK : ∀ w', MapF w' b n (delF g z) → w.grownBy w' (some b) → wpList P ops Q rest (a.put o.dst (.tuple #[])) w') :
    wpList P ops Q (o :: rest) a w := by
  subst hP
  obtain ⟨R, D, hR, h1, h2⟩ := h
  exact wpList_delete_own w hg m x _ _ hop 53 mapLaw Try.underlying50 R b n D hm h1 _ (keyI z) hx (Maps.keyOf_int_mk Try.underlying3 hz)
    (fun w' o' g' => hK w' ⟨R, _, hR, o', tells_del h2 z⟩ g'.grown)
/- what a map holds behind some stores -/
def putAll (U : List (Int × (Int × Int))) (g : Int → Option (Int × Int)) : Int → Option (Int × Int) := U.foldl (fun g p => updF g p.1 p.2) g
theorem putAll_snoc (U : List (Int × (Int × Int))) (p : Int × (Int × Int)) (g : Int → Option (Int × Int)) : putAll (U ++ [p]) g = updF (putAll U g) p.1 p.2 := by simp [putAll, List.foldl_append]
theorem putAll_app (U V : List (Int × (Int × Int))) (g : Int → Option (Int × Int)) : putAll (U ++ V) g = putAll V (putAll U g) := by simp [putAll, List.foldl_append]

end Go.Proofs.Ytikliofkplbdpaa
