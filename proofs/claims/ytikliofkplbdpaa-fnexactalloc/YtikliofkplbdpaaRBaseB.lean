/- Contracts of functions of the program and of its model, and plain lemmas: several texts in one. -/
import Derived.Test.YtikliofkplbdpaaRows
import Derived.WalkKit
import Derived.ProofKit
import Derived.OpenShut
import Derived.ShutString
import Derived.Test.YtikliofkplbdpaaRBaseA
import Derived.Maps.OwnSet
import Derived.Maps.RangeWalk
import Derived.Deep.RegionHeld3
import Derived.ChangeOld
import Derived.Below
import Derived.Deep.Slices
import Derived.Deep.AppendSrc
import Derived.Deep.Upon
import Derived.Deep.AppendLies
import Derived.Laws.OwnMore
import Derived.Deep.LoopGhost
import Derived.Maps.OwnOps
import Derived.Deep.SlicePairs

namespace Go.Proofs.Ytikliofkplbdpaa
open Go.ChangeShapes Go.WideShapes Go.ChangeAt Go.RowKit
set_option linter.unusedVariables false

def stLit (q : Int × Int) : DataW Unit := .agg [.lit (.int .i64 q.1), .lit (.int .i64 q.2)]
def stVal (q : Int × Int) : Value := .agg #[.int .i64 q.1, .int .i64 q.2]
theorem stVal_inj {p q : Int × Int} (h : stVal p = stVal q) : p = q := by
  obtain ⟨a, b⟩ := p
  obtain ⟨c, d⟩ := q
  simp [stVal] at h
  obtain ⟨rfl, rfl⟩ := h
  rfl
structure IsR (R : Value → Option (DataW Unit × List MemPlace)) : Prop where
  mk1 : ∀ q, R (stVal q) = some (stLit q, [])
  inv : ∀ v y, R v = some y → ∃ q, v = stVal q ∧ y = (stLit q, [])
theorem exR : ∃ R, IsR R := by
  classical
  refine ⟨fun v => if h : ∃ q, v = stVal q then some (stLit h.choose, []) else none, fun q => ?_, fun v y h => ?_⟩
  · have h : ∃ p, stVal q = stVal p := ⟨q, rfl⟩
    show (if h : ∃ p, stVal q = stVal p then some (stLit h.choose, []) else none) = _
    rw [dif_pos h, ← stVal_inj h.choose_spec]
  · by_cases hq : ∃ q, v = stVal q
    · replace h : (if h : ∃ q, v = stVal q then some (stLit h.choose, ([] : List MemPlace)) else none) = some y := h
      rw [dif_pos hq] at h
      cases h
      exact ⟨_, hq.choose_spec, rfl⟩
    · replace h : (if h : ∃ q, v = stVal q then some (stLit h.choose, ([] : List MemPlace)) else none) = some y := h
      rw [dif_neg hq] at h
      cases h
theorem stLit_inj {p q : Int × Int} (h : stLit p = stLit q) : p = q := by
  obtain ⟨a, b⟩ := p
  obtain ⟨c, d⟩ := q
  simp [stLit] at h
  obtain ⟨rfl, rfl⟩ := h
  rfl
theorem mapLaw : Maps.Keyed Try.prog 3 := Maps.int_keyed Try.underlying3
theorem zeroSt (w : World) : (zeroValue 53).run Try.prog w = .ok (stVal (0, 0)) w := by kernel_rfl
def keyI (z : Int) : Lit := .int .i64 z
theorem keyI_isKey (z : Int) : WideAt.IsKeyLit (keyI z) := trivial
theorem keyI_inj {y z : Int} (h : keyI y = keyI z) : y = z := by cases h; rfl
/- what the datum says at each number -/
def Tells (D : DataW Unit) (g : Int → Option (Int × Int)) : Prop := ∀ z, match g z with
  | none => Maps.has D (keyI z) = false
  | some q => Maps.has D (keyI z) = true ∧ ∀ zd, D.atKey (keyI z) zd = stLit q
def MapF (w : World) (b n : Nat) (g : Int → Option (Int × Int)) : Prop := ∃ (R : Value → Option (DataW Unit × List MemPlace)) (D : DataW Unit), IsR R ∧ w.ownsMap Try.prog 3 R b n D ∧ Tells D g
def updF (g : Int → Option (Int × Int)) (k : Int) (q : Int × Int) : Int → Option (Int × Int) := fun z => if z = k then some q else g z
def delF (g : Int → Option (Int × Int)) (k : Int) : Int → Option (Int × Int) := fun z => if z = k then none else g z
theorem tells_empty : Tells (.map []) (fun _ => none) := fun _ => rfl
theorem tells_put {D : DataW Unit} {g : Int → Option (Int × Int)} (h : Tells D g) (hm : Maps.IsMap D) (k : Int) (q : Int × Int) : Tells (D.put (keyI k) (stLit q)) (updF g k q) := by
  intro z
  by_cases hz : z = k
  · subst hz
    have e : updF g z q z = some q := by simp [updF]
    rw [e]
    exact ⟨Maps.has_put_same hm (keyI_isKey z) _, fun zd => Maps.atKey_put_same hm (keyI_isKey z) _ _⟩
  · have e : updF g k q z = g z := by simp [updF, hz]
    have hne : keyI z ≠ keyI k := fun e => hz (keyI_inj e)
    rw [e]
    have := h z
    cases hg : g z with
    | none => rw [hg] at this; exact (Maps.has_put_other hne _).trans this
    | some p => rw [hg] at this; exact ⟨(Maps.has_put_other hne _).trans this.1, fun zd => (Maps.atKey_put_other hne _ _).trans (this.2 zd)⟩
theorem tells_del {D : DataW Unit} {g : Int → Option (Int × Int)} (h : Tells D g) (k : Int) : Tells (D.del (keyI k)) (delF g k) := by
  intro z
  by_cases hz : z = k
  · subst hz
    have e : delF g z z = none := by simp [delF]
    rw [e]
    exact Maps.has_del_same
  · have e : delF g k z = g z := by simp [delF, hz]
    have hne : keyI z ≠ keyI k := fun e => hz (keyI_inj e)
    rw [e]
    have := h z
    cases hg : g z with
    | none => rw [hg] at this; exact (Maps.has_del_other hne).trans this
    | some p => rw [hg] at this; exact ⟨(Maps.has_del_other hne).trans this.1, fun zd => (Maps.atKey_del_other hne _).trans (this.2 zd)⟩
theorem MapF.made (w : World) : MapF (w.alloc (.map #[] 0)) w.heap.size 0 (fun _ => none) := by
  obtain ⟨R, hR⟩ := exR
  exact ⟨R, _, hR, World.ownsMap_made _ _ _ _, tells_empty⟩
theorem MapF.mono {w : World} {b n m : Nat} {g : Int → Option (Int × Int)} (h : MapF w b n g) (hn : n ≤ m) : MapF w b m g := by
  obtain ⟨R, D, hR, h1, h2⟩ := h
  exact ⟨R, D, hR, h1.mono hn, h2⟩
theorem MapF.lt {w : World} {b n : Nat} {g : Int → Option (Int × Int)} (h : MapF w b n g) : b < w.heap.size := by
  obtain ⟨R, D, hR, h1, h2⟩ := h
  exact h1.lt
theorem MapF.kept {w w' : World} {b n : Nat} {row : Option Nat} {g : Int → Option (Int × Int)} (h : MapF w b n g) (hg : w.grownBy w' row) (hne : some b ≠ row) : MapF w' b n g := by
  obtain ⟨R, D, hR, h1, h2⟩ := h
  exact ⟨R, D, hR, h1.kept hg hne, h2⟩
theorem MapF.below {w w' : World} {b n : Nat} {g : Int → Option (Int × Int)} (h : MapF w b n g) (hb : Below w.heap.size w w') : MapF w' b n g :=
  h.kept (row := none) ⟨hb.os, hb.tape, hb.output, hb.size, fun k hk _ => hb.block k hk⟩ (by simp)
theorem MapF.alloc {w : World} {b n : Nat} {g : Int → Option (Int × Int)} (h : MapF w b n g) (o : Obj) : MapF (w.alloc o) b n g := h.below ((Below.refl _ _).alloc (Nat.le_refl _) _)
theorem MapF.set {w : World} {b n : Nat} {g : Int → Option (Int × Int)} (h : MapF w b n g) {c o : Nat} (hc : b ≠ c) (x : Value) : MapF (w.setCell ⟨c, o, none⟩ x) b n g := by
  obtain ⟨R, D, hR, h1, h2⟩ := h
  exact ⟨R, D, hR, h1.setCell hc x, h2⟩
theorem MapF.at {w : World} {b n : Nat} {g : Int → Option (Int × Int)} (h : MapF w b n g) (z : Int) (hz : (Lit.int .i64 z).wf = true) :
    (Instr.lookup 50 (.map (some b)) (.int .i64 z) false).run Try.prog w = .ok (stVal ((g z).getD (0, 0))) w := by
  obtain ⟨R, D, hR, h1, h2⟩ := h
  obtain ⟨v, ps, hrun, hv⟩ := h1.lookup (t := 50) mapLaw Try.underlying50 (zeroSt w) (hR.mk1 (0, 0)) (Maps.keyOf_int_mk Try.underlying3 hz)
  obtain ⟨q, rfl, hq⟩ := hR.inv _ _ hv
  rw [hrun]
  have := h2 z
  have e : q = (g z).getD (0, 0) := by
    cases hg : g z with
    | none =>
      rw [hg] at this
      have h3 := Maps.atKey_of_not_has this (stLit (0, 0))
      simp only [Prod.mk.injEq] at hq
      exact (stLit_inj (h3.symm.trans hq.1)).symm
    | some p =>
      rw [hg] at this
      simp only [Prod.mk.injEq] at hq
      exact (stLit_inj ((this.2 (stLit (0, 0))).symm.trans hq.1)).symm
  rw [e]
theorem wpList_put {P : Program} (w : World) {ops : Array Oper} {rest : List Oper} {o : Oper} {a : Act} {Q : Exit → Act → World → Prop} (hP : P = Try.prog)
    (hg : o.guard = none) (m x v : Operand) (hop : o.op = Op.mapUpdate 50 m x v) (b n : Nat) (g : Int → Option (Int × Int))
    (hm : a.eval m = .map (some b)) (h : MapF w b n g) (hn : n < maxLen) (z : Int) (q : Int × Int) (hx : a.eval x = .int .i64 z) (hv : a.eval v = stVal q) (hz : (Lit.int .i64 z).wf = true)
    (hK : ∀ w', MapF w' b (n + 1) (updF g z q) → w.grownBy w' (some b) → wpList P ops Q rest (a.put o.dst undef) w') :
    wpList P ops Q (o :: rest) a w := by
  subst hP
  obtain ⟨R, D, hR, h1, h2⟩ := h
  exact wpList_mapUpdate_own w hg m x v _ hop 3 53 mapLaw Try.underlying50 R b n D hm h1 hn _ _ (keyI z) hx hv (Maps.keyOf_int_mk Try.underlying3 hz) (stLit q) [] (hR.mk1 q)
    (fun w' o' g' => hK w' ⟨R, _, hR, o', tells_put h2 h1.isMap z q⟩ g')
theorem wpList_del {P : Program} (w : World) {ops : Array Oper} {rest : List Oper} {o : Oper} {a : Act} {Q : Exit → Act → World → Prop} (hP : P = Try.prog)
    (hg : o.guard = none) (m x : Operand) (hop : o.op = Op.call { callee := Callee.builtin Builtin.delete, args := #[m, x], argTypes := #[50, 3] }) (b n : Nat) (g : Int → Option (Int × Int))
    (hm : a.eval m = .map (some b)) (h : MapF w b n g) (z : Int) (hx : a.eval x = .int .i64 z) (hz : (Lit.int .i64 z).wf = true)
    (hK : ∀ w', MapF w' b n (delF g z) → w.grownBy w' (some b) → wpList P ops Q rest (a.put o.dst (.tuple #[])) w') :
    wpList P ops Q (o :: rest) a w := by
  subst hP
  obtain ⟨R, D, hR, h1, h2⟩ := h
  exact wpList_delete_own w hg m x _ _ hop 53 mapLaw Try.underlying50 R b n D hm h1 _ (keyI z) hx (Maps.keyOf_int_mk Try.underlying3 hz)
    (fun w' o' g' => hK w' ⟨R, _, hR, o', tells_del h2 z⟩ g'.grown)
/- what a map holds behind some stores -/
def putAll (U : List (Int × (Int × Int))) (g : Int → Option (Int × Int)) : Int → Option (Int × Int) := U.foldl (fun g p => updF g p.1 p.2) g
theorem putAll_snoc (U : List (Int × (Int × Int))) (p : Int × (Int × Int)) (g : Int → Option (Int × Int)) : putAll (U ++ [p]) g = updF (putAll U g) p.1 p.2 := by simp [putAll, List.foldl_append]
theorem putAll_app (U V : List (Int × (Int × Int))) (g : Int → Option (Int × Int)) : putAll (U ++ V) g = putAll V (putAll U g) := by simp [putAll, List.foldl_append]

end Go.Proofs.Ytikliofkplbdpaa

namespace Go.Proofs.Ytikliofkplbdpaa
open Go.ChangeShapes Go.WideShapes Go.ChangeAt Go.RowKit
set_option linter.unusedVariables false

theorem Out.drew {lo hi : Nat} {w w' : World} (h : Out lo hi w w') : Out lo hi w w'.drew := ⟨h.os, h.tape, h.output, h.size, h.block⟩
theorem Out.setCell {lo hi : Nat} {w w' : World} {p : Addr} {v : Value} (h : Out lo hi w w') (h1 : lo ≤ p.block) (h2 : p.block < hi) : Out lo hi w (w'.setCell p v) :=
  ⟨h.os, h.tape, h.output, by have := h.size; simpa using this, fun k hk hn => (Below.heap_setCell _ _ _ _ (by omega)).trans (h.block k hk hn)⟩
theorem Out.alloc {lo hi : Nat} {w w' : World} (h : Out lo hi w w') (o : Obj) : Out lo hi w (w'.alloc o) :=
  ⟨h.os, h.tape, h.output, by have := h.size; simp; omega, fun k hk hn => (Below.heap_alloc _ _ _ (Nat.lt_of_lt_of_le hk h.size)).trans (h.block k hk hn)⟩
theorem step_row {w w' : World} {lo hi l2 B : Nat} {v : Value} {xs : List Value} (r : Row w l2 w.heap.size v xs) (h : Out lo hi w w') (hl : hi ≤ l2) (hB : B ≤ l2) : Row w' B w'.heap.size v xs := by
  obtain ⟨a, cap, hv, r⟩ := (r.out h (Nat.le_refl _) (.inr hl)).up h.size
  refine ⟨a, cap, hv, ?_⟩
  rcases r with r | ⟨g, ha, h1, h2, h3⟩
  · exact .inl r
  · exact .inr ⟨g, ha, by omega, h2, h3⟩

theorem first_out {lo hi : Nat} {w W W' : World} (h : Out lo hi w W) (b : Below W.heap.size W W') : Out lo hi w W' := h.trans (Out.of_below b)

end Go.Proofs.Ytikliofkplbdpaa

namespace Go.Proofs.Ytikliofkplbdpaa
open Go.ChangeShapes Go.WideShapes Go.ChangeAt Go.RowKit
set_option linter.unusedVariables false

structure Kp (bs : List Nat) (w w' : World) : Prop where
  os : w'.os = w.os
  tape : w'.tape = w.tape
  output : w'.output = w.output
  size : w.heap.size ≤ w'.heap.size
  block : ∀ k, k < w.heap.size → ¬ k ∈ bs → w'.heap[k]? = w.heap[k]?
theorem Kp.refl (bs : List Nat) (w : World) : Kp bs w w := ⟨rfl, rfl, rfl, Nat.le_refl _, fun _ _ _ => rfl⟩
theorem Kp.trans {bs : List Nat} {a b c : World} (h : Kp bs a b) (k : Kp bs b c) : Kp bs a c :=
  ⟨k.os.trans h.os, k.tape.trans h.tape, k.output.trans h.output, Nat.le_trans h.size k.size, fun x hx hn => (k.block x (Nat.lt_of_lt_of_le hx h.size) hn).trans (h.block x hx hn)⟩
theorem Kp.of_below {bs : List Nat} {w w' : World} (h : Below w.heap.size w w') : Kp bs w w' := ⟨h.os, h.tape, h.output, h.size, fun k hk _ => h.block k hk⟩
theorem Kp.drew {bs : List Nat} {w w' : World} (h : Kp bs w w') : Kp bs w w'.drew := ⟨h.os, h.tape, h.output, h.size, h.block⟩
theorem Kp.alloc {bs : List Nat} {w w' : World} (h : Kp bs w w') (o : Obj) : Kp bs w (w'.alloc o) :=
  ⟨h.os, h.tape, h.output, by have := h.size; simp; omega, fun k hk hn => (Below.heap_alloc _ _ _ (Nat.lt_of_lt_of_le hk h.size)).trans (h.block k hk hn)⟩
theorem Kp.setCell {bs : List Nat} {w w' : World} {b f : Nat} {v : Value} (h : Kp bs w w') (hb : b ∈ bs ∨ w.heap.size ≤ b) : Kp bs w (w'.setCell ⟨b, f, none⟩ v) :=
  ⟨h.os, h.tape, h.output, by have := h.size; simpa using this, fun k hk hn => (Below.heap_setCell _ _ _ _ (by
    show k ≠ b
    rcases hb with hb | hb
    · intro e; exact hn (e ▸ hb)
    · omega)).trans (h.block k hk hn)⟩
theorem Kp.cell {bs : List Nat} {w w' : World} (h : Kp bs w w') {b o : Nat} {x : Option Value} (hb : b < w.heap.size) (hn : ¬ b ∈ bs) (hx : w.cell? ⟨b, o, none⟩ = x) : w'.cell? ⟨b, o, none⟩ = x :=
  (World.cell?_of_block (a := ⟨b, o, none⟩) (h.block b hb hn)).trans hx
theorem Kp.frozen {bs : List Nat} {w w' : World} (h : Kp bs w w') {b o : Nat} {x : Bool} (hb : b < w.heap.size) (hn : ¬ b ∈ bs) (hx : w.frozen? ⟨b, o, none⟩ = x) : w'.frozen? ⟨b, o, none⟩ = x :=
  (World.frozen?_of_block (a := ⟨b, o, none⟩) (h.block b hb hn)).trans hx
theorem Kp.below {bs : List Nat} {w w' : World} {B : Nat} (h : Kp bs w w') (hB : B ≤ w.heap.size) (hb : ∀ k ∈ bs, B ≤ k) : Below B w w' :=
  ⟨h.os, h.tape, h.output, h.size, fun k hk => h.block k (by omega) (fun hm => by have := hb k hm; omega)⟩
theorem Kp.row {bs : List Nat} {w w' : World} {lo hi : Nat} {v : Value} {xs : List Value} (h : Kp bs w w') (r : Row w lo hi v xs) (hz : hi ≤ w.heap.size) (hb : ∀ k ∈ bs, k < lo ∨ hi ≤ k) : Row w' lo hi v xs := by
  obtain ⟨a, cap, hv, r⟩ := r
  refine ⟨a, cap, hv, ?_⟩
  rcases r with r | ⟨g, ha, h1, h2, h3, h4⟩
  · exact .inl r
  · have hg : ¬ g ∈ bs := fun hm => by have := hb g hm; omega
    exact .inr ⟨g, ha, h1, h2, fun j hj => h.cell (by omega) hg (h3 j hj), fun j => h.frozen (by omega) hg (h4 j)⟩
theorem Kp.own {bs : List Nat} {w w' : World} {base : Nat} {e : TypeId} {size : Nat} {g c : Nat} {n : Nat} {xs : List Value} (h : Kp bs w w') (o : w.ownsRow base e size (.slice (some ⟨g, 0, none⟩) n c) n xs) (hg : ¬ g ∈ bs) : w'.ownsRow base e size (.slice (some ⟨g, 0, none⟩) n c) n xs := by
  refine ⟨o.1, ?_⟩
  rcases o.2 with ⟨hn, -⟩ | ⟨g', cap, cur, hv, hbg, hgg, rest⟩
  · cases hn
  · simp at hv
    obtain ⟨rfl, rfl⟩ := hv
    exact .inr ⟨g, c, cur, rfl, hbg, by rw [h.block g (Array.getElem?_eq_some_iff.1 hgg).1 hg]; exact hgg, rest⟩
theorem Kp.of_grown {w w' : World} {g : Nat} (h : w.grownBy w' (some g)) : Kp [g] w w' :=
  ⟨h.os, h.tape, h.output, h.size, fun k hk hn => h.block k hk (fun e => hn (by simp at e; simp [e]))⟩
theorem Kp.more {bs cs : List Nat} {w w' : World} (h : Kp bs w w') (hs : ∀ k ∈ bs, k ∈ cs ∨ w.heap.size ≤ k) : Kp cs w w' :=
  ⟨h.os, h.tape, h.output, h.size, fun k hk hn => h.block k hk (fun hm => by
    rcases hs k hm with h | h
    · exact hn h
    · omega)⟩
theorem cells10 {w : World} {B : Nat} {x0 x1 x2 x3 x4 x5 x6 x7 x8 x9 y0 y1 y2 y3 y4 y5 y6 y7 y8 y9 : Value} (h : ∀ o, w.cell? ⟨B, o, none⟩ = #[y0, y1, y2, y3, y4, y5, y6, y7, y8, y9][o]?) : ∀ o, ((((((((((w.setCell ⟨B, 0, none⟩ x0).setCell ⟨B, 1, none⟩ x1).setCell ⟨B, 2, none⟩ x2).setCell ⟨B, 3, none⟩ x3).setCell ⟨B, 4, none⟩ x4).setCell ⟨B, 5, none⟩ x5).setCell ⟨B, 6, none⟩ x6).setCell ⟨B, 7, none⟩ x7).setCell ⟨B, 8, none⟩ x8).setCell ⟨B, 9, none⟩ x9).cell? ⟨B, o, none⟩ = #[x0, x1, x2, x3, x4, x5, x6, x7, x8, x9][o]? := by
  intro o
  rcases o with _ | _ | _ | _ | _ | _ | _ | _ | _ | _ | o
  all_goals simp [go_sem, h]

end Go.Proofs.Ytikliofkplbdpaa

namespace Go.Proofs.Ytikliofkplbdpaa
open Go.ChangeShapes Go.WideShapes Go.ChangeAt Go.RowKit
set_option linter.unusedVariables false

theorem low_div (a : Int) (h : a < 0) : a.tdiv 1048576 ≤ 0 ∧ a.tmod 1048576 ≤ 0 ∧ (a.tdiv 1048576 < 0 ∨ a.tmod 1048576 < 0) := by
  obtain ⟨b, rfl⟩ : ∃ b : Int, a = -b := ⟨-a, by omega⟩
  rw [Int.neg_tdiv, Int.neg_tmod, Int.tdiv_eq_ediv_of_nonneg (by omega), Int.tmod_eq_emod_of_nonneg (by omega)]
  omega

def unB (x : Int) : Bool := decide (0 ≤ x ∧ x / 1048576 ≤ 1073741823)
def unT (x : Int) : Int := if unB x = true then x / 1048576 else 0
def unI (x : Int) : Int := if unB x = true then x % 1048576 else 0
theorem un_bd (x : Int) : 0 ≤ unT x ∧ unT x ≤ 1073741823 ∧ 0 ≤ unI x ∧ unI x ≤ 1048575 := by
  unfold unT unI
  by_cases h : unB x = true
  · rw [if_pos h, if_pos h]
    have := of_decide_eq_true h
    omega
  · rw [if_neg h, if_neg h]; omega
def pkB (t i : Int) : Bool := decide (0 ≤ t ∧ t ≤ 1073741823 ∧ 0 ≤ i ∧ i ≤ 1048575)
def pkW (t i : Int) : Int := if pkB t i = true then t * 1048576 + i else 0
theorem pk_bd (t i : Int) : 0 ≤ pkW t i ∧ pkW t i ≤ 1125899906842623 := by
  unfold pkW
  by_cases h : pkB t i = true
  · rw [if_pos h]
    have := of_decide_eq_true h
    omega
  · rw [if_neg h]; omega
def ntT (t : Int) : Int := if 0 ≤ t ∧ t ≤ 1073741822 then t + 1 else 0
theorem nt_bd (t : Int) : 0 ≤ ntT t ∧ ntT t ≤ 1073741823 := by unfold ntT; split <;> omega
theorem ret3 {a b a' b' : Int} {c c' : Bool} (h1 : a = a') (h2 : b = b') (h3 : c = c') : Ending.returned (.tuple #[.int .i64 a, .int .i64 b, .bool c]) = .returned (.tuple #[.int .i64 a', .int .i64 b', .bool c']) := by rw [h1, h2, h3]
theorem ret2 {a a' : Int} {c c' : Bool} (h1 : a = a') (h3 : c = c') : Ending.returned (.tuple #[.int .i64 a, .bool c]) = .returned (.tuple #[.int .i64 a', .bool c']) := by rw [h1, h3]
theorem ret_int {k : IntKind} {a b : Int} (h : a = b) : Ending.returned (.int k a) = .returned (.int k b) := by rw [h]

end Go.Proofs.Ytikliofkplbdpaa

namespace Go.Proofs.Ytikliofkplbdpaa
open Go.ChangeShapes Go.WideShapes Go.ChangeAt Go.RowKit
set_option linter.unusedVariables false

def actB (n : Nat) (k t a b : Int) : Bool := decide (1 ≤ k ∧ k ≤ 4 ∧ 0 ≤ t ∧ t < (n : Int) ∧ n ≤ 300 ∧ (k = 1 → a = 0) ∧ (k ≠ 3 → b = 0))
theorem actB_no {n : Nat} {k t a b : Int} (h : ¬ (1 ≤ k ∧ k ≤ 4 ∧ 0 ≤ t ∧ t < (n : Int) ∧ n ≤ 300 ∧ (k = 1 → a = 0) ∧ (k ≠ 3 → b = 0))) : actB n k t a b = false := decide_eq_false h
theorem actB_yes {n : Nat} {k t a b : Int} (h : 1 ≤ k ∧ k ≤ 4 ∧ 0 ≤ t ∧ t < (n : Int) ∧ n ≤ 300 ∧ (k = 1 → a = 0) ∧ (k ≠ 3 → b = 0)) : actB n k t a b = true := decide_eq_true h
theorem actB_of {n : Nat} {k t a b : Int} (h : actB n k t a b = true) : 1 ≤ k ∧ k ≤ 4 ∧ 0 ≤ t ∧ t < (n : Int) ∧ n ≤ 300 ∧ (k = 1 → a = 0) ∧ (k ≠ 3 → b = 0) := of_decide_eq_true h
def kindB (k a b : Int) : Bool := decide (1 ≤ k ∧ k ≤ 4 ∧ (k = 1 → a = 0) ∧ (k ≠ 3 → b = 0))
def hasB (n : Nat) (t : Int) : Bool := decide (0 ≤ t ∧ t < (n : Int))
theorem kindB_eq {k a b : Int} {x : Bool} (h : x = true ↔ (1 ≤ k ∧ k ≤ 4 ∧ (k = 1 → a = 0) ∧ (k ≠ 3 → b = 0))) : x = kindB k a b := by
  rw [Bool.eq_iff_iff, h]; unfold kindB; rw [decide_eq_true_iff]
theorem actB_eq {n : Nat} {k t a b : Int} {x : Bool} (h : x = true ↔ (1 ≤ k ∧ k ≤ 4 ∧ 0 ≤ t ∧ t < (n : Int) ∧ n ≤ 300 ∧ (k = 1 → a = 0) ∧ (k ≠ 3 → b = 0))) : x = actB n k t a b := by
  rw [Bool.eq_iff_iff, h]; unfold actB; rw [decide_eq_true_iff]
theorem hasB_eq {n : Nat} {t : Int} {x : Bool} (h : x = true ↔ (0 ≤ t ∧ t < (n : Int))) : x = hasB n t := by
  rw [Bool.eq_iff_iff, h]; unfold hasB; rw [decide_eq_true_iff]
theorem actB_parts (n : Nat) (k t a b : Int) : actB n k t a b = (kindB k a b && (hasB n t && decide (n ≤ 300))) := by
  rw [Bool.eq_iff_iff]; unfold actB kindB hasB; simp only [Bool.and_eq_true, decide_eq_true_iff]; omega
/- what an act leaves in the row, and what it tells -/
def actNew (x k a b : Int) : Int := if k = 2 then a else if k = 3 then (if x = a then b else x) else if k = 4 then wrap64 (x + a) else x
def actTold (x k a : Int) : Int := if k = 2 then 0 else if k = 3 then (if x = a then 1 else 0) else if k = 4 then wrap64 (x + a) else x
def memDo (xs : List Int) (k t a b : Int) : List Int := xs.set t.toNat (actNew (xs.getD t.toNat 0) k a b)

end Go.Proofs.Ytikliofkplbdpaa

namespace Go.Proofs.Ytikliofkplbdpaa
open Go.ChangeShapes Go.WideShapes Go.ChangeAt Go.RowKit
set_option linter.unusedVariables false

structure Cl where
  k : Int
  a : Int
  x : Int
  pc : Int
  p : Int
  c : Int
  w : Int
  r : Int
  v : Int
  d : Bool
structure Ac where
  k : Int
  t : Int
  a : Int
  b : Int
def clZero : Cl := ⟨0, 0, 0, 0, 0, 0, 0, 0, 0, false⟩
def acZero : Ac := ⟨0, 0, 0, 0⟩
def szB (n : Int) : Bool := decide (1 ≤ n ∧ n ≤ 16)
def stCall (k a : Int) : Cl := if k = 1 then { clZero with k := 1, a := a } else if k = 2 then { clZero with k := 2 } else clZero
def placeOf (k a w : Int) : Int := if k = 1 then a else unI w - 1
def stPlace (c : Cl) : Int := placeOf c.k c.a c.w
def stBad (n : Int) (c : Cl) : Bool := c.d || !szB n || decide (c.k < 1 ∨ 2 < c.k ∨ c.pc < 0 ∨ 2 < c.pc)
def stNext (c : Cl) : Int := if c.k = 1 then stPlace c + 1 else c.c
def stAct (n : Int) (c : Cl) : Option Ac :=
  if stBad n c = true then none
  else if c.k = 2 ∧ c.pc = 0 then some ⟨1, 0, 0, 0⟩
  else if ¬ (0 ≤ stPlace c ∧ stPlace c ≤ n - 1) then none
  else if c.pc = 0 then some ⟨1, 0, 0, 0⟩
  else if c.pc = 1 then (if c.k = 1 then some ⟨2, 1 + stPlace c, unI c.w, 0⟩ else some ⟨1, 1 + stPlace c, 0, 0⟩)
  else if pkB (ntT (unT c.w)) (stNext c) = true then some ⟨3, 0, c.w, pkW (ntT (unT c.w)) (stNext c)⟩ else none
def stRow (n k : Nat) : List Int := (List.range (n + 1)).map fun j => if j < k then (j : Int) + 1 else 0
theorem stRow_len (n k : Nat) : (stRow n k).length = n + 1 := by simp [stRow]
theorem stRow_zero (n : Nat) : stRow n 0 = List.replicate (n + 1) 0 := by
  apply List.ext_getElem <;> simp [stRow]
theorem stRow_set (n k : Nat) (h : k < n) : (stRow n k).set k ((k : Int) + 1) = stRow n (k + 1) := by
  apply List.ext_getElem
  · simp [stRow]
  · intro i h1 h2
    simp [stRow, List.getElem_set]
    by_cases e : k = i
    · subst e; simp
    · rw [if_neg e]
      by_cases c : i < k
      · rw [if_pos c, if_pos (by omega)]
      · rw [if_neg c, if_neg (by omega)]
def stNewL (n : Int) (full : Bool) : List Int := if szB n = true then stRow n.toNat (if full then n.toNat else 0) else []
theorem stNewL_len (n : Int) (full : Bool) : (stNewL n full).length ≤ 17 := by
  unfold stNewL
  by_cases h : szB n = true
  · rw [if_pos h, stRow_len]
    have : 1 ≤ n ∧ n ≤ 16 := of_decide_eq_true h
    omega
  · rw [if_neg h]; simp

end Go.Proofs.Ytikliofkplbdpaa

namespace Go.Proofs.Ytikliofkplbdpaa
open Go.ChangeShapes Go.WideShapes Go.ChangeAt Go.RowKit
set_option linter.unusedVariables false

structure Th where
  cs : List Cl
  at_ : Int
  bs : List Int
  es : List Int
structure Cw where
  what : Int
  size : Int
  m : List Int
  ts : List Th
  clock : Int
instance : Inhabited Cl := ⟨clZero⟩
instance : Inhabited Th := ⟨⟨[], 0, [], []⟩⟩
/- a call in ten cells, a thread in four -/
def At10 (w : World) (b o : Nat) (c : Cl) : Prop :=
  w.cell? ⟨b, o, none⟩ = some (.int .i64 c.k) ∧ w.cell? ⟨b, o + 1, none⟩ = some (.int .i64 c.a) ∧ w.cell? ⟨b, o + 2, none⟩ = some (.int .i64 c.x) ∧ w.cell? ⟨b, o + 3, none⟩ = some (.int .i64 c.pc) ∧ w.cell? ⟨b, o + 4, none⟩ = some (.int .i64 c.p) ∧ w.cell? ⟨b, o + 5, none⟩ = some (.int .i64 c.c) ∧ w.cell? ⟨b, o + 6, none⟩ = some (.int .i64 c.w) ∧ w.cell? ⟨b, o + 7, none⟩ = some (.int .i64 c.r) ∧ w.cell? ⟨b, o + 8, none⟩ = some (.int .i64 c.v) ∧ w.cell? ⟨b, o + 9, none⟩ = some (.bool c.d)
def At4 (w : World) (b o : Nat) (v0 v1 v2 v3 : Value) : Prop :=
  w.cell? ⟨b, o, none⟩ = some v0 ∧ w.cell? ⟨b, o + 1, none⟩ = some v1 ∧ w.cell? ⟨b, o + 2, none⟩ = some v2 ∧ w.cell? ⟨b, o + 3, none⟩ = some v3
theorem At10.of {w w' : World} {b o : Nat} {c : Cl} (h : At10 w b o c) (hb : ∀ q, w'.cell? ⟨b, q, none⟩ = w.cell? ⟨b, q, none⟩) : At10 w' b o c := by
  obtain ⟨h0, h1, h2, h3, h4, h5, h6, h7, h8, h9⟩ := h
  exact ⟨(hb _).trans h0, (hb _).trans h1, (hb _).trans h2, (hb _).trans h3, (hb _).trans h4, (hb _).trans h5, (hb _).trans h6, (hb _).trans h7, (hb _).trans h8, (hb _).trans h9⟩
theorem At4.of {w w' : World} {b o : Nat} {v0 v1 v2 v3 : Value} (h : At4 w b o v0 v1 v2 v3) (hb : ∀ q, w'.cell? ⟨b, q, none⟩ = w.cell? ⟨b, q, none⟩) : At4 w' b o v0 v1 v2 v3 := by
  obtain ⟨h0, h1, h2, h3⟩ := h
  exact ⟨(hb _).trans h0, (hb _).trans h1, (hb _).trans h2, (hb _).trans h3⟩
theorem cells_of_block {w w' : World} {b : Nat} (h : w'.heap[b]? = w.heap[b]?) : ∀ q, w'.cell? ⟨b, q, none⟩ = w.cell? ⟨b, q, none⟩ := fun q => World.cell?_of_block (a := ⟨b, q, none⟩) h
theorem frozen_of_block {w w' : World} {b : Nat} (h : w'.heap[b]? = w.heap[b]?) : ∀ q, w'.frozen? ⟨b, q, none⟩ = w.frozen? ⟨b, q, none⟩ := fun q => World.frozen?_of_block (a := ⟨b, q, none⟩) h
/- read -/
def CallsIn (w : World) (v : Value) (cs : List Cl) : Prop :=
  ∃ a cap, v = .slice a cs.length cap ∧ cs.length ≤ cap ∧ (cs = [] ∨ ∃ b off, a = some ⟨b, off, none⟩ ∧ b < w.heap.size ∧ ∀ j (hj : j < cs.length), At10 w b (off + j * 10) cs[j])
def IntsIn (w : World) (v : Value) (xs : List Int) : Prop := InRow w v xs ∧ ∃ a cap, v = .slice a xs.length cap ∧ True
structure ThIn (w : World) (v0 v2 v3 : Value) (t : Th) : Prop where
  cs : CallsIn w v0 t.cs
  bs : IntsIn w v2 t.bs
  es : IntsIn w v3 t.es
def ThsIn (w : World) (v : Value) (ts : List Th) : Prop :=
  ∃ a cap, v = .slice a ts.length cap ∧ ts.length ≤ cap ∧ (ts = [] ∨ ∃ b off, a = some ⟨b, off, none⟩ ∧ b < w.heap.size ∧ ∀ j (hj : j < ts.length), ∃ v0 v2 v3, At4 w b (off + j * 4) v0 (.int .i64 ts[j].at_) v2 v3 ∧ ThIn w v0 v2 v3 ts[j])
structure CwIn (w : World) (vm vt : Value) (C : Cw) : Prop where
  m : IntsIn w vm C.m
  ts : ThsIn w vt C.ts
theorem IntsIn.below {w w' : World} {v : Value} {xs : List Int} (h : IntsIn w v xs) (hb : Below w.heap.size w w') : IntsIn w' v xs := ⟨h.1.below hb, h.2⟩
theorem CallsIn.below {w w' : World} {v : Value} {cs : List Cl} (h : CallsIn w v cs) (hb : Below w.heap.size w w') : CallsIn w' v cs := by
  obtain ⟨a, cap, hv, hc, h⟩ := h
  refine ⟨a, cap, hv, hc, ?_⟩
  rcases h with h | ⟨b, off, ha, h1, h2⟩
  · exact .inl h
  · exact .inr ⟨b, off, ha, Nat.lt_of_lt_of_le h1 hb.size, fun j hj => (h2 j hj).of (cells_of_block (hb.block b h1))⟩
theorem ThIn.below {w w' : World} {v0 v2 v3 : Value} {t : Th} (h : ThIn w v0 v2 v3 t) (hb : Below w.heap.size w w') : ThIn w' v0 v2 v3 t := ⟨h.cs.below hb, h.bs.below hb, h.es.below hb⟩
theorem ThsIn.below {w w' : World} {v : Value} {ts : List Th} (h : ThsIn w v ts) (hb : Below w.heap.size w w') : ThsIn w' v ts := by
  obtain ⟨a, cap, hv, hc, h⟩ := h
  refine ⟨a, cap, hv, hc, ?_⟩
  rcases h with h | ⟨b, off, ha, h1, h2⟩
  · exact .inl h
  · refine .inr ⟨b, off, ha, Nat.lt_of_lt_of_le h1 hb.size, fun j hj => ?_⟩
    obtain ⟨v0, v2, v3, h3, h4⟩ := h2 j hj
    exact ⟨v0, v2, v3, h3.of (cells_of_block (hb.block b h1)), h4.below hb⟩
theorem CwIn.below {w w' : World} {vm vt : Value} {C : Cw} (h : CwIn w vm vt C) (hb : Below w.heap.size w w') : CwIn w' vm vt C := ⟨h.m.below hb, h.ts.below hb⟩
theorem CallsIn.form {w : World} {v : Value} {cs : List Cl} (h : CallsIn w v cs) : ∃ a c, v = .slice a cs.length c ∧ cs.length ≤ c := by
  obtain ⟨a, c, h1, h2, _⟩ := h
  exact ⟨a, c, h1, h2⟩
theorem IntsIn.form {w : World} {v : Value} {xs : List Int} (h : IntsIn w v xs) : ∃ a c, v = .slice a xs.length c ∧ True := h.2
theorem ThsIn.form {w : World} {v : Value} {ts : List Th} (h : ThsIn w v ts) : ∃ a c, v = .slice a ts.length c ∧ ts.length ≤ c := by
  obtain ⟨a, c, h1, h2, _⟩ := h
  exact ⟨a, c, h1, h2⟩
/- owned: fp lists the blocks -/
def IntsO (w : World) (v : Value) (xs : List Int) (fp : List Nat) : Prop :=
  ∃ a cap, v = .slice a xs.length cap ∧ True ∧ ((xs = [] ∧ fp = []) ∨ ∃ g, a = some ⟨g, 0, none⟩ ∧ fp = [g] ∧ g < w.heap.size ∧ (∀ j (hj : j < xs.length), w.cell? ⟨g, j, none⟩ = some (.int .i64 xs[j])) ∧ ∀ j, w.frozen? ⟨g, j, none⟩ = false)
def CallsO (w : World) (v : Value) (cs : List Cl) (fp : List Nat) : Prop :=
  ∃ a cap, v = .slice a cs.length cap ∧ cs.length ≤ cap ∧ ((cs = [] ∧ fp = []) ∨ ∃ g, a = some ⟨g, 0, none⟩ ∧ fp = [g] ∧ g < w.heap.size ∧ (∀ j (hj : j < cs.length), At10 w g (j * 10) cs[j]) ∧ ∀ j, w.frozen? ⟨g, j, none⟩ = false)
def ThO (w : World) (v0 v2 v3 : Value) (t : Th) (fp : List Nat) : Prop :=
  ∃ f0 f2 f3, fp = f0 ++ (f2 ++ f3) ∧ CallsO w v0 t.cs f0 ∧ IntsO w v2 t.bs f2 ∧ IntsO w v3 t.es f3
def ThsO (w : World) (v : Value) (ts : List Th) (fp : List Nat) : Prop :=
  ∃ a cap, v = .slice a ts.length cap ∧ ts.length ≤ cap ∧ ((ts = [] ∧ fp = []) ∨ ∃ (g : Nat) (fps : Nat → List Nat), a = some ⟨g, 0, none⟩ ∧ fp = g :: (List.range ts.length).flatMap fps ∧ g < w.heap.size ∧ (∀ j (hj : j < ts.length), ∃ v0 v2 v3, At4 w g (j * 4) v0 (.int .i64 ts[j].at_) v2 v3 ∧ ThO w v0 v2 v3 ts[j] (fps j)) ∧ ∀ j, w.frozen? ⟨g, j, none⟩ = false)
def CwO (w : World) (vm vt : Value) (C : Cw) (fp : List Nat) : Prop :=
  ∃ f0 f1, fp = f0 ++ f1 ∧ IntsO w vm C.m f0 ∧ ThsO w vt C.ts f1
theorem lt_of_block {w w' : World} {b : Nat} (h : w'.heap[b]? = w.heap[b]?) (k : b < w.heap.size) : b < w'.heap.size := by
  rw [Array.getElem?_eq_getElem k] at h
  exact (Array.getElem?_eq_some_iff.1 h).1
theorem IntsO.loc' {w w' : World} {v : Value} {xs : List Int} {fp : List Nat} (h : IntsO w v xs fp) (hb : ∀ g ∈ fp, w'.heap[g]? = w.heap[g]?) : IntsO w' v xs fp := by
  obtain ⟨a, cap, hv, hc, h⟩ := h
  refine ⟨a, cap, hv, hc, ?_⟩
  rcases h with h | ⟨g, ha, hf, h1, h2, h3⟩
  · exact .inl h
  · have e := hb g (by rw [hf]; exact List.mem_singleton.2 rfl)
    exact .inr ⟨g, ha, hf, lt_of_block e h1, fun j hj => (cells_of_block e j).trans (h2 j hj), fun j => (frozen_of_block e j).trans (h3 j)⟩
theorem CallsO.loc' {w w' : World} {v : Value} {xs : List Cl} {fp : List Nat} (h : CallsO w v xs fp) (hb : ∀ g ∈ fp, w'.heap[g]? = w.heap[g]?) : CallsO w' v xs fp := by
  obtain ⟨a, cap, hv, hc, h⟩ := h
  refine ⟨a, cap, hv, hc, ?_⟩
  rcases h with h | ⟨g, ha, hf, h1, h2, h3⟩
  · exact .inl h
  · have e := hb g (by rw [hf]; exact List.mem_singleton.2 rfl)
    exact .inr ⟨g, ha, hf, lt_of_block e h1, fun j hj => (h2 j hj).of (cells_of_block e), fun j => (frozen_of_block e j).trans (h3 j)⟩
theorem ThO.loc' {w w' : World} {v0 v2 v3 : Value} {t : Th} {fp : List Nat} (h : ThO w v0 v2 v3 t fp) (hb : ∀ g ∈ fp, w'.heap[g]? = w.heap[g]?) : ThO w' v0 v2 v3 t fp := by
  obtain ⟨f0, f2, f3, rfl, h0, h2, h3⟩ := h
  exact ⟨f0, f2, f3, rfl, h0.loc' (fun g hg => hb g (by simp [hg])), h2.loc' (fun g hg => hb g (by simp [hg])), h3.loc' (fun g hg => hb g (by simp [hg]))⟩
theorem ThsO.loc' {w w' : World} {v : Value} {ts : List Th} {fp : List Nat} (h : ThsO w v ts fp) (hb : ∀ g ∈ fp, w'.heap[g]? = w.heap[g]?) : ThsO w' v ts fp := by
  obtain ⟨a, cap, hv, hc, h⟩ := h
  refine ⟨a, cap, hv, hc, ?_⟩
  rcases h with h | ⟨g, fps, ha, hf, h1, h2, h3⟩
  · exact .inl h
  · have e := hb g (by rw [hf]; exact List.mem_cons_self ..)
    refine .inr ⟨g, fps, ha, hf, lt_of_block e h1, fun j hj => ?_, fun j => (frozen_of_block e j).trans (h3 j)⟩
    obtain ⟨v0, v2, v3, h4, h5⟩ := h2 j hj
    exact ⟨v0, v2, v3, h4.of (cells_of_block e), h5.loc' (fun x hx => hb x (by rw [hf]; exact List.mem_cons_of_mem _ (List.mem_flatMap.2 ⟨j, List.mem_range.2 hj, hx⟩)))⟩
theorem CwO.loc' {w w' : World} {vm vt : Value} {C : Cw} {fp : List Nat} (h : CwO w vm vt C fp) (hb : ∀ g ∈ fp, w'.heap[g]? = w.heap[g]?) : CwO w' vm vt C fp := by
  obtain ⟨f0, f1, rfl, h0, h1⟩ := h
  exact ⟨f0, f1, rfl, h0.loc' (fun g hg => hb g (by simp [hg])), h1.loc' (fun g hg => hb g (by simp [hg]))⟩
theorem IntsO.loc {w w' : World} {v : Value} {xs : List Int} {fp : List Nat} (h : IntsO w v xs fp) (hz : w.heap.size ≤ w'.heap.size) (hb : ∀ g ∈ fp, w'.heap[g]? = w.heap[g]?) : IntsO w' v xs fp := h.loc' hb
theorem CallsO.loc {w w' : World} {v : Value} {xs : List Cl} {fp : List Nat} (h : CallsO w v xs fp) (hz : w.heap.size ≤ w'.heap.size) (hb : ∀ g ∈ fp, w'.heap[g]? = w.heap[g]?) : CallsO w' v xs fp := h.loc' hb
theorem ThO.loc {w w' : World} {v0 v2 v3 : Value} {t : Th} {fp : List Nat} (h : ThO w v0 v2 v3 t fp) (hz : w.heap.size ≤ w'.heap.size) (hb : ∀ g ∈ fp, w'.heap[g]? = w.heap[g]?) : ThO w' v0 v2 v3 t fp := h.loc' hb
theorem ThsO.loc {w w' : World} {v : Value} {ts : List Th} {fp : List Nat} (h : ThsO w v ts fp) (hz : w.heap.size ≤ w'.heap.size) (hb : ∀ g ∈ fp, w'.heap[g]? = w.heap[g]?) : ThsO w' v ts fp := h.loc' hb
theorem CwO.loc {w w' : World} {vm vt : Value} {C : Cw} {fp : List Nat} (h : CwO w vm vt C fp) (hz : w.heap.size ≤ w'.heap.size) (hb : ∀ g ∈ fp, w'.heap[g]? = w.heap[g]?) : CwO w' vm vt C fp := h.loc' hb
theorem IntsO.lt {w : World} {v : Value} {xs : List Int} {fp : List Nat} (h : IntsO w v xs fp) : ∀ g ∈ fp, g < w.heap.size := by
  obtain ⟨a, cap, hv, hc, ⟨-, rfl⟩ | ⟨g, ha, rfl, h1, -⟩⟩ := h
  · simp
  · simpa using h1
theorem CallsO.lt {w : World} {v : Value} {xs : List Cl} {fp : List Nat} (h : CallsO w v xs fp) : ∀ g ∈ fp, g < w.heap.size := by
  obtain ⟨a, cap, hv, hc, ⟨-, rfl⟩ | ⟨g, ha, rfl, h1, -⟩⟩ := h
  · simp
  · simpa using h1
theorem ThO.lt {w : World} {v0 v2 v3 : Value} {t : Th} {fp : List Nat} (h : ThO w v0 v2 v3 t fp) : ∀ g ∈ fp, g < w.heap.size := by
  obtain ⟨f0, f2, f3, rfl, h0, h2, h3⟩ := h
  intro g hg
  simp only [List.mem_append] at hg
  rcases hg with hg | hg | hg
  · exact h0.lt g hg
  · exact h2.lt g hg
  · exact h3.lt g hg
theorem ThsO.lt {w : World} {v : Value} {ts : List Th} {fp : List Nat} (h : ThsO w v ts fp) : ∀ g ∈ fp, g < w.heap.size := by
  obtain ⟨a, cap, hv, hc, ⟨-, rfl⟩ | ⟨g, fps, ha, rfl, h1, h2, -⟩⟩ := h
  · simp
  · intro x hx
    rcases List.mem_cons.1 hx with rfl | hx
    · exact h1
    · obtain ⟨j, hj, hx⟩ := List.mem_flatMap.1 hx
      obtain ⟨v0, v2, v3, -, h5⟩ := h2 j (List.mem_range.1 hj)
      exact h5.lt x hx
theorem CwO.lt {w : World} {vm vt : Value} {C : Cw} {fp : List Nat} (h : CwO w vm vt C fp) : ∀ g ∈ fp, g < w.heap.size := by
  obtain ⟨f0, f1, rfl, h0, h1⟩ := h
  intro g hg
  rcases List.mem_append.1 hg with hg | hg
  · exact h0.lt g hg
  · exact h1.lt g hg
theorem IntsO.below {w w' : World} {v : Value} {xs : List Int} {fp : List Nat} (h : IntsO w v xs fp) (hb : Below w.heap.size w w') : IntsO w' v xs fp := h.loc hb.size (fun g hg => hb.block g (h.lt g hg))
theorem CallsO.below {w w' : World} {v : Value} {xs : List Cl} {fp : List Nat} (h : CallsO w v xs fp) (hb : Below w.heap.size w w') : CallsO w' v xs fp := h.loc hb.size (fun g hg => hb.block g (h.lt g hg))
theorem ThO.below {w w' : World} {v0 v2 v3 : Value} {t : Th} {fp : List Nat} (h : ThO w v0 v2 v3 t fp) (hb : Below w.heap.size w w') : ThO w' v0 v2 v3 t fp := h.loc hb.size (fun g hg => hb.block g (h.lt g hg))
theorem ThsO.below {w w' : World} {v : Value} {ts : List Th} {fp : List Nat} (h : ThsO w v ts fp) (hb : Below w.heap.size w w') : ThsO w' v ts fp := h.loc hb.size (fun g hg => hb.block g (h.lt g hg))
theorem CwO.below {w w' : World} {vm vt : Value} {C : Cw} {fp : List Nat} (h : CwO w vm vt C fp) (hb : Below w.heap.size w w') : CwO w' vm vt C fp := h.loc hb.size (fun g hg => hb.block g (h.lt g hg))
/- what is owned can be read -/
theorem IntsO.rd {w : World} {v : Value} {xs : List Int} {fp : List Nat} (h : IntsO w v xs fp) : IntsIn w v xs := by
  obtain ⟨a, cap, hv, hc, h⟩ := h
  refine ⟨⟨a, cap, hv, ?_⟩, a, cap, hv, hc⟩
  rcases h with ⟨h, -⟩ | ⟨g, ha, -, h1, h2, -⟩
  · exact .inl h
  · exact .inr ⟨g, 0, ha, h1, fun j hj => by rw [Nat.zero_add]; exact h2 j hj⟩
theorem CallsO.rd {w : World} {v : Value} {xs : List Cl} {fp : List Nat} (h : CallsO w v xs fp) : CallsIn w v xs := by
  obtain ⟨a, cap, hv, hc, h⟩ := h
  refine ⟨a, cap, hv, hc, ?_⟩
  rcases h with ⟨h, -⟩ | ⟨g, ha, -, h1, h2, -⟩
  · exact .inl h
  · exact .inr ⟨g, 0, ha, h1, fun j hj => by rw [Nat.zero_add]; exact h2 j hj⟩
theorem ThO.rd {w : World} {v0 v2 v3 : Value} {t : Th} {fp : List Nat} (h : ThO w v0 v2 v3 t fp) : ThIn w v0 v2 v3 t := by
  obtain ⟨f0, f2, f3, -, h0, h2, h3⟩ := h
  exact ⟨h0.rd, h2.rd, h3.rd⟩
theorem ThsO.rd {w : World} {v : Value} {ts : List Th} {fp : List Nat} (h : ThsO w v ts fp) : ThsIn w v ts := by
  obtain ⟨a, cap, hv, hc, h⟩ := h
  refine ⟨a, cap, hv, hc, ?_⟩
  rcases h with ⟨h, -⟩ | ⟨g, fps, ha, -, h1, h2, -⟩
  · exact .inl h
  · refine .inr ⟨g, 0, ha, h1, fun j hj => ?_⟩
    obtain ⟨v0, v2, v3, h4, h5⟩ := h2 j hj
    exact ⟨v0, v2, v3, by rw [Nat.zero_add]; exact h4, h5.rd⟩
theorem CwO.rd {w : World} {vm vt : Value} {C : Cw} {fp : List Nat} (h : CwO w vm vt C fp) : CwIn w vm vt C := by
  obtain ⟨f0, f1, -, h0, h1⟩ := h
  exact ⟨h0.rd, h1.rd⟩
/- a row in blocks from lo to hi is owned -/
theorem ints_own {w : World} {lo hi : Nat} {v : Value} {xs : List Int} (h : Row w lo hi v (ints xs)) (hz : hi ≤ w.heap.size) : ∃ fp, IntsO w v xs fp ∧ fp.Nodup ∧ ∀ g ∈ fp, lo ≤ g ∧ g < hi := by
  obtain ⟨a, cap, rfl, h⟩ := h
  rcases h with h | ⟨g, rfl, h1, h2, h3, h4⟩
  · exact ⟨[], ⟨a, cap, by rw [ints_len], trivial, .inl ⟨by simpa using h, rfl⟩⟩, List.nodup_nil, by simp⟩
  · refine ⟨[g], ⟨_, cap, by rw [ints_len], trivial, .inr ⟨g, rfl, rfl, by omega, fun j hj => ?_, h4⟩⟩, by simp, by simp; omega⟩
    rw [h3 j (by simpa using hj)]
    simp
theorem IntsO.row {w : World} {v : Value} {xs : List Int} {fp : List Nat} (h : IntsO w v xs fp) : Row w 0 w.heap.size v (ints xs) := by
  obtain ⟨a, cap, rfl, hc, h⟩ := h
  refine ⟨a, cap, by rw [ints_len], ?_⟩
  rcases h with ⟨rfl, -⟩ | ⟨g, ha, -, h1, h2, h3⟩
  · exact .inl rfl
  · exact .inr ⟨g, ha, by omega, h1, fun j hj => by rw [h2 j (by simpa using hj)]; simp, h3⟩
theorem nodup_app {l m : List Nat} {s : Nat} (hl : l.Nodup) (hm : m.Nodup) (h1 : ∀ g ∈ l, g < s) (h2 : ∀ g ∈ m, s ≤ g) : (l ++ m).Nodup :=
  List.nodup_append.2 ⟨hl, hm, fun a ha b hb => by have := h1 a ha; have := h2 b hb; omega⟩
theorem flat_congr (n : Nat) (f f' : Nat → List Nat) (h : ∀ j, j < n → f' j = f j) : (List.range n).flatMap f' = (List.range n).flatMap f := by
  induction n with
  | zero => rfl
  | succ n ih => rw [List.range_succ, List.flatMap_append, List.flatMap_append, ih (fun j hj => h j (by omega))]; simp [h n (by omega)]
theorem flat_succ (n : Nat) (f : Nat → List Nat) (x : List Nat) : (List.range (n + 1)).flatMap (fun j => if j = n then x else f j) = (List.range n).flatMap f ++ x := by
  rw [List.range_succ, List.flatMap_append, flat_congr n f _ (fun j hj => by rw [if_neg (by omega)])]
  simp

end Go.Proofs.Ytikliofkplbdpaa

namespace Go.Proofs.Ytikliofkplbdpaa
open Go.ChangeShapes Go.WideShapes Go.ChangeAt Go.RowKit
set_option linter.unusedVariables false



end Go.Proofs.Ytikliofkplbdpaa

namespace Go.Proofs.Ytikliofkplbdpaa
open Go.ChangeShapes Go.WideShapes Go.ChangeAt Go.RowKit
set_option linter.unusedVariables false

def put10 (w : World) (g o : Nat) (c : Cl) : World := (((((((((w.setCell ⟨g, o, none⟩ (.int .i64 c.k)).setCell ⟨g, o + 1, none⟩ (.int .i64 c.a)).setCell ⟨g, o + 2, none⟩ (.int .i64 c.x)).setCell ⟨g, o + 3, none⟩ (.int .i64 c.pc)).setCell ⟨g, o + 4, none⟩ (.int .i64 c.p)).setCell ⟨g, o + 5, none⟩ (.int .i64 c.c)).setCell ⟨g, o + 6, none⟩ (.int .i64 c.w)).setCell ⟨g, o + 7, none⟩ (.int .i64 c.r)).setCell ⟨g, o + 8, none⟩ (.int .i64 c.v)).setCell ⟨g, o + 9, none⟩ (.bool c.d)
theorem put10_other (w : World) (g o : Nat) (c : Cl) (b q : Nat) (h : b ≠ g ∨ q < o ∨ o + 10 ≤ q) : (put10 w g o c).cell? ⟨b, q, none⟩ = w.cell? ⟨b, q, none⟩ := by
  unfold put10
  repeat rw [World.cell?_setCell_other _ _ _ _ (by simp; omega)]
theorem put10_frozen (w : World) (g o : Nat) (c : Cl) (b q : Nat) : (put10 w g o c).frozen? ⟨b, q, none⟩ = w.frozen? ⟨b, q, none⟩ := by
  unfold put10
  simp only [World.frozen?_setCell]
theorem put10_size (w : World) (g o : Nat) (c : Cl) : (put10 w g o c).heap.size = w.heap.size := by unfold put10; simp
theorem put10_kp (bs : List Nat) (u w : World) (g o : Nat) (c : Cl) (h : Kp bs u w) (hg : g ∈ bs ∨ u.heap.size ≤ g) : Kp bs u (put10 w g o c) := by
  unfold put10
  exact (((((((((h.setCell hg).setCell hg).setCell hg).setCell hg).setCell hg).setCell hg).setCell hg).setCell hg).setCell hg).setCell hg
theorem put10_below (B : Nat) (u w : World) (g o : Nat) (c : Cl) (h : Below B u w) (hg : B ≤ g) : Below B u (put10 w g o c) := by
  unfold put10
  exact (((((((((h.setCell hg _).setCell hg _).setCell hg _).setCell hg _).setCell hg _).setCell hg _).setCell hg _).setCell hg _).setCell hg _).setCell hg _
theorem setc_same {w : World} {b q : Nat} {x : Value} (h : ∃ y, w.cell? ⟨b, q, none⟩ = some y) : (w.setCell ⟨b, q, none⟩ x).cell? ⟨b, q, none⟩ = some x := by
  obtain ⟨y, hy⟩ := h
  exact World.cell?_setCell_same _ _ _ hy
theorem setc_any {w : World} {b q b' q' : Nat} {x : Value} (h : ∃ y, w.cell? ⟨b, q, none⟩ = some y) : ∃ y, (w.setCell ⟨b', q', none⟩ x).cell? ⟨b, q, none⟩ = some y := by
  by_cases e : (⟨b, q, none⟩ : Addr) = ⟨b', q', none⟩
  · obtain ⟨y, hy⟩ := h
    have e2 : b = b' ∧ q = q' := by simpa using e
    obtain ⟨rfl, rfl⟩ := e2
    exact ⟨x, World.cell?_setCell_same _ _ _ hy⟩
  · rw [World.cell?_setCell_other _ _ _ _ (fun h => e h.symm)]
    exact h
theorem setc_up {w : World} {b q q' : Nat} {x v : Value} (h : q < q') (k : w.cell? ⟨b, q, none⟩ = some v) : (w.setCell ⟨b, q', none⟩ x).cell? ⟨b, q, none⟩ = some v := by
  rw [World.cell?_setCell_other _ _ _ _ (by simp <;> omega)]
  exact k
theorem put10_same (w : World) (g o : Nat) (c : Cl) (h : ∀ i, i < 10 → ∃ y, w.cell? ⟨g, o + i, none⟩ = some y) : At10 (put10 w g o c) g o c := by
  have h0 := h 0 (by omega)
  have h1 := h 1 (by omega)
  have h2 := h 2 (by omega)
  have h3 := h 3 (by omega)
  have h4 := h 4 (by omega)
  have h5 := h 5 (by omega)
  have h6 := h 6 (by omega)
  have h7 := h 7 (by omega)
  have h8 := h 8 (by omega)
  have h9 := h 9 (by omega)
  rw [Nat.add_zero] at h0
  unfold put10
  refine ⟨?_, ?_, ?_, ?_, ?_, ?_, ?_, ?_, ?_, ?_⟩
  all_goals (repeat (refine setc_up ?_ ?_; (focus omega)))
  all_goals (refine setc_same ?_; repeat (first | with_reducible assumption | refine setc_any ?_))
theorem put10_at (w : World) (g o : Nat) (c c' : Cl) (b q : Nat) (h : At10 w b q c') (hn : b ≠ g ∨ q + 10 ≤ o ∨ o + 10 ≤ q) : At10 (put10 w g o c) b q c' := by
  have k := fun i (hi : i < 10) => put10_other w g o c b (q + i) (by omega)
  obtain ⟨h0, h1, h2, h3, h4, h5, h6, h7, h8, h9⟩ := h
  generalize put10 w g o c = W at k
  exact ⟨(k 0 (by omega)).trans h0, (k 1 (by omega)).trans h1, (k 2 (by omega)).trans h2, (k 3 (by omega)).trans h3, (k 4 (by omega)).trans h4, (k 5 (by omega)).trans h5, (k 6 (by omega)).trans h6, (k 7 (by omega)).trans h7, (k 8 (by omega)).trans h8, (k 9 (by omega)).trans h9⟩
def CallsNew (w w' : World) (v : Value) (L : List Cl) : Prop := ∃ fp, CallsO w' v L fp ∧ fp.Nodup ∧ (∀ g ∈ fp, w.heap.size ≤ g) ∧ Below w.heap.size w w'

theorem At10.keep {w w' : World} {b o : Nat} {c : Cl} (h : At10 w b o c) (hz : b < w.heap.size) (hb : Below w.heap.size w w') : At10 w' b o c := h.of (cells_of_block (hb.block b hz))
def Two10 (W0 W : World) (a p b q : Nat) (c : Cl) : Prop := Below W0.heap.size W0 W ∧ At10 W a p c ∧ At10 W b q c ∧ a < W.heap.size ∧ b < W.heap.size
theorem Two10.keep {W0 W W' : World} {a p b q : Nat} {c : Cl} (h : Two10 W0 W a p b q c) (hb : Below W.heap.size W W') : Two10 W0 W' a p b q c := by
  obtain ⟨h0, h1, h2, h3, h4⟩ := h
  have := hb.size
  exact ⟨below_step h0 hb, h1.keep h3 hb, h2.keep h4 hb, by omega, by omega⟩
def lim10 (W0 W : World) (a p b q : Nat) (c : Cl) : Prop := Two10 W0 W a p b q c ∧ W.cell? ⟨a, p, none⟩ = some (.int .i64 c.k) ∧ W.cell? ⟨a, p + 1, none⟩ = some (.int .i64 c.a) ∧ W.cell? ⟨a, p + 2, none⟩ = some (.int .i64 c.x) ∧ W.cell? ⟨a, p + 3, none⟩ = some (.int .i64 c.pc) ∧ W.cell? ⟨a, p + 4, none⟩ = some (.int .i64 c.p) ∧ W.cell? ⟨a, p + 5, none⟩ = some (.int .i64 c.c) ∧ W.cell? ⟨a, p + 6, none⟩ = some (.int .i64 c.w) ∧ W.cell? ⟨a, p + 7, none⟩ = some (.int .i64 c.r) ∧ W.cell? ⟨a, p + 8, none⟩ = some (.int .i64 c.v) ∧ W.cell? ⟨a, p + 9, none⟩ = some (.bool c.d) ∧
  W.cell? ⟨b, q, none⟩ = some (.int .i64 c.k) ∧ W.cell? ⟨b, q + 1, none⟩ = some (.int .i64 c.a) ∧ W.cell? ⟨b, q + 2, none⟩ = some (.int .i64 c.x) ∧ W.cell? ⟨b, q + 3, none⟩ = some (.int .i64 c.pc) ∧ W.cell? ⟨b, q + 4, none⟩ = some (.int .i64 c.p) ∧ W.cell? ⟨b, q + 5, none⟩ = some (.int .i64 c.c) ∧ W.cell? ⟨b, q + 6, none⟩ = some (.int .i64 c.w) ∧ W.cell? ⟨b, q + 7, none⟩ = some (.int .i64 c.r) ∧ W.cell? ⟨b, q + 8, none⟩ = some (.int .i64 c.v) ∧ W.cell? ⟨b, q + 9, none⟩ = some (.bool c.d)
theorem lim10_of {W0 W : World} {a p b q : Nat} {c : Cl} (h : Two10 W0 W a p b q c) : lim10 W0 W a p b q c := by
  have h' := h
  obtain ⟨-, ⟨h0, h1, h2, h3, h4, h5, h6, h7, h8, h9⟩, ⟨g0, g1, g2, g3, g4, g5, g6, g7, g8, g9⟩, -⟩ := h
  exact ⟨h', h0, h1, h2, h3, h4, h5, h6, h7, h8, h9, g0, g1, g2, g3, g4, g5, g6, g7, g8, g9⟩

theorem len_zero {α : Type} {L : List α} (h : ¬ 0 < L.length) : L = [] := List.length_eq_zero_iff.1 (by omega)
theorem clZero_cells (n j : Nat) (hj : j < n * 10) : ∃ y, (madeCells (.agg #[.int .i64 clZero.k, .int .i64 clZero.a, .int .i64 clZero.x, .int .i64 clZero.pc, .int .i64 clZero.p, .int .i64 clZero.c, .int .i64 clZero.w, .int .i64 clZero.r, .int .i64 clZero.v, .bool clZero.d] : Value).cells (n * 10))[j]? = some y := by
  have h : j < (madeCells (.agg #[.int .i64 clZero.k, .int .i64 clZero.a, .int .i64 clZero.x, .int .i64 clZero.pc, .int .i64 clZero.p, .int .i64 clZero.c, .int .i64 clZero.w, .int .i64 clZero.r, .int .i64 clZero.v, .bool clZero.d] : Value).cells (n * 10)).size := by simp [madeCells]; exact hj
  exact ⟨_, Array.getElem?_eq_getElem h⟩

end Go.Proofs.Ytikliofkplbdpaa

namespace Go.Proofs.Ytikliofkplbdpaa
open Go.ChangeShapes Go.WideShapes Go.ChangeAt Go.RowKit
set_option linter.unusedVariables false

def szR (l : Int) (n : Nat) : Int := if l < n then -1 else l - n
def szTh (t : Th) : Nat := t.cs.length + t.bs.length + t.es.length
def pS (ts : List Th) : Nat → Nat
  | 0 => 0
  | k + 1 => pS ts k + szTh (ts.getD k default)
def szThs (ts : List Th) : Nat := ts.length + pS ts ts.length
theorem pS_mono (ts : List Th) {a b : Nat} (h : a ≤ b) : pS ts a ≤ pS ts b := by
  induction b with
  | zero => obtain rfl : a = 0 := by omega
            exact Nat.le_refl _
  | succ b ih =>
    by_cases e : a = b + 1
    · subst e; exact Nat.le_refl _
    · exact Nat.le_trans (ih (by omega)) (Nat.le_add_right _ _)
def TsLim (ts : List Th) : Prop := ∀ j (hj : j < ts.length), ts[j].cs.length ≤ 9223372036854775807 ∧ ts[j].bs.length ≤ 9223372036854775807 ∧ ts[j].es.length ≤ 9223372036854775807
theorem getD_at {α : Type} [Inhabited α] (ts : List α) (k : Nat) (h : k < ts.length) : ts.getD k default = ts[k] := by simp [List.getD, List.getElem?_eq_getElem h]
theorem pS_step (ts : List Th) (k : Nat) (h : k < ts.length) : pS ts (k + 1) = pS ts k + szTh ts[k] := by
  show pS ts k + szTh (ts.getD k default) = _
  rw [getD_at ts k h]

end Go.Proofs.Ytikliofkplbdpaa

namespace Go.Proofs.Ytikliofkplbdpaa
open Go.ChangeShapes Go.WideShapes Go.ChangeAt Go.RowKit
set_option linter.unusedVariables false

/- a variable of the call's own: all its cells, and that it may be written -/
def Bx (W : World) (b : Nat) (xs : Array Value) : Prop := b < W.heap.size ∧ (∀ o, W.cell? ⟨b, o, none⟩ = xs[o]?) ∧ ∀ o, W.frozen? ⟨b, o, none⟩ = false
theorem Bx.block {W W' : World} {b : Nat} {xs : Array Value} (h : Bx W b xs) (hz : W.heap.size ≤ W'.heap.size) (e : W'.heap[b]? = W.heap[b]?) : Bx W' b xs :=
  ⟨Nat.lt_of_lt_of_le h.1 hz, fun o => (cells_of_block e o).trans (h.2.1 o), fun o => (frozen_of_block e o).trans (h.2.2 o)⟩
theorem Bx.below {W W' : World} {b : Nat} {xs : Array Value} (h : Bx W b xs) (hb : Below W.heap.size W W') : Bx W' b xs := h.block hb.size (hb.block b h.1)
theorem Bx.alloc {W : World} {b : Nat} {xs : Array Value} (h : Bx W b xs) (o : Obj) : Bx (W.alloc o) b xs := h.below ((Below.refl _ _).alloc (Nat.le_refl _) _)
theorem Bx.drew {W : World} {b : Nat} {xs : Array Value} (h : Bx W b xs) : Bx W.drew b xs := h.below ((Below.refl _ _).drew)
theorem Bx.new (W : World) (xs : Array Value) (T : TypeId) : Bx (W.alloc (.cells xs T)) W.heap.size xs := ⟨by simp, fun o => by simp [go_sem], fun o => by simp [go_sem]⟩
theorem Bx.newAt {W : World} {n : Nat} (xs : Array Value) (T : TypeId) (hn : n = W.heap.size) : Bx (W.alloc (.cells xs T)) n xs := by subst hn; exact Bx.new W xs T
theorem bx2 (w : World) (A B : Array Value) (Ta Tb : TypeId) : Bx ((w.alloc (.cells A Ta)).alloc (.cells B Tb)) w.heap.size A ∧ Bx ((w.alloc (.cells A Ta)).alloc (.cells B Tb)) (w.heap.size + 1) B ∧ Below w.heap.size w ((w.alloc (.cells A Ta)).alloc (.cells B Tb)) ∧ ((w.alloc (.cells A Ta)).alloc (.cells B Tb)).heap.size = w.heap.size + 2 :=
  ⟨(Bx.new w _ _).alloc _, Bx.newAt _ _ (by simp), ((Below.refl w.heap.size w).alloc (Nat.le_refl _) _).alloc (by simp) _, by simp⟩
theorem bx3 (w : World) (A B C : Array Value) (Ta Tb Tc : TypeId) : Bx (((w.alloc (.cells A Ta)).alloc (.cells B Tb)).alloc (.cells C Tc)) w.heap.size A ∧ Bx (((w.alloc (.cells A Ta)).alloc (.cells B Tb)).alloc (.cells C Tc)) (w.heap.size + 1) B ∧ Bx (((w.alloc (.cells A Ta)).alloc (.cells B Tb)).alloc (.cells C Tc)) (w.heap.size + 1 + 1) C ∧ Below w.heap.size w (((w.alloc (.cells A Ta)).alloc (.cells B Tb)).alloc (.cells C Tc)) ∧ (((w.alloc (.cells A Ta)).alloc (.cells B Tb)).alloc (.cells C Tc)).heap.size = w.heap.size + 3 :=
  ⟨((Bx.new w _ _).alloc _).alloc _, (Bx.newAt _ _ (by simp)).alloc _, Bx.newAt _ _ (by simp), (((Below.refl w.heap.size w).alloc (Nat.le_refl _) _).alloc (by simp) _).alloc (by simp <;> omega) _, by simp⟩
theorem Bx.set {W : World} {b i : Nat} {xs : Array Value} (h : Bx W b xs) (x : Value) (hi : i < xs.size) : Bx (W.setCell ⟨b, i, none⟩ x) b (xs.setIfInBounds i x) := by
  refine ⟨by simpa using h.1, fun o => ?_, fun o => by rw [World.frozen?_setCell]; exact h.2.2 o⟩
  by_cases e : o = i
  · subst e
    refine (World.cell?_setCell_same _ _ _ ((h.2.1 o).trans (Array.getElem?_eq_getElem hi))).trans ?_
    simp [hi]
  · rw [World.cell?_setCell_other _ _ _ _ (by simp <;> omega), h.2.1 o, Array.getElem?_setIfInBounds_ne (by omega)]
theorem Bx.other {W : World} {b p i : Nat} {xs : Array Value} (h : Bx W b xs) (x : Value) (hp : b ≠ p) : Bx (W.setCell ⟨p, i, none⟩ x) b xs :=
  h.block (by simp) (Below.heap_setCell _ _ _ _ (by simpa using hp))
theorem CallsO.set {w : World} {v : Value} {xs : List Cl} {fp : List Nat} (h : CallsO w v xs fp) {p i : Nat} {x : Value} (hp : ¬ p ∈ fp) : CallsO (w.setCell ⟨p, i, none⟩ x) v xs fp :=
  h.loc (by simp) (fun g hg => Below.heap_setCell _ _ _ _ (by show g ≠ p; intro e; exact hp (e ▸ hg)))
theorem IntsO.set {w : World} {v : Value} {xs : List Int} {fp : List Nat} (h : IntsO w v xs fp) {p i : Nat} {x : Value} (hp : ¬ p ∈ fp) : IntsO (w.setCell ⟨p, i, none⟩ x) v xs fp :=
  h.loc (by simp) (fun g hg => Below.heap_setCell _ _ _ _ (by show g ≠ p; intro e; exact hp (e ▸ hg)))
theorem ThO.set {w : World} {v0 v2 v3 : Value} {t : Th} {fp : List Nat} (h : ThO w v0 v2 v3 t fp) {p i : Nat} {x : Value} (hp : ¬ p ∈ fp) : ThO (w.setCell ⟨p, i, none⟩ x) v0 v2 v3 t fp :=
  h.loc (by simp) (fun g hg => Below.heap_setCell _ _ _ _ (by show g ≠ p; intro e; exact hp (e ▸ hg)))
theorem ThsO.set {w : World} {v : Value} {ts : List Th} {fp : List Nat} (h : ThsO w v ts fp) {p i : Nat} {x : Value} (hp : ¬ p ∈ fp) : ThsO (w.setCell ⟨p, i, none⟩ x) v ts fp :=
  h.loc (by simp) (fun g hg => Below.heap_setCell _ _ _ _ (by show g ≠ p; intro e; exact hp (e ▸ hg)))
theorem not_mem_lt {fp : List Nat} {p s : Nat} (h : ∀ g ∈ fp, s ≤ g) (hp : p < s) : ¬ p ∈ fp := fun hm => by have := h p hm; omega
/- a row of integers, copied: it is owned, and its length is within its room -/
def IntsNew (w w' : World) (v : Value) (xs : List Int) : Prop := ∃ fp, IntsO w' v xs fp ∧ fp.Nodup ∧ (∀ g ∈ fp, w.heap.size ≤ g) ∧ Below w.heap.size w w'
def ThNew (w w' : World) (v0 v2 v3 : Value) (t : Th) : Prop := ∃ fp, ThO w' v0 v2 v3 t fp ∧ fp.Nodup ∧ (∀ g ∈ fp, w.heap.size ≤ g) ∧ Below w.heap.size w w'
def ThsNew (w w' : World) (v : Value) (ts : List Th) : Prop := ∃ fp, ThsO w' v ts fp ∧ fp.Nodup ∧ (∀ g ∈ fp, w.heap.size ≤ g) ∧ Below w.heap.size w w'
def CwNew (w w' : World) (vm vt : Value) (C : Cw) : Prop := ∃ fp, CwO w' vm vt C fp ∧ fp.Nodup ∧ (∀ g ∈ fp, w.heap.size ≤ g) ∧ Below w.heap.size w w'
set_option maxHeartbeats 800000 in
set_option maxRecDepth 100000 in
theorem to_ints_some (b off c : Nat) (xs : List Int) (w : World) (hn : xs.length ≤ 4194304) (h0 : 0 < xs.length) (hb : b < w.heap.size)
    (hA : ∀ j (hj : j < xs.length), w.cell? ⟨b, off + j, none⟩ = some (.int .i64 xs[j])) :
    Calls Try.prog 16 #[.slice (some ⟨b, off, none⟩) xs.length c] w fun e w' => ∃ v', e = .returned v' ∧ IntsNew w w' v' xs := by
  obtain ⟨i0, hi, hz0, hz1, hz2⟩ := info_parts info3
  have HA : Hid _ := hA
  clear hA
  go_enter Try.func16, Try.ntmps16
  go_wp2_with (at_make; refine wpList_make_full _ rfl _ _ 22 rfl w.heap.size 3 i0 (.int .i64 0) 1 Try.underlying22 hi hz0 hz1 .i64 .i64 _ _ xs.length rfl rfl rfl rfl (by rw [hz2]; omega) (by unfold maxLen; omega) (Nat.le_refl _) ?_; intro w1 hown hgrow)
  have hb1 : Below w.heap.size w w1 := (Below.refl _ _).grown hgrow (Nat.le_refl _) (fun k hk => by cases hk)
  have hgz : w.heap.size < w1.heap.size ∧ (∀ j, j < xs.length → ∃ x, w1.cell? ⟨w.heap.size, j, none⟩ = some x) ∧ ∀ j, w1.frozen? ⟨w.heap.size, j, none⟩ = false := by
    rcases own_cells hown with ⟨h, _⟩ | ⟨g, cap, hv, h1, h2, h3, h4, h5, h6, h7⟩
    · cases h
    · simp at hv
      obtain ⟨rfl, _⟩ := hv
      refine ⟨h2, fun j hj => ?_, h7⟩
      have hl : j < (madeCells (Value.int .i64 0).cells (xs.length * 1)).toList.length := by omega
      exact ⟨_, h6 j hl⟩
  clear hown hgrow
  obtain ⟨hgs, hg1, hg2⟩ := hgz
  have HG : Hid _ := hg1
  have HF : Hid _ := hg2
  clear hg1 hg2
  go_wp2
  go_loopw [4] (fun i wr => ∃ k : Nat, k ≤ xs.length ∧ i = .int .i64 k ∧ w.heap.size < wr.heap.size ∧ Below w.heap.size w wr ∧ Hid ((∀ j (hj : j < xs.length), j < k → wr.cell? ⟨w.heap.size, j, none⟩ = some (.int .i64 xs[j])) ∧ (∀ j, k ≤ j → j < xs.length → ∃ x, wr.cell? ⟨w.heap.size, j, none⟩ = some x) ∧ ∀ j, wr.frozen? ⟨w.heap.size, j, none⟩ = false)) (fun i _ => xs.length - (intOf i).toNat)
  case atStart => exact ⟨0, Nat.zero_le _, rfl, hgs, hb1, ⟨fun j _ hj => by omega, fun j _ hj => HG.out j hj, HF.out⟩⟩
  case round =>
    obtain ⟨k, hk, rfl, hgr, hbw, HS⟩ := hrel
    by_cases hlt : k < xs.length
    · obtain ⟨x, hx⟩ := HS.out.2.1 k (Nat.le_refl _) hlt
      have hz := HS.out.2.2 k
      have hlt' : (k : Int) < (xs.length : Int) := by omega
      have hr := (hbw.cell (p := ⟨b, off + k, none⟩) hb).trans (HA.out k hlt)
      obtain ⟨y, hy⟩ : ∃ y, xs[k] = y := ⟨_, rfl⟩
      rw [hy] at hr
      have HY : Hid _ := hy
      clear hy
      go_wp2
      go_roundw
      case rel =>
        refine ⟨k + 1, by omega, by go_num, by simp; omega, hbw.setCell (Nat.le_refl _) _, ⟨fun j hj hjk => ?_, fun j hj1 hj2 => ?_, fun j => ?_⟩⟩
        · by_cases ej : j = k
          · subst ej; refine (World.cell?_setCell_same _ _ _ hx).trans ?_; rw [HY.out]
          · rw [World.cell?_setCell_other _ _ _ _ (by simp <;> omega)]; exact HS.out.1 j hj (by omega)
        · rw [World.cell?_setCell_other _ _ _ _ (by simp <;> omega)]; exact HS.out.2.1 j (by omega) hj2
        · rw [World.frozen?_setCell]; exact HS.out.2.2 j
      case measure => simp [intOf]; omega
    · go_wp2
      go_ret
      exact ⟨.slice (some ⟨w.heap.size, 0, none⟩) xs.length xs.length, rfl, [w.heap.size], ⟨_, xs.length, rfl, trivial, .inr ⟨w.heap.size, rfl, rfl, hgr, fun j hj => HS.out.1 j hj (by omega), HS.out.2.2⟩⟩, by simp, by simp, hbw⟩
theorem to_ints_zero (a : Option Addr) (c : Nat) (w : World) :
    Calls Try.prog 16 #[.slice a 0 c] w fun e w' => ∃ v', e = .returned v' ∧ IntsNew w w' v' [] := by
  obtain ⟨i0, hi, hz0, hz1, hz2⟩ := info_parts info3
  go_enter Try.func16, Try.ntmps16
  go_wp2_with (at_make; refine wpList_make_full _ rfl _ _ 22 rfl w.heap.size 3 i0 (.int .i64 0) 1 Try.underlying22 hi hz0 hz1 .i64 .i64 _ _ 0 rfl rfl rfl rfl (by omega) (by unfold maxLen; omega) (Nat.le_refl _) ?_; intro w1 hown hgrow)
  have hb1 : Below w.heap.size w w1 := (Below.refl _ _).grown hgrow (Nat.le_refl _) (fun k hk => by cases hk)
  clear hown hgrow
  go_wp2
  go_loop [4] (fun i => i = .int .i64 0) (fun _ => 0)
  case atStart => rfl
  case round =>
    subst hrel
    go_wp2
    go_ret
    exact ⟨.slice (some ⟨w.heap.size, 0, none⟩) 0 0, rfl, [], ⟨_, 0, rfl, trivial, .inl ⟨rfl, rfl⟩⟩, by simp, by simp, hb1⟩
theorem to_ints (w : World) (v : Value) (xs : List Int) (hn : xs.length ≤ 4194304) (h : IntsIn w v xs) :
    Calls Try.prog 16 #[v] w fun e w' => ∃ v', e = .returned v' ∧ IntsNew w w' v' xs := by
  obtain ⟨⟨a, cap, rfl, h⟩, -⟩ := h
  by_cases h0 : 0 < xs.length
  · rcases h with rfl | ⟨b, off, rfl, h1, h2⟩
    · exact absurd h0 (by simp)
    · exact to_ints_some b off cap xs w hn h0 h1 h2
  · obtain rfl := len_zero h0
    exact to_ints_zero _ cap w
theorem infoTh4 (n j : Nat) (hj : j < n * 4) : ∃ y, (madeCells (Value.agg #[.slice none 0 0, .int .i64 0, .slice none 0 0, .slice none 0 0]).cells (n * 4))[j]? = some y := by
  have h : j < (madeCells (Value.agg #[.slice none 0 0, .int .i64 0, .slice none 0 0, .slice none 0 0]).cells (n * 4)).size := by simp [madeCells]; exact hj
  exact ⟨_, Array.getElem?_eq_getElem h⟩
def put4 (w : World) (g o : Nat) (x0 x1 x2 x3 : Value) : World := (((w.setCell ⟨g, o, none⟩ x0).setCell ⟨g, o + 1, none⟩ x1).setCell ⟨g, o + 2, none⟩ x2).setCell ⟨g, o + 3, none⟩ x3
theorem put4_other (w : World) (g o : Nat) (x0 x1 x2 x3 : Value) (b q : Nat) (h : b ≠ g ∨ q < o ∨ o + 4 ≤ q) : (put4 w g o x0 x1 x2 x3).cell? ⟨b, q, none⟩ = w.cell? ⟨b, q, none⟩ := by
  unfold put4
  repeat rw [World.cell?_setCell_other _ _ _ _ (by simp; omega)]
theorem put4_frozen (w : World) (g o : Nat) (x0 x1 x2 x3 : Value) (b q : Nat) : (put4 w g o x0 x1 x2 x3).frozen? ⟨b, q, none⟩ = w.frozen? ⟨b, q, none⟩ := by
  unfold put4
  simp only [World.frozen?_setCell]
theorem put4_size (w : World) (g o : Nat) (x0 x1 x2 x3 : Value) : (put4 w g o x0 x1 x2 x3).heap.size = w.heap.size := by unfold put4; simp
theorem put4_block (w : World) (g o : Nat) (x0 x1 x2 x3 : Value) (b : Nat) (h : b ≠ g) : (put4 w g o x0 x1 x2 x3).heap[b]? = w.heap[b]? := by
  unfold put4
  exact (Below.heap_setCell _ _ _ _ h).trans ((Below.heap_setCell _ _ _ _ h).trans ((Below.heap_setCell _ _ _ _ h).trans (Below.heap_setCell _ _ _ _ h)))
theorem put4_below (B : Nat) (u w : World) (g o : Nat) (x0 x1 x2 x3 : Value) (h : Below B u w) (hg : B ≤ g) : Below B u (put4 w g o x0 x1 x2 x3) := by
  unfold put4
  exact (((h.setCell hg _).setCell hg _).setCell hg _).setCell hg _
theorem put4_same (w : World) (g o : Nat) (x0 x1 x2 x3 : Value) (h : ∀ i, i < 4 → ∃ y, w.cell? ⟨g, o + i, none⟩ = some y) : At4 (put4 w g o x0 x1 x2 x3) g o x0 x1 x2 x3 := by
  have h0 := h 0 (by omega)
  have h1 := h 1 (by omega)
  have h2 := h 2 (by omega)
  have h3 := h 3 (by omega)
  rw [Nat.add_zero] at h0
  unfold put4
  refine ⟨?_, ?_, ?_, ?_⟩
  all_goals (repeat (refine setc_up ?_ ?_; (focus omega)))
  all_goals (refine setc_same ?_; repeat (first | with_reducible assumption | refine setc_any ?_))
theorem put4_at (w : World) (g o : Nat) (x0 x1 x2 x3 : Value) (b q : Nat) (y0 y1 y2 y3 : Value) (h : At4 w b q y0 y1 y2 y3) (hn : b ≠ g ∨ q + 4 ≤ o ∨ o + 4 ≤ q) : At4 (put4 w g o x0 x1 x2 x3) b q y0 y1 y2 y3 := by
  have k := fun i (hi : i < 4) => put4_other w g o x0 x1 x2 x3 b (q + i) (by omega)
  obtain ⟨h0, h1, h2, h3⟩ := h
  generalize put4 w g o x0 x1 x2 x3 = W at k
  exact ⟨(k 0 (by omega)).trans h0, (k 1 (by omega)).trans h1, (k 2 (by omega)).trans h2, (k 3 (by omega)).trans h3⟩
theorem At4.keep {w w' : World} {b o : Nat} {v0 v1 v2 v3 : Value} (h : At4 w b o v0 v1 v2 v3) (hz : b < w.heap.size) (hb : Below w.heap.size w w') : At4 w' b o v0 v1 v2 v3 := h.of (cells_of_block (hb.block b hz))
def TsFit (ts : List Th) : Prop := ∀ j (hj : j < ts.length), ts[j].cs.length ≤ 4194304 ∧ ts[j].bs.length ≤ 4194304 ∧ ts[j].es.length ≤ 4194304
/- the first k threads of a row, copied into block g -/
def ThsMade (wr : World) (lo g : Nat) (ts : List Th) (k : Nat) (fps : Nat → List Nat) : Prop :=
  (∀ j (hj : j < ts.length), j < k → ∃ v0 v2 v3, At4 wr g (j * 4) v0 (.int .i64 ts[j].at_) v2 v3 ∧ ThO wr v0 v2 v3 ts[j] (fps j)) ∧
  (∀ j, k * 4 ≤ j → j < ts.length * 4 → ∃ x, wr.cell? ⟨g, j, none⟩ = some x) ∧ (∀ j, wr.frozen? ⟨g, j, none⟩ = false) ∧
  (g :: (List.range k).flatMap fps).Nodup ∧ (∀ x ∈ (List.range k).flatMap fps, g < x ∧ x < wr.heap.size) ∧ lo ≤ g ∧ g < wr.heap.size

end Go.Proofs.Ytikliofkplbdpaa

namespace Go.Proofs.Ytikliofkplbdpaa
open Go.ChangeShapes Go.WideShapes Go.ChangeAt Go.RowKit
set_option linter.unusedVariables false

set_option maxHeartbeats 800000 in
set_option maxRecDepth 100000 in
theorem eq_ints_some (g og h oh c d : Nat) (ps : List Int) (w : World) (hn : ps.length ≤ 4194304) (h0 : 0 < ps.length)
    (hA : ∀ j (hj : j < ps.length), w.cell? ⟨g, og + j, none⟩ = some (.int .i64 ps[j])) (hB : ∀ j (hj : j < ps.length), w.cell? ⟨h, oh + j, none⟩ = some (.int .i64 ps[j])) :
    Calls Try.prog 24 #[.slice (some ⟨g, og, none⟩) ps.length c, .slice (some ⟨h, oh, none⟩) ps.length d] w fun e w' => e = .returned (.bool true) ∧ ∃ n, w' = w.drewN n := by
  have HA : Hid _ := hA
  have HB : Hid _ := hB
  clear hA hB
  go_enter Try.func24, Try.ntmps24
  go_wp2
  go_loopw [5] (fun i wr => ∃ k n : Nat, k ≤ ps.length ∧ i = .int .i64 k ∧ wr = w.drewN n) (fun i _ => ps.length - (intOf i).toNat)
  case atStart => exact ⟨0, 0, Nat.zero_le _, rfl, rfl⟩
  case round =>
    obtain ⟨k, n, hk, rfl, rfl⟩ := hrel
    by_cases hlt : k < ps.length
    · have cA := HA.out k hlt
      have cB := HB.out k hlt
      have hlt' : (k : Int) < (ps.length : Int) := by omega
      generalize ps[k] = x at cA cB
      go_wp2
      go_quiet (fail)
      go_wp2
      go_roundw
      case rel => exact ⟨k + 1, _, by omega, by go_num, rfl⟩
      case measure => simp [intOf]; omega
    · go_wp2
      go_ret
      exact ⟨rfl, n, rfl⟩
theorem eq_ints (w : World) (v1 v2 : Value) (ps : List Int) (hn : ps.length ≤ 4194304) (r1 : IntsIn w v1 ps) (r2 : IntsIn w v2 ps) :
    Calls Try.prog 24 #[v1, v2] w fun e w' => e = .returned (.bool true) ∧ Below w.heap.size w w' := by
  obtain ⟨⟨a, c, rfl, q1⟩, -⟩ := r1
  obtain ⟨⟨b, d, rfl, q2⟩, -⟩ := r2
  have fin : ∀ e (w' : World), (e = Ending.returned (.bool true) ∧ ∃ n, w' = w.drewN n) → e = .returned (.bool true) ∧ Below w.heap.size w w' := by
    rintro e w' ⟨rfl, n, rfl⟩
    exact ⟨rfl, below_drewN (Below.refl _ _) n⟩
  by_cases h0 : 0 < ps.length
  · rcases q1 with rfl | ⟨g, og, rfl, g1, q1⟩
    · exact absurd h0 (by simp)
    · rcases q2 with rfl | ⟨h, oh, rfl, h1, q2⟩
      · exact absurd h0 (by simp)
      · exact (eq_ints_some g og h oh c d ps w hn h0 q1 q2).mono fin
  · obtain rfl := len_zero h0
    exact (eq_int_zero _ _ c d w).mono fin
def ThFit (t : Th) : Prop := t.cs.length ≤ 4194304 ∧ t.bs.length ≤ 4194304 ∧ t.es.length ≤ 4194304
def Two4 (W0 W : World) (a p b q : Nat) (v0 v1 v2 v3 u0 u1 u2 u3 : Value) : Prop := Below W0.heap.size W0 W ∧ At4 W a p v0 v1 v2 v3 ∧ At4 W b q u0 u1 u2 u3 ∧ a < W.heap.size ∧ b < W.heap.size
theorem Two4.keep {W0 W W' : World} {a p b q : Nat} {v0 v1 v2 v3 u0 u1 u2 u3 : Value} (h : Two4 W0 W a p b q v0 v1 v2 v3 u0 u1 u2 u3) (hb : Below W.heap.size W W') : Two4 W0 W' a p b q v0 v1 v2 v3 u0 u1 u2 u3 := by
  obtain ⟨h0, h1, h2, h3, h4⟩ := h
  have := hb.size
  exact ⟨below_step h0 hb, h1.keep h3 hb, h2.keep h4 hb, by omega, by omega⟩
def lim4 (W0 W : World) (a p b q : Nat) (v0 v1 v2 v3 u0 u1 u2 u3 : Value) : Prop := Two4 W0 W a p b q v0 v1 v2 v3 u0 u1 u2 u3 ∧ W.cell? ⟨a, p, none⟩ = some v0 ∧ W.cell? ⟨a, p + 1, none⟩ = some v1 ∧ W.cell? ⟨a, p + 2, none⟩ = some v2 ∧ W.cell? ⟨a, p + 3, none⟩ = some v3 ∧ W.cell? ⟨b, q, none⟩ = some u0 ∧ W.cell? ⟨b, q + 1, none⟩ = some u1 ∧ W.cell? ⟨b, q + 2, none⟩ = some u2 ∧ W.cell? ⟨b, q + 3, none⟩ = some u3
theorem lim4_of {W0 W : World} {a p b q : Nat} {v0 v1 v2 v3 u0 u1 u2 u3 : Value} (h : Two4 W0 W a p b q v0 v1 v2 v3 u0 u1 u2 u3) : lim4 W0 W a p b q v0 v1 v2 v3 u0 u1 u2 u3 := by
  have h' := h
  obtain ⟨-, ⟨h0, h1, h2, h3⟩, ⟨g0, g1, g2, g3⟩, -⟩ := h
  exact ⟨h', h0, h1, h2, h3, g0, g1, g2, g3⟩
def CwFit (C : Cw) : Prop := C.m.length ≤ 4194304 ∧ C.ts.length ≤ 4194304 ∧ TsFit C.ts

end Go.Proofs.Ytikliofkplbdpaa

namespace Go.Proofs.Ytikliofkplbdpaa
open Go.ChangeShapes Go.WideShapes Go.ChangeAt Go.RowKit
set_option linter.unusedVariables false

theorem cells3 : Try.prog.cellsOf 3 = 1 := by kernel_rfl
theorem cells22 : Try.prog.cellsOf 22 = 1 := by kernel_rfl
set_option maxRecDepth 100000 in
theorem open_introw {H : Type} {enc : TypeId × Value → H} {W : World} {fuel : Nat} {cs : List Value} {x : DataW H × List MemPlace} (h : DataW.trod enc Try.prog W 0 (fun _ => true) true fuel 22 cs = some x) :
    ∃ v xs, cs = [v] ∧ InRow W v xs ∧ xs.length ≤ maxLen ∧ ∀ z ∈ xs, (Lit.int .i64 z).wf = true := by
  rcases open_ints Try.underlying22 Try.underlying3 cells3 h with ⟨rfl, -⟩ | ⟨a, len, cap, zs, rfl, -, hl, hm, hz, -, hc, hw⟩
  · exact ⟨_, [], rfl, ⟨none, 0, rfl, .inl rfl⟩, by simp, by simp⟩
  · simp at hz
    refine ⟨_, zs.take len, rfl, ⟨some a, cap, by simp [hz, hl], ?_⟩, by simp; omega, fun z hz => hw z (List.mem_of_mem_take hz)⟩
    by_cases h0 : len = 0
    · left; simp [h0]
    · right
      obtain ⟨b, off, rfl, hb⟩ := ints_at hc (by omega)
      refine ⟨b, off, rfl, ?_, fun j hj => ?_⟩
      · have h1 := hb 0 (by omega)
        by_cases hlt : b < W.heap.size
        · exact hlt
        · simp [World.cell?, hlt] at h1
      · simp at hj
        rw [hb j (by omega)]
        simp [List.getElem_take, show j < zs.length by omega]
set_option maxRecDepth 100000 in
theorem open_intcell {H : Type} {enc : TypeId × Value → H} {W : World} {fuel : Nat} {cs : List Value} {x : DataW H × List MemPlace} (h : DataW.trod enc Try.prog W 0 (fun _ => true) true fuel 3 cs = some x) :
    ∃ z, cs = [.int .i64 z] ∧ (Lit.int .i64 z).wf = true := by
  obtain ⟨z, h1, -, h2⟩ := DataW.trod_int Try.underlying3 h
  exact ⟨z, h1, h2⟩
theorem field_of {H : Type} {enc : TypeId × Value → H} {P : Program} {W : World} {base : Nat} {spare : Nat → Bool} {held : Bool} {fuel : Nat} {t : TypeId} {cs : List Value} {x : DataW H × List MemPlace} {fs : Array Field} (ht : P.underlying t = some (.struct fs)) (h : DataW.trod enc P W base spare held fuel t cs = some x) (i : Nat) (f : Field) (hf : fs[i]? = some f) :
    ∃ n y, DataW.trod enc P W base spare held n f.type ((cs.drop f.offset).take (P.cellsOf f.type)) = some y := by
  obtain ⟨ys, n, _, _, _, hlen, hfi⟩ := DataW.trod_struct ht h
  have hi : i < ys.length := by rw [hlen]; exact (Array.getElem?_eq_some_iff.1 hf).1
  exact ⟨n, ys[i], by rw [hfi i f hf, List.getElem?_eq_getElem hi]⟩
set_option maxRecDepth 100000 in
theorem open_Int {H : Type} {enc : TypeId × Value → H} {W : World} {b0 : Nat} {v : Value} {d : DataW H} {p : List MemPlace} (hv : Value.okWide Try.prog W .any b0 3 v) (h : DataW.Trod enc Try.prog W 0 (fun _ => true) true 3 v d p) :
    ∃ a : Int, v = .int .i64 a ∧ (Lit.int .i64 a).wf = true := by
  obtain ⟨x, rfl, rfl, rfl, wx⟩ := open_int Try.underlying3 hv h
  exact ⟨x, rfl, wx⟩
set_option maxRecDepth 100000 in
theorem open_Bool {H : Type} {enc : TypeId × Value → H} {W : World} {b0 : Nat} {v : Value} {d : DataW H} {p : List MemPlace} (hv : Value.okWide Try.prog W .any b0 4 v) (h : DataW.Trod enc Try.prog W 0 (fun _ => true) true 4 v d p) :
    ∃ a : Bool, v = .bool a ∧ True := by
  obtain ⟨x, rfl, rfl, rfl⟩ := open_bool Try.underlying4 hv h
  exact ⟨x, rfl, trivial⟩
theorem array1 {α : Type} {cs : Array α} (h : cs.size = 1) : ∃ c0, cs = #[c0] := by
  obtain ⟨l⟩ := cs
  match l, h with
  | [c0], _ => exact ⟨c0, rfl⟩
theorem array4 {α : Type} {cs : Array α} (h : cs.size = 4) : ∃ c0 c1 c2 c3, cs = #[c0, c1, c2, c3] := by
  obtain ⟨l⟩ := cs
  match l, h with
  | [c0, c1, c2, c3], _ => exact ⟨c0, c1, c2, c3, rfl⟩
theorem array10 {α : Type} {cs : Array α} (h : cs.size = 10) : ∃ c0 c1 c2 c3 c4 c5 c6 c7 c8 c9, cs = #[c0, c1, c2, c3, c4, c5, c6, c7, c8, c9] := by
  obtain ⟨l⟩ := cs
  match l, h with
  | [c0, c1, c2, c3, c4, c5, c6, c7, c8, c9], _ => exact ⟨c0, c1, c2, c3, c4, c5, c6, c7, c8, c9, rfl⟩
theorem cellsBool : Try.prog.cellsOf 4 = 1 := by kernel_rfl
set_option maxRecDepth 100000 in
theorem open_boolcell {H : Type} {enc : TypeId × Value → H} {W : World} {fuel : Nat} {cs : List Value} {x : DataW H × List MemPlace} (h : DataW.trod enc Try.prog W 0 (fun _ => true) true fuel 4 cs = some x) :
    ∃ z, cs = [.bool z] := by
  obtain ⟨z, h1, -⟩ := DataW.trod_bool Try.underlying4 h
  exact ⟨z, h1⟩

end Go.Proofs.Ytikliofkplbdpaa

namespace Go.Proofs.Ytikliofkplbdpaa
open Go.ChangeShapes Go.WideShapes Go.ChangeAt Go.RowKit
set_option linter.unusedVariables false

theorem row_cells {H : Type} {enc : TypeId × Value → H} {P : Program} {W : World} {fuel : Nat} {t e : TypeId} {cs : List Value} {x : DataW H × List MemPlace} {k : Nat} (ht : P.underlying t = some (.slice e)) (hk : P.cellsOf e = k) (k0 : 0 < k) (h : DataW.trod enc P W 0 (fun _ => true) true fuel t cs = some x) :
    ∃ a len cap, cs = [.slice a len cap] ∧ len ≤ cap ∧ len ≤ maxLen ∧ (len = 0 ∨ ∃ b off, a = some ⟨b, off, none⟩ ∧ b < W.heap.size ∧ ∀ i, i < len → ∃ cs' n d, cs'.length = k ∧ (∀ j (hj : j < cs'.length), W.cell? ⟨b, off + i * k + j, none⟩ = some cs'[j]) ∧ DataW.trod enc P W 0 (fun _ => true) true n e cs' = some d) := by
  rcases Go.Deep.open_slice ht h with ⟨rfl, -⟩ | ⟨a, len, cap, m, n, D, Pl, rfl, -, hl, hm, hmm, -, hx⟩
  · exact ⟨none, 0, 0, rfl, Nat.le_refl _, by simp, .inl rfl⟩
  · have hlm : len ≤ m := by rw [hmm]; simp; exact hl
    refine ⟨some a, len, cap, rfl, hl, by omega, ?_⟩
    by_cases h0 : len = 0
    · exact .inl h0
    · right
      have key : ∀ i, i < len → ∃ cs' d, cs'.length = k ∧ (∀ j (hj : j < cs'.length), W.cell? (a.add (i * k + j)) = some cs'[j]) ∧ DataW.trod enc P W 0 (fun _ => true) true n e cs' = some d := by
        intro i hi
        obtain ⟨cs', h1, h2⟩ := hx i (by omega)
        rw [hk] at h1
        obtain ⟨_, hlen, hcell⟩ := World.cells?_some h1
        refine ⟨cs', _, hlen, fun j hj => ?_, h2⟩
        have := hcell j (by omega)
        rw [Go.Deep.add_add] at this
        rw [this]
        exact List.getElem?_eq_getElem hj
      obtain ⟨cs0, d0, l0, c0, -⟩ := key 0 (by omega)
      have hfirst := c0 0 (by omega)
      obtain ⟨b, off, spot⟩ := a
      have hspot : spot = none := by simpa [Addr.add] using World.cell?_spot hfirst
      subst hspot
      refine ⟨b, off, rfl, ?_, fun i hi => ?_⟩
      · rw [Go.WideShapes.add_plain] at hfirst
        by_cases hlt : b < W.heap.size
        · exact hlt
        · simp [World.cell?, hlt] at hfirst
      · obtain ⟨cs', d, q1, q2, q3⟩ := key i hi
        refine ⟨cs', n, d, q1, fun j hj => ?_, q3⟩
        have := q2 j hj
        rwa [Go.WideShapes.add_plain, ← Nat.add_assoc] at this
theorem list4 {α : Type} {cs : List α} (h : cs.length = 4) : ∃ c0 c1 c2 c3, cs = [c0, c1, c2, c3] := by
  match cs, h with
  | [c0, c1, c2, c3], _ => exact ⟨c0, c1, c2, c3, rfl⟩
theorem list10 {α : Type} {cs : List α} (h : cs.length = 10) : ∃ c0 c1 c2 c3 c4 c5 c6 c7 c8 c9, cs = [c0, c1, c2, c3, c4, c5, c6, c7, c8, c9] := by
  match cs, h with
  | [c0, c1, c2, c3, c4, c5, c6, c7, c8, c9], _ => exact ⟨c0, c1, c2, c3, c4, c5, c6, c7, c8, c9, rfl⟩
def CWf (c : Cl) : Prop := ∀ z ∈ [c.k, c.a, c.x, c.pc, c.p, c.c, c.w, c.r, c.v], (Lit.int .i64 z).wf = true
def callVs (c : Cl) : List Value := [.int .i64 c.k, .int .i64 c.a, .int .i64 c.x, .int .i64 c.pc, .int .i64 c.p, .int .i64 c.c, .int .i64 c.w, .int .i64 c.r, .int .i64 c.v, .bool c.d]
theorem at10_of {W : World} {b o : Nat} {c : Cl} {cs : List Value} (e : cs = callVs c) (h : ∀ j (hj : j < cs.length), W.cell? ⟨b, o + j, none⟩ = some cs[j]) : At10 W b o c := by
  subst e
  exact ⟨h 0 (by simp [callVs]), h 1 (by simp [callVs]), h 2 (by simp [callVs]), h 3 (by simp [callVs]), h 4 (by simp [callVs]), h 5 (by simp [callVs]), h 6 (by simp [callVs]), h 7 (by simp [callVs]), h 8 (by simp [callVs]), h 9 (by simp [callVs])⟩
set_option maxRecDepth 100000 in
theorem open_introwN {H : Type} {enc : TypeId × Value → H} {W : World} {fuel : Nat} {cs : List Value} {x : DataW H × List MemPlace} (h : DataW.trod enc Try.prog W 0 (fun _ => true) true fuel 22 cs = some x) :
    ∃ v xs, cs = [v] ∧ IntsIn W v xs ∧ xs.length ≤ maxLen ∧ ∀ z ∈ xs, (Lit.int .i64 z).wf = true := by
  obtain ⟨v, xs, rfl, h1, h2, h3⟩ := open_introw h
  obtain ⟨a, len, cap, e, hl, -⟩ := row_cells Try.underlying22 cells3 (by omega) h
  obtain ⟨a', cap', rfl, h4⟩ := h1
  simp at e
  obtain ⟨rfl, rfl, rfl⟩ := e
  exact ⟨_, xs, rfl, ⟨⟨_, _, rfl, h4⟩, _, _, rfl, trivial⟩, h2, h3⟩
def TWf (t : Th) : Prop := (∀ c ∈ t.cs, CWf c) ∧ (Lit.int .i64 t.at_).wf = true ∧ (∀ z ∈ t.bs, (Lit.int .i64 z).wf = true) ∧ ∀ z ∈ t.es, (Lit.int .i64 z).wf = true
def ThLim (t : Th) : Prop := t.cs.length ≤ 9223372036854775807 ∧ t.bs.length ≤ 9223372036854775807 ∧ t.es.length ≤ 9223372036854775807
theorem array5 {α : Type} {cs : Array α} (h : cs.size = 5) : ∃ c0 c1 c2 c3 c4, cs = #[c0, c1, c2, c3, c4] := by
  obtain ⟨l⟩ := cs
  match l, h with
  | [c0, c1, c2, c3, c4], _ => exact ⟨c0, c1, c2, c3, c4, rfl⟩
def CwLim (C : Cw) : Prop := C.m.length ≤ 9223372036854775807 ∧ C.ts.length ≤ 9223372036854775807 ∧ TsLim C.ts
def CwWf (C : Cw) : Prop := (Lit.int .i64 C.what).wf = true ∧ (Lit.int .i64 C.size).wf = true ∧ (Lit.int .i64 C.clock).wf = true ∧ (∀ z ∈ C.m, (Lit.int .i64 z).wf = true) ∧ ∀ t ∈ C.ts, TWf t

end Go.Proofs.Ytikliofkplbdpaa

namespace Go.Proofs.Ytikliofkplbdpaa
open Go.ChangeShapes Go.WideShapes Go.ChangeAt Go.RowKit
set_option linter.unusedVariables false

theorem Sv.box5 {w W : World} {cs : List (Nat × Nat × Value)} {rs : List (Nat × Nat × (World → Prop))} (h : Sv w cs rs W) (x0 x1 x2 x3 x4 : Value) (T : TypeId) : Sv w ((W.heap.size, 0, x0) :: (W.heap.size, 1, x1) :: (W.heap.size, 2, x2) :: (W.heap.size, 3, x3) :: (W.heap.size, 4, x4) :: cs) rs (W.alloc (.cells #[x0, x1, x2, x3, x4] T)) :=
  (((((h.alloc _).cell (by simp) (by simp)).cell (by simp) (by simp)).cell (by simp) (by simp)).cell (by simp) (by simp)).cell (by simp) (by simp)
theorem Sv.get5 {w W : World} {cs : List (Nat × Nat × Value)} {rs : List (Nat × Nat × (World → Prop))} (h : Sv w cs rs W) {b : Nat} {x0 x1 x2 x3 x4 : Value} (h0 : (b, 0, x0) ∈ cs) (h1 : (b, 1, x1) ∈ cs) (h2 : (b, 2, x2) ∈ cs) (h3 : (b, 3, x3) ∈ cs) (h4 : (b, 4, x4) ∈ cs) : W.cell? ⟨b, 0, none⟩ = some x0 ∧ W.cell? ⟨b, 1, none⟩ = some x1 ∧ W.cell? ⟨b, 2, none⟩ = some x2 ∧ W.cell? ⟨b, 3, none⟩ = some x3 ∧ W.cell? ⟨b, 4, none⟩ = some x4 := ⟨h.get h0, h.get h1, h.get h2, h.get h3, h.get h4⟩
theorem pS_le (ts : List Th) (j : Nat) (hj : j < ts.length) : szTh ts[j] ≤ pS ts ts.length := by
  have h1 := pS_step ts j hj
  have h2 := pS_mono ts (show j + 1 ≤ ts.length by omega)
  omega
theorem ts_fit (ts : List Th) (h : pS ts ts.length ≤ 1048576) : TsFit ts := by
  intro j hj
  have := pS_le ts j hj
  unfold szTh at this
  refine ⟨?_, ?_, ?_⟩ <;> omega
theorem cw_fit (C : Cw) (h : C.m.length + szThs C.ts ≤ 1048576) : CwFit C := by
  unfold szThs at h
  exact ⟨by omega, by omega, ts_fit C.ts (by omega)⟩
def Within (lo hi : Nat) (fp : List Nat) : Prop := ∀ g ∈ fp, lo ≤ g ∧ g < hi
theorem CwO.within {lo hi : Nat} {vm vt : Value} {C : Cw} {fp : List Nat} (h : Within lo hi fp) : Loc lo hi (fun W => CwO W vm vt C fp) :=
  fun w w' p hk => p.loc' (fun g hg => hk g (h g hg).1 (h g hg).2)
theorem ThsO.within {lo hi : Nat} {v : Value} {ts : List Th} {fp : List Nat} (h : Within lo hi fp) : Loc lo hi (fun W => ThsO W v ts fp) :=
  fun w w' p hk => p.loc' (fun g hg => hk g (h g hg).1 (h g hg).2)
theorem IntsO.within {lo hi : Nat} {v : Value} {xs : List Int} {fp : List Nat} (h : Within lo hi fp) : Loc lo hi (fun W => IntsO W v xs fp) :=
  fun w w' p hk => p.loc' (fun g hg => hk g (h g hg).1 (h g hg).2)
theorem Kp.toOut {fp : List Nat} {w w' : World} {lo hi : Nat} (h : Kp fp w w') (k : Within lo hi fp) : Out lo hi w w' :=
  ⟨h.os, h.tape, h.output, h.size, fun x hx hn => h.block x hx (fun hm => by have := k x hm; omega)⟩

end Go.Proofs.Ytikliofkplbdpaa

namespace Go.Proofs.Ytikliofkplbdpaa
open Go.ChangeShapes Go.WideShapes Go.ChangeAt Go.RowKit
set_option linter.unusedVariables false

structure Pl where
  fr : List Int
  a : Int
  ps : List Int
  L : List (Int × Int)
  lv : List Int
def plZero : Pl := ⟨[], 0, [], [], []⟩
instance : Inhabited Pl := ⟨plZero⟩
def PlWf (P : Pl) : Prop := (∀ z ∈ P.fr, (Lit.int .i64 z).wf = true) ∧ (∀ q ∈ P.L, (Lit.int .i64 q.1).wf = true) ∧ ∀ z ∈ P.lv, (Lit.int .i64 z).wf = true
structure PlIn (w : World) (f p l v : Value) (P : Pl) : Prop where
  fr : IntsIn w f P.fr
  ag : AIn w p l P.ps P.L
  lv : IntsIn w v P.lv
theorem PlIn.below {w w' : World} {f p l v : Value} {P : Pl} (h : PlIn w f p l v P) (hb : Below w.heap.size w w') : PlIn w' f p l v P := ⟨h.fr.below hb, h.ag.below hb, h.lv.below hb⟩
theorem PlIn.form {w : World} {f p l v : Value} {P : Pl} (h : PlIn w f p l v P) : ∃ fa fc pa pc la lc va vc, f = .slice fa P.fr.length fc ∧ p = .slice pa P.ps.length pc ∧ l = .slice la P.L.length lc ∧ v = .slice va P.lv.length vc := by
  obtain ⟨fa, fc, h1, -⟩ := h.fr.form
  obtain ⟨pa, pc, la, lc, h2, h3, -⟩ := h.ag.form
  obtain ⟨va, vc, h4, -⟩ := h.lv.form
  exact ⟨fa, fc, pa, pc, la, lc, va, vc, h1, h2, h3, h4⟩
/- a row of integers that is only read, in a block from lo to hi -/
def RowQ (w : World) (lo hi : Nat) (v : Value) (xs : List Int) : Prop := ∃ a cap, v = .slice a xs.length cap ∧ (xs = [] ∨ ∃ b off, a = some ⟨b, off, none⟩ ∧ lo ≤ b ∧ b < hi ∧ ∀ j (hj : j < xs.length), w.cell? ⟨b, off + j, none⟩ = some (.int .i64 xs[j]))
theorem RowQ.loc (lo hi : Nat) (v : Value) (xs : List Int) : Loc lo hi (fun w => RowQ w lo hi v xs) := by
  rintro w w' ⟨a, cap, hv, h⟩ hk
  refine ⟨a, cap, hv, ?_⟩
  rcases h with h | ⟨b, off, ha, h1, h2, h3⟩
  · exact .inl h
  · exact .inr ⟨b, off, ha, h1, h2, fun j hj => (World.cell?_of_block (a := ⟨b, off + j, none⟩) (hk b h1 h2)).trans (h3 j hj)⟩
theorem RowQ.wide {w : World} {lo hi lo' hi' : Nat} {v : Value} {xs : List Int} (h : RowQ w lo hi v xs) (h1 : lo' ≤ lo) (h2 : hi ≤ hi') : RowQ w lo' hi' v xs := by
  obtain ⟨a, cap, hv, h⟩ := h
  refine ⟨a, cap, hv, ?_⟩
  rcases h with h | ⟨b, off, ha, g1, g2, h3⟩
  · exact .inl h
  · exact .inr ⟨b, off, ha, by omega, by omega, h3⟩
theorem RowQ.inr {w : World} {lo hi : Nat} {v : Value} {xs : List Int} (h : RowQ w lo hi v xs) (hz : hi ≤ w.heap.size) : IntsIn w v xs := by
  obtain ⟨a, cap, hv, h⟩ := h
  refine ⟨⟨a, cap, hv, ?_⟩, a, cap, hv, trivial⟩
  rcases h with h | ⟨b, off, ha, h1, h2, h3⟩
  · exact .inl h
  · exact .inr ⟨b, off, ha, by omega, h3⟩
theorem Row.toQ {w : World} {lo hi : Nat} {v : Value} {xs : List Int} (h : Row w lo hi v (ints xs)) : RowQ w lo hi v xs := by
  obtain ⟨a, cap, hv, h⟩ := h
  refine ⟨a, cap, by rw [hv, ints_len], ?_⟩
  rcases h with h | ⟨g, ha, g1, g2, h3, h4⟩
  · exact .inl (by simpa using h)
  · refine .inr ⟨g, 0, ha, g1, g2, fun j hj => ?_⟩
    have := h3 j (by simpa using hj)
    rw [List.getElem_map] at this
    simpa using this
theorem Row.intsIn {w : World} {lo hi : Nat} {v : Value} {xs : List Int} (h : Row w lo hi v (ints xs)) (hz : hi ≤ w.heap.size) : IntsIn w v xs := h.toQ.inr hz
theorem IntsO.rowW {w : World} {lo hi : Nat} {v : Value} {xs : List Int} {fp : List Nat} (h : IntsO w v xs fp) (k : Within lo hi fp) : Row w lo hi v (ints xs) := by
  obtain ⟨a, cap, hv, -, h⟩ := h
  refine ⟨a, cap, by rw [hv, ints_len], ?_⟩
  rcases h with ⟨h, -⟩ | ⟨g, ha, hf, h1, h2, h3⟩
  · exact .inl (by simp [h])
  · have := k g (by rw [hf]; exact List.mem_singleton.2 rfl)
    exact .inr ⟨g, ha, this.1, this.2, fun j hj => by rw [List.getElem_map]; exact h2 j (by simpa using hj), h3⟩
theorem IntsNew.row {w w' : World} {v : Value} {xs : List Int} (h : IntsNew w w' v xs) : Row w' w.heap.size w'.heap.size v (ints xs) ∧ Below w.heap.size w w' := by
  obtain ⟨fp, o, -, g, b⟩ := h
  exact ⟨o.rowW fun x hx => ⟨g x hx, o.lt x hx⟩, b⟩
theorem Row.size0 (w : World) (lo hi : Nat) : Row w lo hi (.slice none 0 0) (ints []) := ⟨none, 0, rfl, .inl rfl⟩
/- what a model answers -/
structure PlQ (lo hi : Nat) (f p l v : Value) (P : Pl) (W : World) : Prop where
  fr : RowQ W lo hi f P.fr
  ag : AR lo hi p l P.ps P.L W
  lv : RowQ W lo hi v P.lv
theorem PlQ.loc (lo hi : Nat) (f p l v : Value) (P : Pl) : Loc lo hi (PlQ lo hi f p l v P) :=
  fun w w' h hk => ⟨RowQ.loc _ _ _ _ w w' h.fr hk, AR.loc _ _ _ _ _ _ w w' h.ag hk, RowQ.loc _ _ _ _ w w' h.lv hk⟩
theorem PlQ.pin {w : World} {lo hi : Nat} {f p l v : Value} {P : Pl} (h : PlQ lo hi f p l v P w) (hz : hi ≤ w.heap.size) : PlIn w f p l v P := ⟨h.fr.inr hz, h.ag.ain hz, h.lv.inr hz⟩
theorem PlQ.below {w w' : World} {lo hi : Nat} {f p l v : Value} {P : Pl} (h : PlQ lo hi f p l v P w) (hb : Below hi w w') : PlQ lo hi f p l v P w' := PlQ.loc _ _ _ _ _ _ _ w w' h (fun k _ hk => hb.block k hk)
theorem PlQ.wide {w : World} {lo hi lo' hi' : Nat} {f p l v : Value} {P : Pl} (h : PlQ lo hi f p l v P w) (h1 : lo' ≤ lo) (h2 : hi ≤ hi') : PlQ lo' hi' f p l v P w := ⟨h.fr.wide h1 h2, h.ag.wide h1 h2, h.lv.wide h1 h2⟩
/- what is owned: three parts, each in blocks of its own -/
structure Dis (lo hi a1 b1 a2 b2 a3 b3 : Nat) : Prop where
  l1 : lo ≤ a1
  h1 : b1 ≤ hi
  l2 : lo ≤ a2
  h2 : b2 ≤ hi
  l3 : lo ≤ a3
  h3 : b3 ≤ hi
  d12 : b1 ≤ a2 ∨ b2 ≤ a1
  d13 : b1 ≤ a3 ∨ b3 ≤ a1
  d23 : b2 ≤ a3 ∨ b3 ≤ a2
def PlR (lo hi : Nat) (f p l v : Value) (P : Pl) (W : World) : Prop :=
  ∃ a1 b1 a2 b2 a3 b3, Dis lo hi a1 b1 a2 b2 a3 b3 ∧ Row W a1 b1 f (ints P.fr) ∧ AR a2 b2 p l P.ps P.L W ∧ Row W a3 b3 v (ints P.lv)
theorem Dis.wide {lo hi lo' hi' a1 b1 a2 b2 a3 b3 : Nat} (d : Dis lo hi a1 b1 a2 b2 a3 b3) (h1 : lo' ≤ lo) (h2 : hi ≤ hi') : Dis lo' hi' a1 b1 a2 b2 a3 b3 := by
  obtain ⟨e1, e2, e3, e4, e5, e6, e7, e8, e9⟩ := d
  exact ⟨by omega, by omega, by omega, by omega, by omega, by omega, e7, e8, e9⟩
theorem PlR.loc (lo hi : Nat) (f p l v : Value) (P : Pl) : Loc lo hi (PlR lo hi f p l v P) := by
  rintro w w' ⟨a1, b1, a2, b2, a3, b3, d, r1, r2, r3⟩ hk
  exact ⟨a1, b1, a2, b2, a3, b3, d, Row.loc _ _ _ _ w w' r1 (fun k k1 k2 => hk k (Nat.le_trans d.l1 k1) (Nat.lt_of_lt_of_le k2 d.h1)), AR.loc _ _ _ _ _ _ w w' r2 (fun k k1 k2 => hk k (Nat.le_trans d.l2 k1) (Nat.lt_of_lt_of_le k2 d.h2)), Row.loc _ _ _ _ w w' r3 (fun k k1 k2 => hk k (Nat.le_trans d.l3 k1) (Nat.lt_of_lt_of_le k2 d.h3))⟩
theorem PlR.toQ {lo hi : Nat} {f p l v : Value} {P : Pl} {W : World} (h : PlR lo hi f p l v P W) : PlQ lo hi f p l v P W := by
  obtain ⟨a1, b1, a2, b2, a3, b3, d, r1, r2, r3⟩ := h
  exact ⟨r1.toQ.wide d.l1 d.h1, r2.wide d.l2 d.h2, r3.toQ.wide d.l3 d.h3⟩
theorem PlR.below {w w' : World} {lo hi : Nat} {f p l v : Value} {P : Pl} (h : PlR lo hi f p l v P w) (hb : Below hi w w') : PlR lo hi f p l v P w' := PlR.loc _ _ _ _ _ _ _ w w' h (fun k _ hk => hb.block k hk)
theorem PlR.wide {w : World} {lo hi lo' hi' : Nat} {f p l v : Value} {P : Pl} (h : PlR lo hi f p l v P w) (h1 : lo' ≤ lo) (h2 : hi ≤ hi') : PlR lo' hi' f p l v P w := by
  obtain ⟨a1, b1, a2, b2, a3, b3, d, r⟩ := h
  exact ⟨a1, b1, a2, b2, a3, b3, d.wide h1 h2, r⟩
theorem PlR.zero (lo : Nat) (hi : Nat) (h : lo ≤ hi) (w : World) : PlR lo hi (.slice none 0 0) (.slice none 0 0) (.slice none 0 0) (.slice none 0 0) plZero w :=
  ⟨lo, lo, lo, lo, lo, lo, ⟨Nat.le_refl _, h, Nat.le_refl _, h, Nat.le_refl _, h, .inl (Nat.le_refl _), .inl (Nat.le_refl _), .inl (Nat.le_refl _)⟩, Row.size0 _ _ _, AR.nil _ _ _, Row.size0 _ _ _⟩
theorem PlQ.form {lo hi : Nat} {f p l v : Value} {P : Pl} {W : World} (h : PlQ lo hi f p l v P W) : ∃ fa fc pa pc la lc va vc, f = .slice fa P.fr.length fc ∧ p = .slice pa P.ps.length pc ∧ l = .slice la P.L.length lc ∧ v = .slice va P.lv.length vc := by
  obtain ⟨fa, fc, h1, -⟩ := h.fr
  obtain ⟨pa, pc, la, lc, h2, h3, -⟩ := h.ag.form
  obtain ⟨va, vc, h4, -⟩ := h.lv
  exact ⟨fa, fc, pa, pc, la, lc, va, vc, h1, h2, h3, h4⟩
theorem PlR.form {lo hi : Nat} {f p l v : Value} {P : Pl} {W : World} (h : PlR lo hi f p l v P W) : ∃ fa fc pa pc la lc va vc, f = .slice fa P.fr.length fc ∧ p = .slice pa P.ps.length pc ∧ l = .slice la P.L.length lc ∧ v = .slice va P.lv.length vc := h.toQ.form
/- marked: n, m, q, r: how many there are -/
structure PlM (lo hi : Nat) (f p l v : Value) (k0 n m q r : Nat) (W : World) : Prop where
  fr : Row W lo hi f (imarks k0 n)
  ag : AM lo hi p l (k0 + n) m q W
  lv : Row W lo hi v (imarks (k0 + n + m + q * 2) r)
theorem PlM.loc (lo hi : Nat) (f p l v : Value) (k0 n m q r : Nat) : Loc lo hi (PlM lo hi f p l v k0 n m q r) :=
  fun w w' h hk => ⟨Row.loc _ _ _ _ w w' h.fr hk, AM.loc _ _ _ _ _ _ _ w w' h.ag hk, Row.loc _ _ _ _ w w' h.lv hk⟩
theorem AM.wide {w : World} {lo hi lo' hi' : Nat} {p l : Value} {k0 n m : Nat} (h : AM lo hi p l k0 n m w) (h1 : lo' ≤ lo) (h2 : hi ≤ hi') : AM lo' hi' p l k0 n m w := ⟨h.pins.wide h1 h2, h.limbo.wide h1 h2⟩
theorem Loc.out {a b lo hi : Nat} {P : World → Prop} {w w' : World} (l : Loc a b P) (p : P w) (o : Out lo hi w w') (hz : b ≤ w.heap.size) (hn : b ≤ lo ∨ hi ≤ a) : P w' :=
  l w w' p (fun k k1 k2 => o.block k (by omega) (by omega))
theorem Out.wide {lo hi lo' hi' : Nat} {w w' : World} (h : Out lo hi w w') (h1 : lo' ≤ lo) (h2 : hi ≤ hi') : Out lo' hi' w w' := ⟨h.os, h.tape, h.output, h.size, fun k hk hn => h.block k hk (by omega)⟩

end Go.Proofs.Ytikliofkplbdpaa

namespace Go.Proofs.Ytikliofkplbdpaa
open Go.ChangeShapes Go.WideShapes Go.ChangeAt Go.RowKit
set_option linter.unusedVariables false

def nodesL (L : List (Int × Int)) : List Int := L.map (·.1)
def allOf (P : Pl) : List Int := P.fr ++ (P.lv ++ nodesL P.L)
def RisesP (xs : List Int) : Prop := ∀ j, 0 < j → ∀ hj : j < xs.length, xs[j - 1]'(by omega) < xs[j]
def PlacesP (l : List Int) : Prop := ∀ j (hj : j < l.length), 0 ≤ l[j] ∧ l[j] < (l.length : Int) ∧ ¬ l[j] ∈ l.take j
def HoldsAll (l : List Int) : Prop := ∀ k : Nat, k < l.length → (k : Int) ∈ l
def riseB (xs : List Int) : Bool := (List.range xs.length).all fun j => decide (j = 0) || decide (xs.getD (j - 1) 0 < xs.getD j 0)
def placesB (l : List Int) : Bool := (List.range l.length).all fun j => decide (0 ≤ l.getD j 0) && decide (l.getD j 0 < (l.length : Int)) && !decide (l.getD j 0 ∈ l.take j)
theorem getD_of {l : List Int} {j : Nat} (h : j < l.length) : l.getD j 0 = l[j] := by simp [List.getD, h]
theorem riseB_iff (xs : List Int) : riseB xs = true ↔ RisesP xs := by
  unfold riseB
  rw [List.all_eq_true]
  constructor
  · intro h j h0 hj
    have := h j (List.mem_range.2 hj)
    rw [getD_of hj, getD_of (show j - 1 < xs.length by omega)] at this
    simp at this
    rcases this with this | this
    · omega
    · exact this
  · intro h j hj
    have hj := List.mem_range.1 hj
    rw [getD_of hj, getD_of (show j - 1 < xs.length by omega)]
    by_cases h0 : j = 0
    · simp [h0]
    · have := h j (by omega) hj
      simp [this]
theorem placesB_iff (l : List Int) : placesB l = true ↔ PlacesP l := by
  unfold placesB
  rw [List.all_eq_true]
  constructor
  · intro h j hj
    have := h j (List.mem_range.2 hj)
    rw [getD_of hj] at this
    simp only [Bool.and_eq_true, decide_eq_true_eq, Bool.not_eq_true', decide_eq_false_iff_not] at this
    exact ⟨this.1.1, this.1.2, this.2⟩
  · intro h j hj
    have hj := List.mem_range.1 hj
    rw [getD_of hj]
    have := h j hj
    simp only [Bool.and_eq_true, decide_eq_true_eq, Bool.not_eq_true', decide_eq_false_iff_not]
    exact ⟨⟨this.1, this.2.1⟩, this.2.2⟩
def plOkB (P : Pl) : Bool := okB P.a P.ps P.L && decide ((allOf P).length ≤ 100) && riseB P.lv && placesB (allOf P)
theorem bool_no {b : Bool} {p : Prop} (h : b = true ↔ p) (k : ¬ p) : b = false := by
  cases b with
  | false => rfl
  | true => exact absurd (h.1 rfl) k
theorem riseB_no {xs : List Int} {j : Nat} (h0 : 0 < j) (hj : j < xs.length) (h : ¬ xs[j - 1]'(by omega) < xs[j]) : riseB xs = false := bool_no (riseB_iff xs) (fun k => h (k j h0 hj))
theorem riseB_yes {xs : List Int} (h : RisesP xs) : riseB xs = true := (riseB_iff xs).2 h
theorem placesB_no {l : List Int} {j : Nat} (hj : j < l.length) (h : ¬ (0 ≤ l[j] ∧ l[j] < (l.length : Int) ∧ ¬ l[j] ∈ l.take j)) : placesB l = false := bool_no (placesB_iff l) (fun k => h (k j hj))
theorem placesB_yes {l : List Int} (h : PlacesP l) : placesB l = true := (placesB_iff l).2 h
theorem places_nodup {l : List Int} (h : PlacesP l) : l.Nodup ∧ ∀ x ∈ l, 0 ≤ x ∧ x < (l.length : Int) := by
  refine ⟨List.pairwise_iff_getElem.2 fun i j hi hj hij e => (h j hj).2.2 ?_, fun x hx => ?_⟩
  · rw [← e]
    exact List.mem_take_iff_getElem.2 ⟨i, by omega, rfl⟩
  · obtain ⟨j, hj, rfl⟩ := List.mem_iff_getElem.1 hx
    exact ⟨(h j hj).1, (h j hj).2.1⟩
theorem pigeon (n : Nat) : ∀ l : List Int, (∀ x ∈ l, 0 ≤ x ∧ x < (n : Int)) → l.Nodup → l.length ≤ n ∧ (l.length = n → ∀ k : Nat, k < n → (k : Int) ∈ l) := by
  induction n with
  | zero =>
    intro l h _
    cases l with
    | nil => exact ⟨Nat.le_refl _, fun _ k hk => by omega⟩
    | cons x l => have := h x (List.mem_cons_self ..); omega
  | succ n ih =>
    intro l h hn
    by_cases hm : (n : Int) ∈ l
    · have p := List.perm_cons_erase hm
      have hn2 := p.nodup hn
      have h2 : ∀ x ∈ l.erase (n : Int), 0 ≤ x ∧ x < (n : Int) := by
        intro x hx
        have h3 := h x (List.mem_of_mem_erase hx)
        have h4 : x ≠ (n : Int) := fun e => (List.nodup_cons.1 hn2).1 (e ▸ hx)
        omega
      obtain ⟨i1, i2⟩ := ih _ h2 (List.nodup_cons.1 hn2).2
      have hl := p.length_eq
      simp only [List.length_cons] at hl
      refine ⟨by omega, fun e k hk => ?_⟩
      by_cases hkn : k = n
      · subst hkn; exact hm
      · exact List.mem_of_mem_erase (i2 (by omega) k (by omega))
    · have h2 : ∀ x ∈ l, 0 ≤ x ∧ x < (n : Int) := by
        intro x hx
        have h3 := h x hx
        have h4 : x ≠ (n : Int) := fun e => hm (e ▸ hx)
        omega
      obtain ⟨i1, i2⟩ := ih _ h2 hn
      exact ⟨by omega, fun e => by omega⟩
theorem covers (n : Nat) : ∀ l : List Int, l.length = n → (∀ k : Nat, k < n → (k : Int) ∈ l) → (∀ x ∈ l, 0 ≤ x ∧ x < (n : Int)) ∧ l.Nodup := by
  induction n with
  | zero =>
    intro l h _
    obtain rfl := List.length_eq_zero_iff.1 h
    exact ⟨fun x hx => by simp at hx, List.nodup_nil⟩
  | succ n ih =>
    intro l h hk
    have hm := hk n (by omega)
    have p := List.perm_cons_erase hm
    have hl := p.length_eq
    simp only [List.length_cons] at hl
    obtain ⟨i1, i2⟩ := ih (l.erase (n : Int)) (by omega) (fun k hk2 => (List.mem_erase_of_ne (by omega)).2 (hk k (by omega)))
    have hnn : ¬ (n : Int) ∈ l.erase (n : Int) := fun hx => by have := i1 _ hx; omega
    refine ⟨fun x hx => ?_, p.symm.nodup (List.nodup_cons.2 ⟨hnn, i2⟩)⟩
    rcases List.mem_cons.1 (p.mem_iff.1 hx) with rfl | hx
    · omega
    · have := i1 x hx; omega
theorem places_iff (l : List Int) : PlacesP l ↔ HoldsAll l := by
  constructor
  · intro h
    obtain ⟨h1, h2⟩ := places_nodup h
    exact (pigeon l.length l h2 h1).2 rfl
  · intro h j hj
    obtain ⟨h1, h2⟩ := covers l.length l rfl h
    refine ⟨(h1 _ (List.getElem_mem hj)).1, (h1 _ (List.getElem_mem hj)).2, fun hm => ?_⟩
    obtain ⟨i, hi, e⟩ := List.mem_take_iff_getElem.1 hm
    exact List.pairwise_iff_getElem.1 h2 i j (by omega) hj (by omega) e
theorem placesB_hold {l : List Int} (h : HoldsAll l) : placesB l = true := placesB_yes ((places_iff l).2 h)
theorem placesB_lack {l : List Int} {k : Nat} (hk : k < l.length) (h : ¬ (k : Int) ∈ l) : placesB l = false := bool_no (placesB_iff l) (fun p => h ((places_iff l).1 p k hk))
theorem plOk_parts {P : Pl} (h : plOkB P = true) : okB P.a P.ps P.L = true ∧ (allOf P).length ≤ 100 ∧ RisesP P.lv ∧ PlacesP (allOf P) := by
  simp only [plOkB, Bool.and_eq_true] at h
  obtain ⟨⟨⟨h1, h2⟩, h3⟩, h4⟩ := h
  exact ⟨h1, of_decide_eq_true h2, (riseB_iff _).1 h3, (placesB_iff _).1 h4⟩
theorem plOk_no1 {P : Pl} (h : okB P.a P.ps P.L = false) : plOkB P = false := by simp [plOkB, h]
theorem plOk_no2 {P : Pl} (h : ¬ (allOf P).length ≤ 100) : plOkB P = false := by simp [plOkB, h]
theorem plOk_no3 {P : Pl} (h : riseB P.lv = false) : plOkB P = false := by simp [plOkB, h]
theorem plOk_no4 {P : Pl} (h : placesB (allOf P) = false) : plOkB P = false := by simp [plOkB, h]
theorem plOk_yes {P : Pl} (h1 : okB P.a P.ps P.L = true) (h2 : (allOf P).length ≤ 100) (h3 : riseB P.lv = true) (h4 : placesB (allOf P) = true) : plOkB P = true := by simp [plOkB, h1, h2, h3, h4]
theorem allOf_len (P : Pl) : (allOf P).length = P.fr.length + P.lv.length + P.L.length := by simp [allOf, nodesL]; omega
/- where each place is: 1 free, 2 alive, 3 in limbo -/
def stU (P : Pl) : List (Int × (Int × Int)) := P.fr.map (fun z => (z, (1, 0))) ++ (P.lv.map (fun z => (z, (2, 0))) ++ P.L.map (fun q => (q.1, (3, q.2))))
def stF (P : Pl) : Int → Option (Int × Int) := putAll (stU P) (fun _ => none)
theorem stU_keys (P : Pl) : (stU P).map (·.1) = allOf P := by simp [stU, allOf, nodesL, List.map_map, Function.comp_def]
theorem putAll_old (U : List (Int × (Int × Int))) (g : Int → Option (Int × Int)) (z : Int) (h : ¬ z ∈ U.map (·.1)) : putAll U g z = g z := by
  induction U generalizing g with
  | nil => rfl
  | cons p U ih =>
    simp only [List.map_cons, List.mem_cons, not_or] at h
    show putAll U (updF g p.1 p.2) z = g z
    rw [ih _ h.2]
    simp [updF, h.1]
theorem putAll_mem (U : List (Int × (Int × Int))) (g : Int → Option (Int × Int)) (z : Int) (h : z ∈ U.map (·.1)) : ∃ q, putAll U g z = some q ∧ (z, q) ∈ U := by
  induction U generalizing g with
  | nil => simp at h
  | cons p U ih =>
    by_cases hz : z ∈ U.map (·.1)
    · obtain ⟨q, h1, h2⟩ := ih (updF g p.1 p.2) hz
      exact ⟨q, h1, List.mem_cons_of_mem _ h2⟩
    · have hp : z = p.1 := by simpa [hz] using h
      refine ⟨p.2, ?_, by rw [hp]; exact List.mem_cons_self ..⟩
      show putAll U (updF g p.1 p.2) z = some p.2
      rw [putAll_old U _ z hz]
      simp [updF, hp]
theorem putAll_nodup (U : List (Int × (Int × Int))) (g : Int → Option (Int × Int)) (hn : (U.map (·.1)).Nodup) (z : Int) (q : Int × Int) (h : (z, q) ∈ U) : putAll U g z = some q := by
  obtain ⟨q', h1, h2⟩ := putAll_mem U g z (List.mem_map.2 ⟨_, h, rfl⟩)
  rw [h1]
  obtain ⟨i, hi, ei⟩ := List.mem_iff_getElem.1 h
  obtain ⟨j, hj, ej⟩ := List.mem_iff_getElem.1 h2
  have hp := List.pairwise_iff_getElem.1 hn
  have key : i = j := by
    rcases Nat.lt_trichotomy i j with hlt | rfl | hlt
    · exact absurd (by rw [List.getElem_map, List.getElem_map, ei, ej]) (hp i j (by simpa using hi) (by simpa using hj) hlt)
    · rfl
    · exact absurd (by rw [List.getElem_map, List.getElem_map, ei, ej]) (hp j i (by simpa using hj) (by simpa using hi) hlt)
  subst key
  rw [ei] at ej
  cases ej
  rfl
theorem stF_none (P : Pl) (z : Int) (h : ¬ z ∈ allOf P) : stF P z = none := putAll_old _ _ _ (by rw [stU_keys]; exact h)
theorem stF_some (P : Pl) (z : Int) (h : z ∈ allOf P) : ∃ q, stF P z = some q ∧ q.1 ≠ 0 := by
  obtain ⟨q, h1, h2⟩ := putAll_mem (stU P) (fun _ => none) z (by rw [stU_keys]; exact h)
  refine ⟨q, h1, ?_⟩
  simp only [stU, List.mem_append, List.mem_map] at h2
  rcases h2 with ⟨y, -, e⟩ | ⟨y, -, e⟩ | ⟨y, -, e⟩ <;> (cases e; simp)

end Go.Proofs.Ytikliofkplbdpaa

namespace Go.Proofs.Ytikliofkplbdpaa
open Go.ChangeShapes Go.WideShapes Go.ChangeAt Go.RowKit
set_option linter.unusedVariables false

theorem sz_agesG (a : Int) (p l : Option Addr) (n c m d : Nat) (t : Int) (w : World) (hn : n ≤ 9223372036854775807) (hm : m ≤ 9223372036854775807) (h1 : 0 ≤ t) (h2 : t ≤ 4194304) :
    Calls Try.prog 12 #[.agg #[.int .i64 a, .slice p n c, .slice l m d], .int .i64 t] w fun e w' => e = .returned (.int .i64 (if (n : Int) + m ≤ t then t - n - m else -1)) ∧ Below w.heap.size w w' := by
  by_cases h : (n : Int) ≤ t
  · by_cases h3 : (n : Int) + m ≤ t
    · rw [if_pos h3]
      go_enter Try.func12, Try.ntmps12
      go_wp2_with (first | (go_at_call 11; refine (sz_int p n c t _ hn h1 h2).mono ?_; rintro e w' ⟨rfl, rfl⟩; rw [if_neg (by omega)]) | (go_at_call 30; refine (sz_gones l m d _ _ hm (by omega) (by omega)).mono ?_; rintro e w' ⟨rfl, rfl⟩; rw [if_neg (by omega)]))
      go_ret
      exact ⟨rfl, (Below.refl _ _).alloc (Nat.le_refl _) _⟩
    · rw [if_neg h3]
      go_enter Try.func12, Try.ntmps12
      go_wp2_with (first | (go_at_call 11; refine (sz_int p n c t _ hn h1 h2).mono ?_; rintro e w' ⟨rfl, rfl⟩; rw [if_neg (by omega)]) | (go_at_call 30; refine (sz_gones l m d _ _ hm (by omega) (by omega)).mono ?_; rintro e w' ⟨rfl, rfl⟩; rw [if_pos (by omega)]))
      go_ret
      exact ⟨rfl, (Below.refl _ _).alloc (Nat.le_refl _) _⟩
  · rw [if_neg (by omega)]
    go_enter Try.func12, Try.ntmps12
    go_wp2_with (go_at_call 11; refine (sz_int p n c t _ hn h1 h2).mono ?_; rintro e w' ⟨rfl, rfl⟩; rw [if_pos (by omega)])
    go_ret
    exact ⟨rfl, (Below.refl _ _).alloc (Nat.le_refl _) _⟩
theorem sz_pool (a : Int) (f p l v : Option Addr) (n cf m cp q cl r cv : Nat) (w : World) (hn : n ≤ 9223372036854775807) (hm : m ≤ 9223372036854775807) (hq : q ≤ 9223372036854775807) (hr : r ≤ 9223372036854775807) :
    Calls Try.prog 4 #[.agg #[.slice f n cf, .int .i64 a, .slice p m cp, .slice l q cl, .slice v r cv], .int .i64 1048576] w fun e w' => (∃ z, e = .returned (.int .i64 z) ∧ (n + m + q + r ≤ 1048576 → 0 ≤ z) ∧ (¬ n + m + q + r ≤ 1048576 → z = -1)) ∧ Below w.heap.size w w' := by
  by_cases h : n ≤ 1048576
  · by_cases h2 : n + m + q ≤ 1048576
    · by_cases h3 : n + m + q + r ≤ 1048576
      · go_enter Try.func4, Try.ntmps4
        go_wp2_with fail
        refine (sz_int f n cf 1048576 _ hn (by omega) (by omega)).mono ?_
        rintro e w1 ⟨rfl, rfl⟩
        rw [if_neg (by omega)]
        go_wp2_with fail
        refine (sz_agesG a p l m cp q cl _ _ hm hq (by omega) (by omega)).mono ?_
        rintro e w1 ⟨rfl, b1⟩
        rw [if_pos (by omega)]
        have c4 : w1.cell? ⟨w.heap.size, 4, none⟩ = some (.slice v r cv) := below_cell b1 (by simp) (by simp [go_sem])
        have B := hidIt (((Below.refl w.heap.size w).alloc (Nat.le_refl _) (.cells #[.slice f n cf, .int .i64 a, .slice p m cp, .slice l q cl, .slice v r cv] 27)).trans (b1.mono (by simp)))
        clear b1
        go_wp2_with fail
        refine (sz_int v r cv _ _ hr (by omega) (by omega)).mono ?_
        rintro e w2 ⟨rfl, rfl⟩
        rw [if_neg (by omega)]
        go_wp2
        go_ret
        exact ⟨⟨_, rfl, fun _ => by omega, fun hh => absurd h3 hh⟩, B.out⟩
      · go_enter Try.func4, Try.ntmps4
        go_wp2_with fail
        refine (sz_int f n cf 1048576 _ hn (by omega) (by omega)).mono ?_
        rintro e w1 ⟨rfl, rfl⟩
        rw [if_neg (by omega)]
        go_wp2_with fail
        refine (sz_agesG a p l m cp q cl _ _ hm hq (by omega) (by omega)).mono ?_
        rintro e w1 ⟨rfl, b1⟩
        rw [if_pos (by omega)]
        have c4 : w1.cell? ⟨w.heap.size, 4, none⟩ = some (.slice v r cv) := below_cell b1 (by simp) (by simp [go_sem])
        have B := hidIt (((Below.refl w.heap.size w).alloc (Nat.le_refl _) (.cells #[.slice f n cf, .int .i64 a, .slice p m cp, .slice l q cl, .slice v r cv] 27)).trans (b1.mono (by simp)))
        clear b1
        go_wp2_with fail
        refine (sz_int v r cv _ _ hr (by omega) (by omega)).mono ?_
        rintro e w2 ⟨rfl, rfl⟩
        rw [if_pos (by omega)]
        go_wp2
        go_ret
        exact ⟨⟨_, rfl, fun hh => absurd hh (by omega), fun _ => rfl⟩, B.out⟩
    · go_enter Try.func4, Try.ntmps4
      go_wp2_with fail
      refine (sz_int f n cf 1048576 _ hn (by omega) (by omega)).mono ?_
      rintro e w1 ⟨rfl, rfl⟩
      rw [if_neg (by omega)]
      go_wp2_with fail
      refine (sz_agesG a p l m cp q cl _ _ hm hq (by omega) (by omega)).mono ?_
      rintro e w1 ⟨rfl, b1⟩
      rw [if_neg (by omega)]
      go_wp2
      go_ret
      exact ⟨⟨_, rfl, fun hh => absurd hh (by omega), fun _ => rfl⟩, ((Below.refl w.heap.size w).alloc (Nat.le_refl _) _).trans (b1.mono (by simp))⟩
  · go_enter Try.func4, Try.ntmps4
    go_wp2_with (go_at_call 11; refine (sz_int f n cf 1048576 _ hn (by omega) (by omega)).mono ?_; rintro e w' ⟨rfl, rfl⟩; rw [if_pos (by omega)])
    go_ret
    exact ⟨⟨_, rfl, fun hh => absurd hh (by omega), fun _ => rfl⟩, (Below.refl _ _).alloc (Nat.le_refl _) _⟩

theorem PlR.set_low {W : World} {lo hi : Nat} {f p l v : Value} {P : Pl} (h : PlR lo hi f p l v P W) {b o : Nat} {x : Value} (hb : b < lo) : PlR lo hi f p l v P (W.setCell ⟨b, o, none⟩ x) :=
  PlR.loc lo hi f p l v P W _ h (fun k k1 _ => Below.heap_setCell _ _ _ _ (by show k ≠ b; omega))
def PlFit (P : Pl) : Prop := P.fr.length + P.ps.length + P.L.length + P.lv.length ≤ 1048576
set_option maxHeartbeats 1600000 in
set_option maxRecDepth 100000 in
theorem to_pool (w : World) (f p l v : Value) (P : Pl) (hf : PlFit P) (h : PlIn w f p l v P) :
    Calls Try.prog 6 #[.agg #[f, .int .i64 P.a, p, l, v]] w fun e w' => ∃ f' p' l' v', e = .returned (.agg #[f', .int .i64 P.a, p', l', v']) ∧ PlR w.heap.size w'.heap.size f' p' l' v' P w' ∧ Below w.heap.size w w' := by
  have H := hidIt h
  unfold PlFit at hf
  obtain ⟨fa, fc, pa, pc, la, lc, va, vc, rfl, rfl, rfl, rfl⟩ := h.form
  clear h
  go_enter Try.func6, Try.ntmps6
  go_wp2_with fail
  generalize hW : World.alloc (World.alloc (World.alloc w _) _) _ = W0
  have X := bx3 w #[.slice fa P.fr.length fc, .int .i64 P.a, .slice pa P.ps.length pc, .slice la P.L.length lc, .slice va P.lv.length vc] #[.slice none 0 0, .int .i64 0, .slice none 0 0, .slice none 0 0, .slice none 0 0] #[.slice none 0 0, .int .i64 0, .slice none 0 0, .slice none 0 0, .slice none 0 0] 27 33 33
  rw [hW] at X
  clear hW
  obtain ⟨X0, X1, X2, bW, zW⟩ := X
  refine (to_int W0 _ P.fr (by omega) (H.out.fr.below bW).1).mono ?_
  rintro e w1 ⟨f1, rfl, r1, b1⟩
  have z1 := b1.size
  have R1 := hidIt r1
  obtain ⟨a1, c1, rfl⟩ := r1.form
  clear r1
  have Y := hidIt (And.intro (X0.below b1) (And.intro (X1.below b1) (And.intro (X2.below b1) (below_step bW (b1.mono (by omega))))))
  clear X0 X1 X2 b1 bW
  have y1 := Y.out.1.2.1 1
  have y2 := Y.out.1.2.1 2
  have y3 := Y.out.1.2.1 3
  have k2 := Y.out.2.2.1.2.1 0
  have q2' := Y.out.2.2.1.2.2
  simp at y1 y2 y3 k2
  go_wp2_with fail
  clear y1 y2 y3 k2 q2'
  generalize hW : World.setCell w1 _ _ = W1
  have Z : Bx W1 w.heap.size #[.slice fa P.fr.length fc, .int .i64 P.a, .slice pa P.ps.length pc, .slice la P.L.length lc, .slice va P.lv.length vc] ∧ Bx W1 (w.heap.size + 1) #[.slice none 0 0, .int .i64 0, .slice none 0 0, .slice none 0 0, .slice none 0 0] ∧ Bx W1 (w.heap.size + 1 + 1) #[.slice a1 P.fr.length c1, .int .i64 0, .slice none 0 0, .slice none 0 0, .slice none 0 0] ∧ Below w.heap.size w W1 ∧ W1.heap.size = w1.heap.size ∧ Row W1 W0.heap.size W1.heap.size (.slice a1 P.fr.length c1) (ints P.fr) := by
    rw [← hW]
    obtain ⟨y0, y1, y2, y3⟩ := Y.out
    exact ⟨y0.other _ (by omega), y1.other _ (by omega), y2.set _ (by simp), y3.setCell (by simp <;> omega) _, by simp, (R1.out.set_below _ _ (by simp; omega)).wide (Nat.le_refl _) (by simp)⟩
  clear hW Y R1
  obtain ⟨X0, X1, X2, bW, zW1, r1⟩ := Z
  refine (to_ages W1 P.a _ _ P.ps P.L (by omega) (by omega) (H.out.ag.below bW)).mono ?_
  rintro e w2 ⟨p2, l2, rfl, r2, b2⟩
  have z2 := b2.size
  have R1 := hidIt (r1.below (b2.mono (by omega)))
  have R2 := hidIt r2
  obtain ⟨pa2, pc2, la2, lc2, rfl, rfl, -⟩ := r2.form
  clear r1 r2
  have Y := hidIt (And.intro (X0.below b2) (And.intro (X1.below b2) (And.intro (X2.below b2) (below_step bW (b2.mono (by omega))))))
  clear X0 X1 X2 b2 bW
  have y4 := Y.out.1.2.1 4
  have k0 := Y.out.2.2.1.2.1 0
  have k1 := Y.out.2.2.1.2.1 1
  have k2 := Y.out.2.2.1.2.1 2
  have k3 := Y.out.2.2.1.2.1 3
  have q2' := Y.out.2.2.1.2.2
  simp at y4 k0 k1 k2 k3
  go_wp2_with fail
  clear y4 k0 k1 k2 k3 q2'
  generalize hW : World.setCell _ _ (Value.slice la2 P.L.length lc2) = W2
  have Z : Bx W2 (w.heap.size + 1) #[.slice none 0 0, .int .i64 0, .slice none 0 0, .slice none 0 0, .slice none 0 0] ∧ Bx W2 (w.heap.size + 1 + 1) #[.slice a1 P.fr.length c1, .int .i64 P.a, .slice pa2 P.ps.length pc2, .slice la2 P.L.length lc2, .slice none 0 0] ∧ Below w.heap.size w W2 ∧ W2.heap.size = w2.heap.size ∧ Row W2 W0.heap.size W1.heap.size (.slice a1 P.fr.length c1) (ints P.fr) ∧ AR W1.heap.size W2.heap.size (.slice pa2 P.ps.length pc2) (.slice la2 P.L.length lc2) P.ps P.L W2 := by
    rw [← hW]
    obtain ⟨y0, y1, y2, y3⟩ := Y.out
    refine ⟨((y1.other _ (by omega)).other _ (by omega)).other _ (by omega), ((y2.set _ (by simp)).set _ (by simp)).set _ (by simp), ((y3.setCell (by simp <;> omega) _).setCell (by simp <;> omega) _).setCell (by simp <;> omega) _, by simp, ((R1.out.set_below _ _ (by simp; omega)).set_below _ _ (by simp; omega)).set_below _ _ (by simp; omega), ?_⟩
    have hk : ∀ k, W1.heap.size ≤ k → (((w2.setCell ⟨w.heap.size + 1 + 1, 1, none⟩ (.int .i64 P.a)).setCell ⟨w.heap.size + 1 + 1, 2, none⟩ (.slice pa2 P.ps.length pc2)).setCell ⟨w.heap.size + 1 + 1, 3, none⟩ (.slice la2 P.L.length lc2)).heap[k]? = w2.heap[k]? := fun k hk => ((Below.heap_setCell _ _ _ _ (by show k ≠ w.heap.size + 1 + 1; omega)).trans (Below.heap_setCell _ _ _ _ (by show k ≠ w.heap.size + 1 + 1; omega))).trans (Below.heap_setCell _ _ _ _ (by show k ≠ w.heap.size + 1 + 1; omega))
    exact (AR.loc _ _ _ _ _ _ _ _ R2.out (fun k k1 _ => hk k k1)).wide (Nat.le_refl _) (by simp)
  clear hW Y R1 R2
  obtain ⟨X1, X2, bW, zW2, r1, r2⟩ := Z
  refine (to_int W2 _ P.lv (by omega) (H.out.lv.below bW).1).mono ?_
  rintro e w3 ⟨v3, rfl, r3, b3⟩
  have z3 := b3.size
  have R1 := hidIt (r1.below (b3.mono (by omega)))
  have R2 := hidIt (r2.below (b3.mono (by omega)))
  have R3 := hidIt r3
  obtain ⟨a3, c3, rfl⟩ := r3.form
  clear r1 r2 r3
  have Y := hidIt (And.intro (X1.below b3) (And.intro (X2.below b3) (below_step bW (b3.mono (by omega)))))
  clear X1 X2 b3 bW
  have m0 := Y.out.1.2.1 0
  have m1 := Y.out.1.2.1 1
  have m2 := Y.out.1.2.1 2
  have m3 := Y.out.1.2.1 3
  have m4 := Y.out.1.2.1 4
  have q1' := Y.out.1.2.2
  have k0 := Y.out.2.1.2.1 0
  have k1 := Y.out.2.1.2.1 1
  have k2 := Y.out.2.1.2.1 2
  have k3 := Y.out.2.1.2.1 3
  have k4 := Y.out.2.1.2.1 4
  have q2' := Y.out.2.1.2.2
  simp at m0 m1 m2 m3 m4 k0 k1 k2 k3 k4
  go_wp2
  refine bodyPost_ret (v := .agg #[.slice a1 P.fr.length c1, .int .i64 P.a, .slice pa2 P.ps.length pc2, .slice la2 P.L.length lc2, .slice a3 P.lv.length c3]) (by simp [results, Try.results6, go_sem, m0, m1, m2, m3, m4]) rfl ⟨_, _, _, _, rfl, ?_, ?_⟩
  · refine PlR.wide (lo := W0.heap.size) (hi := w3.heap.size) ((((((PlR.set_low (lo := W0.heap.size) (hi := w3.heap.size) (W := w3) ⟨W0.heap.size, W1.heap.size, W1.heap.size, W2.heap.size, W2.heap.size, w3.heap.size, ⟨by omega, by omega, by omega, by omega, by omega, by omega, .inl (Nat.le_refl _), .inl (by omega), .inl (Nat.le_refl _)⟩, R1.out, R2.out, R3.out⟩ (by omega)).set_low (by omega)).set_low (by omega)).set_low (by omega)).set_low (by omega)).set_low (by omega)) (by omega) (by simp)
  · have y3 := Y.out.2.2
    exact ((((((y3.setCell (by simp <;> omega) _).setCell (by simp <;> omega) _).setCell (by simp <;> omega) _).setCell (by simp <;> omega) _).setCell (by simp <;> omega) _).setCell (by simp <;> omega) _)
theorem eq_pool (w : World) (l1 h1 l2 h2 : Nat) (f1 p1 q1 v1 f2 p2 q2 v2 : Value) (P : Pl) (hf : PlFit P) (e1 : h1 ≤ w.heap.size) (e2 : h2 ≤ w.heap.size) (r1 : PlQ l1 h1 f1 p1 q1 v1 P w) (r2 : PlQ l2 h2 f2 p2 q2 v2 P w) :
    Calls Try.prog 8 #[.agg #[f1, .int .i64 P.a, p1, q1, v1], .agg #[f2, .int .i64 P.a, p2, q2, v2]] w fun e w' => e = .returned (.bool true) ∧ Below w.heap.size w w' := by
  have R1 := hidIt r1
  have R2 := hidIt r2
  unfold PlFit at hf
  obtain ⟨fa, fc, pa, pc, la, lc, va, vc, rfl, rfl, rfl, rfl⟩ := r1.form
  obtain ⟨fb, fd, pb, pd, lb, ld, vb, vd, rfl, rfl, rfl, rfl⟩ := r2.form
  clear r1 r2
  go_enter Try.func8, Try.ntmps8
  go_wp2_with fail
  generalize hW : World.alloc (World.alloc w _) _ = W0
  have X := bx2 w #[.slice fa P.fr.length fc, .int .i64 P.a, .slice pa P.ps.length pc, .slice la P.L.length lc, .slice va P.lv.length vc] #[.slice fb P.fr.length fd, .int .i64 P.a, .slice pb P.ps.length pd, .slice lb P.L.length ld, .slice vb P.lv.length vd] 33 33
  rw [hW] at X
  clear hW
  obtain ⟨X0, X1, bW, zW⟩ := X
  refine (eq_ints W0 _ _ P.fr (by omega) ((R1.out.pin e1).fr.below bW) ((R2.out.pin e2).fr.below bW)).mono ?_
  rintro e w1 ⟨rfl, b1⟩
  have z1 := b1.size
  have Y := hidIt (And.intro (X0.below b1) (And.intro (X1.below b1) (below_step bW (b1.mono (by omega)))))
  clear X0 X1 bW b1
  have y1 := Y.out.1.2.1 1
  have y2 := Y.out.1.2.1 2
  have y3 := Y.out.1.2.1 3
  have k1 := Y.out.2.1.2.1 1
  have k2 := Y.out.2.1.2.1 2
  have k3 := Y.out.2.1.2.1 3
  simp at y1 y2 y3 k1 k2 k3
  go_wp2_with fail
  clear y1 y2 y3 k1 k2 k3
  refine (eq_ages w1 l1 h1 l2 h2 P.a _ _ _ _ P.ps P.L (by omega) (by omega) (by omega) (by omega) (R1.out.ag.below (Y.out.2.2.mono e1)) (R2.out.ag.below (Y.out.2.2.mono e2))).mono ?_
  rintro e w2 ⟨rfl, b2⟩
  have z2 := b2.size
  have Z := hidIt (And.intro (Y.out.1.below b2) (And.intro (Y.out.2.1.below b2) (below_step Y.out.2.2 (b2.mono (by omega)))))
  clear Y b2
  have y4 := Z.out.1.2.1 4
  have k4 := Z.out.2.1.2.1 4
  simp at y4 k4
  go_wp2_with fail
  clear y4 k4
  refine (eq_ints w2 _ _ P.lv (by omega) ((R1.out.pin e1).lv.below Z.out.2.2) ((R2.out.pin e2).lv.below Z.out.2.2)).mono ?_
  rintro e w3 ⟨rfl, b3⟩
  go_wp2
  go_ret
  exact ⟨rfl, below_step Z.out.2.2 (b3.mono (by omega))⟩

theorem mark_pool (w : World) (lo hi : Nat) (f p l v : Value) (P : Pl) (k0 : Nat) (hf : PlFit P) (h2 : k0 ≤ 1) (hh : hi ≤ w.heap.size) (r : PlR lo hi f p l v P w) :
    Calls Try.prog 9 #[.agg #[f, .int .i64 P.a, p, l, v], .int .i64 k0] w fun e w' => e = .returned (.int .i64 ((k0 + P.fr.length + P.ps.length + P.L.length * 2 + P.lv.length : Nat) : Int)) ∧ PlM lo hi f p l v k0 P.fr.length P.ps.length P.L.length P.lv.length w' ∧ Out lo hi w w' := by
  obtain ⟨fa, fc, pa, pc, la, lc, va, vc, rfl, rfl, rfl, rfl⟩ := r.form
  unfold PlFit at hf
  obtain ⟨a1, b1, a2, b2, a3, b3, d, r1, r2, r3⟩ := r
  obtain ⟨d1, d2, d3, d4, d5, d6, d7, d8, d9⟩ := d
  have R1 := hidIt r1
  have R2 := hidIt r2
  have R3 := hidIt r3
  clear r1 r2 r3
  go_enter Try.func9, Try.ntmps9
  go_wp2_with fail
  generalize hW : World.alloc w _ = W0
  have X := Bx.new w #[.slice fa P.fr.length fc, .int .i64 P.a, .slice pa P.ps.length pc, .slice la P.L.length lc, .slice va P.lv.length vc] 33
  have bW : Below w.heap.size w W0 := by rw [← hW]; exact (Below.refl _ _).alloc (Nat.le_refl _) _
  have zW : W0.heap.size = w.heap.size + 1 := by rw [← hW]; simp
  rw [hW] at X
  clear hW
  refine (mark_int W0 a1 b1 _ P.fr k0 (by omega) (by omega) (by omega) (R1.out.below (bW.mono (by omega)))).mono ?_
  rintro e w1 ⟨rfl, m1, o1⟩
  have M1 := hidIt m1
  have zz1 := o1.size
  have R2a := hidIt ((AR.loc _ _ _ _ _ _).out (R2.out.below (bW.mono (by omega))) o1 (by omega) (by omega))
  have R3a := hidIt ((Row.loc _ _ _ _).out (R3.out.below (bW.mono (by omega))) o1 (by omega) (by omega))
  have X1 := hidIt (X.block o1.size (o1.block _ X.1 (.inr (by omega))))
  have O1 := hidIt ((Out.of_below (lo := lo) (hi := hi) bW).trans (o1.wide (by omega) (by omega)))
  clear m1 o1 R1 R2 R3 X bW
  have y1 := X1.out.2.1 1
  have y2 := X1.out.2.1 2
  have y3 := X1.out.2.1 3
  simp at y1 y2 y3
  go_wp2_with fail
  clear y1 y2 y3
  refine (mark_ages w1 a2 b2 P.a _ _ P.ps P.L (k0 + P.fr.length) (by omega) (by omega) (by omega) (by omega) R2a.out).mono ?_
  rintro e w2 ⟨rfl, m2, o2⟩
  have zz2 := o2.size
  have M2 := hidIt m2
  have M1a := hidIt ((Row.loc _ _ _ _).out M1.out o2 (by omega) (by omega))
  have R3b := hidIt ((Row.loc _ _ _ _).out R3a.out o2 (by omega) (by omega))
  have X2 := hidIt (X1.out.block o2.size (o2.block _ X1.out.1 (.inr (by omega))))
  have O2 := hidIt (O1.out.trans (o2.wide (by omega) (by omega)))
  clear m2 o2 M1 R2a R3a X1 O1
  have y4 := X2.out.2.1 4
  simp at y4
  go_wp2_with fail
  clear y4
  refine (mark_int w2 a3 b3 _ P.lv (k0 + P.fr.length + P.ps.length + P.L.length * 2) (by omega) (by omega) (by omega) R3b.out).mono ?_
  rintro e w3 ⟨rfl, m3, o3⟩
  have M3 := hidIt m3
  have M1b := hidIt ((Row.loc _ _ _ _).out M1a.out o3 (by omega) (by omega))
  have M2a := hidIt ((AM.loc _ _ _ _ _ _ _).out M2.out o3 (by omega) (by omega))
  have O3 := hidIt (O2.out.trans (o3.wide (by omega) (by omega)))
  clear m3 o3 M1a M2 R3b X2 O2
  go_wp2
  go_ret
  exact ⟨rfl, ⟨M1b.out.wide (by omega) (by omega), M2a.out.wide (by omega) (by omega), M3.out.wide (by omega) (by omega)⟩, O3.out⟩

theorem held_pool (w : World) (lo hi : Nat) (a : Int) (f p l v : Value) (n m q r k0 : Nat) (hf : n + m + q + r ≤ 1048576) (h2 : k0 ≤ 1) (hh : hi ≤ w.heap.size) (hm : PlM lo hi f p l v k0 n m q r w) :
    Calls Try.prog 10 #[.agg #[f, .int .i64 a, p, l, v], .int .i64 k0] w fun e w' => e = .returned (.int .i64 ((k0 + n + m + q * 2 + r : Nat) : Int)) ∧ Below w.heap.size w w' := by
  have R := hidIt hm
  obtain ⟨fa, fc, rfl⟩ := hm.fr.mform
  obtain ⟨pa, pc, rfl⟩ := hm.ag.pins.mform
  obtain ⟨la, lc, rfl, -⟩ := hm.ag.limbo.form
  obtain ⟨va, vc, rfl⟩ := hm.lv.mform
  clear hm
  go_enter Try.func10, Try.ntmps10
  go_wp2_with fail
  generalize hW : World.alloc w _ = W0
  have X := Bx.new w #[.slice fa n fc, .int .i64 a, .slice pa m pc, .slice la q lc, .slice va r vc] 33
  have bW : Below w.heap.size w W0 := by rw [← hW]; exact (Below.refl _ _).alloc (Nat.le_refl _) _
  have zW : W0.heap.size = w.heap.size + 1 := by rw [← hW]; simp
  rw [hW] at X
  clear hW
  refine (held_int W0 lo hi _ n k0 (by omega) (by omega) (R.out.fr.below (bW.mono (by omega)))).mono ?_
  rintro e w1 ⟨rfl, rfl⟩
  have y1 := X.2.1 1
  have y2 := X.2.1 2
  have y3 := X.2.1 3
  simp at y1 y2 y3
  have BW := hidIt bW
  have HX := hidIt X
  clear X bW
  go_wp2_with fail
  clear y1 y2 y3
  refine (held_ages w1 lo hi a _ _ m q (k0 + n) (by omega) (by omega) (by omega) (by omega) (AM.loc _ _ _ _ _ _ _ _ _ R.out.ag (fun k _ hk => BW.out.block k (by omega)))).mono ?_
  rintro e w2 ⟨rfl, b2⟩
  have z2 := b2.size
  have B2 := hidIt (below_step BW.out (b2.mono (by omega)))
  have X2 := hidIt (HX.out.below b2)
  clear b2 HX BW
  have y4 := X2.out.2.1 4
  simp at y4
  go_wp2_with fail
  clear y4
  refine (held_int w2 lo hi _ r (k0 + n + m + q * 2) (by omega) (by omega) (R.out.lv.below (B2.out.mono (by omega)))).mono ?_
  rintro e w3 ⟨rfl, rfl⟩
  go_wp2
  go_ret
  exact ⟨rfl, B2.out⟩

end Go.Proofs.Ytikliofkplbdpaa

namespace Go.Proofs.Ytikliofkplbdpaa
open Go.ChangeShapes Go.WideShapes Go.ChangeAt Go.RowKit
set_option linter.unusedVariables false

def SrcS (w : World) (size : Nat) (x : Value) (m : Nat) (news : List Value) : Prop :=
  (∃ a c, x = .slice a 0 c ∧ m = 0 ∧ news = []) ∨ ∃ ad c, x = .slice (some ad) m c ∧ news.length = m * size ∧ (∀ j u, news[j]? = some u → w.cell? (ad.add j) = some u) ∧ ∀ u ∈ news, u.oneCell' = true
theorem add_none (b o j : Nat) : (⟨b, o, none⟩ : Addr).add j = ⟨b, o + j, none⟩ := by unfold Addr.add; split <;> simp_all
theorem src_ints {w : World} {v : Value} {xs : List Int} (h : IntsIn w v xs) : SrcS w 1 v xs.length (ints xs) := by
  obtain ⟨⟨a, c, rfl, h⟩, -⟩ := h
  rcases h with rfl | ⟨b, off, rfl, hb, hc⟩
  · exact .inl ⟨a, c, rfl, rfl, rfl⟩
  · refine .inr ⟨_, c, rfl, by simp, fun j u hj => ?_, ints_one xs⟩
    obtain ⟨hj1, rfl⟩ := List.getElem?_eq_some_iff.1 hj
    rw [add_none, List.getElem_map]
    exact hc j (by simpa using hj1)
section
variable {P : Program} (w : World)
theorem run_append_src (t ty : TypeId) (base : Nat) (e : TypeId) (i : TypeInfo) (z : Value) (size bytes : Nat) (ht : P.underlying t = some (.slice e)) (hi : P.info? e = some i) (hz : i.zero = some z)
    (hsize : i.size = size) (hby : i.bytes = bytes) (hzs : z.cells.size = size) (hsz : 0 < size)
    (v : Value) (n : Nat) (xs : List Value) (hown : w.ownsRow base e size v n xs) (x : Value) (m : Nat) (news : List Value) (hx : SrcS w size x m news)
    (h63 : n + m ≤ maxLen) (hbytes : (n + m) * bytes ≤ 140737488355328) (hbase : base ≤ w.heap.size) :
    ∃ v' w', (Builtin.append_ #[t, t] ty #[v, x]).run P w = .ok v' w' ∧ w'.ownsRow base e size v' (n + m) (xs ++ news) ∧ w.grownBy w' v.ownBlock ∧ (v'.ownBlock = v.ownBlock ∨ v'.ownBlock = some w.heap.size) := by
  rcases hx with ⟨a, c, rfl, rfl, rfl⟩ | ⟨ad, c, rfl, hl, hnews, h1⟩
  · obtain ⟨a', c', hv, hle⟩ : ∃ a' c', v = .slice a' n c' ∧ n ≤ c' := by
      rcases hown.2 with ⟨h1, h2⟩ | ⟨g, cap, cur, h1, -, -, h4, -⟩
      · exact ⟨none, 0, by rw [h1, h2], by omega⟩
      · exact ⟨_, cap, h1, h4⟩
    have hs : Src P i.size t (.slice a 0 c) 0 [] w := by
      cases a with
      | none => exact Src.ofNil w ht c
      | some ad => exact Src.ofSlice w ht ad 0 c [] (by simp) (fun j u h => by simp at h) (fun u h => by cases h)
    have hr := run_append_nothing w t t ty e i ht hi a' n c' hle _ hs
    rw [← hv] at hr
    exact ⟨v, w, hr, by rw [Nat.add_zero, List.append_nil]; exact hown, ⟨rfl, rfl, rfl, Nat.le_refl _, fun _ _ _ => rfl⟩, .inl rfl⟩
  · obtain ⟨v', w', hr, h2, h3, _, h5⟩ := run_append_own_at (P := P) w base t ty e i z size bytes ht hi hz hsize hby hzs hsz v n xs hown ad m c news hl hnews h1 h63 hbytes hbase
    exact ⟨v', w', hr, h2, h3, h5⟩
theorem wp_append_src {o : Oper} {a : Act} {K : Act → World → Prop} {Q : Exit → Act → World → Prop} (s x : Operand) (t : TypeId)
    (ho : o.op = .call { callee := .builtin .append, args := #[s, x], argTypes := #[t, t] })
    (base : Nat) (e : TypeId) (i : TypeInfo) (z : Value) (size bytes : Nat) (ht : P.underlying t = some (.slice e)) (hi : P.info? e = some i) (hz : i.zero = some z)
    (hsize : i.size = size) (hby : i.bytes = bytes) (hzs : z.cells.size = size) (hsz : 0 < size)
    (v : Value) (n : Nat) (xs : List Value) (hs : a.eval s = v) (hown : w.ownsRow base e size v n xs) (y : Value) (m : Nat) (news : List Value) (hy : a.eval x = y) (hx : SrcS w size y m news)
    (h63 : n + m ≤ maxLen) (hbytes : (n + m) * bytes ≤ 140737488355328) (hbase : base ≤ w.heap.size)
    (h : ∀ v' w', w'.ownsRow base e size v' (n + m) (xs ++ news) → w.grownBy w' v.ownBlock → (v'.ownBlock = v.ownBlock ∨ v'.ownBlock = some w.heap.size) → K (a.put o.dst v') w') : Oper.wp P o a w K Q := by
  obtain ⟨v', w', hr, h2, h3, h4⟩ := run_append_src (P := P) w t o.type base e i z size bytes ht hi hz hsize hby hzs hsz v n xs hown y m news hx h63 hbytes hbase
  unfold Oper.wp execOp
  simp only [ho, resolve, invoke, builtin, Sem.run_bind, Sem.run_pure, Result.andThen_ok, List.map_toArray, List.map_cons, List.map_nil, hs, hy, hr]
  exact h v' w' h2 h3 h4
theorem wpList_append_src {ops : Array Oper} {rest : List Oper} {o : Oper} {a : Act} {Q : Exit → Act → World → Prop} (hgd : o.guard = none) (s x : Operand) (t : TypeId)
    (ho : o.op = .call { callee := .builtin .append, args := #[s, x], argTypes := #[t, t] })
    (base : Nat) (e : TypeId) (i : TypeInfo) (z : Value) (size bytes : Nat) (ht : P.underlying t = some (.slice e)) (hi : P.info? e = some i) (hz : i.zero = some z)
    (hsize : i.size = size) (hby : i.bytes = bytes) (hzs : z.cells.size = size) (hsz : 0 < size)
    (v : Value) (n : Nat) (xs : List Value) (hs : a.eval s = v) (hown : w.ownsRow base e size v n xs) (y : Value) (m : Nat) (news : List Value) (hy : a.eval x = y) (hx : SrcS w size y m news)
    (h63 : n + m ≤ maxLen) (hbytes : (n + m) * bytes ≤ 140737488355328) (hbase : base ≤ w.heap.size)
    (h : ∀ v' w', w'.ownsRow base e size v' (n + m) (xs ++ news) → w.grownBy w' v.ownBlock → (v'.ownBlock = v.ownBlock ∨ v'.ownBlock = some w.heap.size) → wpList P ops Q rest (a.put o.dst v') w') : wpList P ops Q (o :: rest) a w :=
  wpList_plain hgd fun _ hK => wp_append_src w s x t ho base e i z size bytes ht hi hz hsize hby hzs hsz v n xs hs hown y m news hy hx h63 hbytes hbase fun v' w' h2 h3 h4 => hK _ _ (h v' w' h2 h3 h4)
theorem step_append_src {ops : Array Oper} {o : Oper} {a : Act} {K : Act → World → Prop} {Q : Exit → Act → World → Prop} {E : Prop} (hgd : o.guard = none) (s x : Operand) (t : TypeId)
    (ho : o.op = .call { callee := .builtin .append, args := #[s, x], argTypes := #[t, t] })
    (base : Nat) (e : TypeId) (i : TypeInfo) (z : Value) (size bytes : Nat) (ht : P.underlying t = some (.slice e)) (hi : P.info? e = some i) (hz : i.zero = some z)
    (hsize : i.size = size) (hby : i.bytes = bytes) (hzs : z.cells.size = size) (hsz : 0 < size)
    (v : Value) (n : Nat) (xs : List Value) (hs : a.eval s = v) (hown : w.ownsRow base e size v n xs) (y : Value) (m : Nat) (news : List Value) (hy : a.eval x = y) (hx : SrcS w size y m news)
    (h63 : n + m ≤ maxLen) (hbytes : (n + m) * bytes ≤ 140737488355328) (hbase : base ≤ w.heap.size)
    (h : ∀ v' w', w'.ownsRow base e size v' (n + m) (xs ++ news) → w.grownBy w' v.ownBlock → (v'.ownBlock = v.ownBlock ∨ v'.ownBlock = some w.heap.size) → K (a.put o.dst v') w') : if Region.wanted o (yielded ops a.tmps) = true then Oper.wp P o a w K Q else E := by
  have hw : Region.wanted o (yielded ops a.tmps) = true := by simp [Region.wanted, hgd]
  rw [if_pos hw]
  exact wp_append_src w s x t ho base e i z size bytes ht hi hz hsize hby hzs hsz v n xs hs hown y m news hy hx h63 hbytes hbase h
end
/- an owned row, cut to nothing -/
theorem own_cut {w : World} {base : Nat} {e : TypeId} {size g n cap : Nat} {xs : List Value} (h : w.ownsRow base e size (.slice (some ⟨g, 0, none⟩) n cap) n xs) : w.ownsRow base e size (.slice (some ⟨g, 0, none⟩) 0 cap) 0 [] := by
  rcases h.2 with ⟨h1, -⟩ | ⟨g', cap', cur, h1, h2, h3, h4, h5, h6, h7⟩
  · cases h1
  · simp at h1
    obtain ⟨rfl, rfl⟩ := h1
    exact ⟨by simp, .inr ⟨_, _, cur, rfl, h2, h3, Nat.zero_le _, h5, h6, by simp⟩⟩
theorem own_nil (w : World) (base : Nat) (e : TypeId) (size : Nat) : w.ownsRow base e size (.slice none 0 0) 0 [] := ⟨by simp, .inl ⟨rfl, rfl⟩⟩
theorem IntsIn.tail {w : World} {b off n c : Nat} {x : Int} {xs : List Int} (h : IntsIn w (.slice (some ⟨b, off, none⟩) n c) (x :: xs)) (c' : Nat) : IntsIn w (.slice (some ⟨b, off + 1, none⟩) xs.length c') xs := by
  obtain ⟨⟨a, c2, hv, h⟩, -⟩ := h
  simp at hv
  obtain ⟨rfl, rfl, rfl⟩ := hv
  rcases h with h | ⟨b', off', hb, h1, h2⟩
  · cases h
  · simp at hb
    obtain ⟨rfl, rfl⟩ := hb
    refine ⟨⟨_, c', rfl, .inr ⟨b, off + 1, rfl, h1, fun j hj => ?_⟩⟩, _, c', rfl, trivial⟩
    have := h2 (j + 1) (by simpa using hj)
    rw [show off + 1 + j = off + (j + 1) by omega, this]
    simp
theorem IntsIn.none (w : World) (a : Option Addr) (c : Nat) : IntsIn w (.slice a 0 c) [] := ⟨⟨a, c, rfl, .inl rfl⟩, a, c, rfl, trivial⟩
theorem own_form {w : World} {base : Nat} {e : TypeId} {v : Value} {n size : Nat} {xs : List Value} (h : w.ownsRow base e size v n xs) : ∃ a c, v = .slice a n c := by
  rcases own_cells2 h with ⟨h1, h2, -⟩ | ⟨g, cc, h1, -⟩
  · exact ⟨none, 0, by rw [h1, h2]⟩
  · exact ⟨_, cc, h1⟩
theorem own_form3 {w : World} {base : Nat} {e : TypeId} {v : Value} {n size : Nat} {xs : List Value} (h : w.ownsRow base e size v n xs) : ∃ a m c, v = .slice a m c := by
  obtain ⟨a, c, h⟩ := own_form h
  exact ⟨a, n, c, h⟩

end Go.Proofs.Ytikliofkplbdpaa

namespace Go.Proofs.Ytikliofkplbdpaa
open Go.ChangeShapes Go.WideShapes Go.ChangeAt Go.RowKit
set_option linter.unusedVariables false

def stGo (xs : List Int) (n : Int) : Nat → Int → List Int → List Int
  | 0, _, _ => []
  | f + 1, i, out => if i = 0 then out else if (1 ≤ i ∧ i ≤ n) ∧ ¬ (i - 1) ∈ out then stGo xs n f (xs.getD i.toNat 0) (out ++ [i - 1]) else []
def stItems (n : Int) (xs : List Int) : List Int :=
  if szB n = true ∧ (xs.length : Int) = 1 + n then (if unB (xs.getD 0 0) = true then stGo xs n (n.toNat + 1) (unI (xs.getD 0 0)) [] else []) else []
theorem stGo_end (xs : List Int) (n : Int) (f : Nat) (out : List Int) : stGo xs n (f + 1) 0 out = out := by rw [stGo, if_pos rfl]
theorem stGo_step (xs : List Int) (n : Int) (f : Nat) (i : Int) (out : List Int) (h0 : i ≠ 0) (h : (1 ≤ i ∧ i ≤ n) ∧ ¬ (i - 1) ∈ out) : stGo xs n (f + 1) i out = stGo xs n f (xs.getD i.toNat 0) (out ++ [i - 1]) := by rw [stGo, if_neg h0, if_pos h]
theorem stGo_bad (xs : List Int) (n : Int) (f : Nat) (i : Int) (out : List Int) (h0 : i ≠ 0) (h : ¬ ((1 ≤ i ∧ i ≤ n) ∧ ¬ (i - 1) ∈ out)) : stGo xs n (f + 1) i out = [] := by rw [stGo, if_neg h0, if_neg h]
theorem stGo_len (xs : List Int) (n : Int) (f : Nat) : ∀ (i : Int) (out : List Int), (stGo xs n f i out).length ≤ out.length + f := by
  induction f with
  | zero => intro i out; simp [stGo]
  | succ f ih =>
    intro i out
    by_cases h0 : i = 0
    · subst h0; rw [stGo_end]; omega
    · by_cases h : (1 ≤ i ∧ i ≤ n) ∧ ¬ (i - 1) ∈ out
      · rw [stGo_step xs n f i out h0 h]
        have := ih (xs.getD i.toNat 0) (out ++ [i - 1])
        simp at this ⊢
        omega
      · rw [stGo_bad xs n f i out h0 h]; simp
theorem stItems_len (n : Int) (xs : List Int) : (stItems n xs).length ≤ 17 := by
  unfold stItems
  by_cases h : szB n = true ∧ (xs.length : Int) = 1 + n
  · rw [if_pos h]
    have hb : 1 ≤ n ∧ n ≤ 16 := of_decide_eq_true h.1
    split
    · have := stGo_len xs n (n.toNat + 1) (unI (xs.getD 0 0)) []
      simp at this ⊢
      omega
    · simp
  · rw [if_neg h]; simp
theorem few (n : Nat) : ∀ l : List Int, l.Nodup → (∀ x ∈ l, 0 ≤ x ∧ x < (n : Int)) → l.length ≤ n := by
  induction n with
  | zero =>
    intro l _ h
    cases l with
    | nil => simp
    | cons a t => have := h a (by simp); omega
  | succ n ih =>
    intro l hd h
    by_cases hm : (n : Int) ∈ l
    · have h1 := ih (l.erase (n : Int)) (hd.erase _) (fun x hx => by
        have hx' := (List.Nodup.mem_erase_iff hd).1 hx
        have := h x hx'.2
        omega)
      have h2 := List.length_erase_of_mem hm
      omega
    · have := ih l hd (fun x hx => by
        have h1 := h x hx
        have : x ≠ (n : Int) := fun e => hm (e ▸ hx)
        omega)
      omega
def hasN (xs : List Int) (y : Int) : Bool := decide (y ∈ xs)
def sliceLen (v : Value) : Nat := match v with | .slice _ n _ => n | _ => 0

end Go.Proofs.Ytikliofkplbdpaa

namespace Go.Proofs.Ytikliofkplbdpaa
open Go.ChangeShapes Go.WideShapes Go.ChangeAt Go.RowKit
set_option linter.unusedVariables false

def inB (x lo hi : Int) : Bool := decide (lo ≤ x ∧ x ≤ hi)

end Go.Proofs.Ytikliofkplbdpaa

namespace Go.Proofs.Ytikliofkplbdpaa
open Go.ChangeShapes Go.WideShapes Go.ChangeAt Go.RowKit
set_option linter.unusedVariables false

theorem spec_has_zero (a : Option Addr) (c : Nat) (y : Int) (w : World) :
    Calls Try.prog 33 #[.slice a 0 c, .int .i64 y] w fun e w' => e = .returned (.bool false) ∧ w' = w := by
  go_enter Try.func33, Try.ntmps33
  go_wp2
  go_loop [9] (fun i => i = .int .i64 0) (fun _ => 0)
  case atStart => rfl
  case round =>
    subst hrel
    go_wp2
    go_ret
    exact ⟨rfl, rfl⟩
theorem take_hit {xs : List Int} {y : Int} {k : Nat} (hk : k < xs.length) (h : xs[k] = y) : hasN xs y = true := decide_eq_true (h ▸ List.getElem_mem hk)
theorem take_end {xs : List Int} {y : Int} {k : Nat} (hk : ¬ k < xs.length) (h : ¬ y ∈ xs.take k) : hasN xs y = false := by
  rw [List.take_of_length_le (by omega)] at h
  exact decide_eq_false h
theorem take_miss {xs : List Int} {y : Int} {k : Nat} (hk : k < xs.length) (h : ¬ xs[k] = y) (h2 : ¬ y ∈ xs.take k) : ¬ y ∈ xs.take (k + 1) := by
  rw [List.take_succ_eq_append_getElem hk]
  simp only [List.mem_append, List.mem_singleton]
  rintro (h3 | h3)
  · exact h2 h3
  · exact h h3.symm
set_option maxHeartbeats 400000 in
set_option maxRecDepth 100000 in
theorem spec_has_some (g c : Nat) (xs : List Int) (y : Int) (w : World) (hn : xs.length ≤ 4194304) (hA : ∀ j (hj : j < xs.length), w.cell? ⟨g, j, none⟩ = some (.int .i64 xs[j])) :
    Calls Try.prog 33 #[.slice (some ⟨g, 0, none⟩) xs.length c, .int .i64 y] w fun e w' => e = .returned (.bool (hasN xs y)) ∧ w' = w := by
  have HA := hidIt hA
  clear hA
  go_enter Try.func33, Try.ntmps33
  go_wp2
  go_loop [6, 9] (fun _ i => ∃ k : Nat, k ≤ xs.length ∧ i = .int .i64 k ∧ Hid (¬ y ∈ xs.take k)) (fun _ i => xs.length - (intOf i).toNat)
  case atStart => exact ⟨0, Nat.zero_le _, rfl, by show ¬ y ∈ xs.take 0; simp⟩
  case round =>
    obtain ⟨k, hk, rfl, HT⟩ := hrel
    by_cases hlt : k < xs.length
    · have cA := HA.out k hlt
      have hlt' : (k : Int) < (xs.length : Int) := by omega
      obtain ⟨x, hx⟩ : ∃ x, xs[k] = x := ⟨_, rfl⟩
      rw [hx] at cA
      have HX := hidIt hx
      clear hx
      by_cases he : x = y
      · have HE := hidIt he
        have hb : (x == y) = true := by simpa using he
        clear he
        go_wp2
        go_ret
        exact ⟨ret_boolx (take_hit hlt (HX.out.trans HE.out)).symm, rfl⟩
      · have HE := hidIt he
        have hb : (x == y) = false := by simpa using he
        clear he
        go_wp2
        go_round
        case rel => exact ⟨k + 1, by omega, by go_num, take_miss hlt (by rw [HX.out]; exact HE.out) HT.out⟩
        case measure => simp [intOf]; omega
    · go_wp2
      go_ret
      exact ⟨ret_boolx (take_end hlt HT.out).symm, rfl⟩
theorem spec_has (lo hi : Nat) (v : Value) (xs : List Int) (y : Int) (w : World) (hn : xs.length ≤ 4194304) (r : Row w lo hi v (ints xs)) :
    Calls Try.prog 33 #[v, .int .i64 y] w fun e w' => e = .returned (.bool (hasN xs y)) ∧ w' = w := by
  by_cases h0 : 0 < xs.length
  · obtain ⟨g, c, rfl, -, -, g3, -⟩ := r.ofSome h0
    exact spec_has_some g c xs y w hn g3
  · obtain rfl : xs = [] := List.length_eq_zero_iff.1 (by omega)
    obtain ⟨a, c, rfl⟩ := r.form
    exact spec_has_zero a c y w

end Go.Proofs.Ytikliofkplbdpaa

namespace Go.Proofs.Ytikliofkplbdpaa
open Go.ChangeShapes Go.WideShapes Go.ChangeAt Go.RowKit
set_option linter.unusedVariables false

theorem ints_of_owns {w w' : World} {base : Nat} {e : TypeId} {v : Value} {n : Nat} {xs : List Int} (h : w'.ownsRow base e 1 v n (ints xs)) (hb : w.heap.size ≤ base) (hw : Below w.heap.size w w') : IntsNew w w' v xs := by
  rcases own_cells h with ⟨rfl, hn, hx⟩ | ⟨g, cap, rfl, h1, h2, h3, h4, h5, h6, h7⟩
  · have : xs = [] := by simpa using hx
    subst this
    exact ⟨[], ⟨none, 0, rfl, trivial, .inl ⟨rfl, rfl⟩⟩, List.nodup_nil, by simp, hw⟩
  · rw [ints_len] at h5
    refine ⟨[g], ⟨_, cap, by rw [h5], trivial, .inr ⟨g, rfl, rfl, h2, fun j hj => ?_, h7⟩⟩, by simp, by simp; omega, hw⟩
    rw [h6 j (by simpa using hj)]
    simp

end Go.Proofs.Ytikliofkplbdpaa

namespace Go.Proofs.Ytikliofkplbdpaa
open Go.ChangeShapes Go.WideShapes Go.ChangeAt Go.RowKit
set_option linter.unusedVariables false

theorem bel_al {W0 W : World} (h : Below W0.heap.size W0 W) (o : Obj) : Below W0.heap.size W0 (W.alloc o) := h.alloc h.size o
theorem bel_call {W0 W Y : World} (h : Below W0.heap.size W0 W) (k : Below W.heap.size W Y) : Below W0.heap.size W0 Y := h.trans (k.mono h.size)
theorem bel_two {w W0 W : World} (h : Below w.heap.size w W0) (k : Below W0.heap.size W0 W) : Below w.heap.size w W := h.trans (k.mono h.size)
theorem bel_grown {W0 W Y : World} {q : Option Nat} (h : Below W0.heap.size W0 W) (g : W.grownBy Y q) (hq : ∀ j, q = some j → W0.heap.size ≤ j) : Below W0.heap.size W0 Y := h.grown g h.size hq
theorem own_new {W : World} {lo g : Nat} {e : TypeId} {size : Nat} (hg : g = W.heap.size) (hl : lo ≤ g) : (W.alloc (.cells #[] e)).ownsRow lo e size (.slice (some ⟨g, 0, none⟩) 0 0) 0 [] := own_empty (at_new hg) hl
theorem own_new_drew {W : World} {lo g : Nat} {e : TypeId} {size : Nat} (hg : g = W.heap.size) (hl : lo ≤ g) : (W.alloc (.cells #[] e)).drew.ownsRow lo e size (.slice (some ⟨g, 0, none⟩) 0 0) 0 [] := own_empty (at_drew (at_new hg)) hl
theorem step_ints {w : World} {ops : Array Oper} {o : Oper} {a : Act} {K : Act → World → Prop} {Q : Exit → Act → World → Prop} {E : Prop} (hgd : o.guard = none) (s x : Operand)
    (ho : o.op = .call { callee := .builtin .append, args := #[s, x], argTypes := #[22, 22] }) (base : Nat) (v : Value) (xs : List Int) (hs : a.eval s = v) (hown : w.ownsRow base 3 1 v xs.length (ints xs))
    (y : Value) (ys : List Int) (hy : a.eval x = y) (hx : IntsIn w y ys) (h63 : xs.length + ys.length ≤ 16777216) (hbase : base ≤ w.heap.size)
    (h : ∀ v' w', w'.ownsRow base 3 1 v' (xs ++ ys).length (ints (xs ++ ys)) → w.grownBy w' v.ownBlock → (v'.ownBlock = v.ownBlock ∨ v'.ownBlock = some w.heap.size) → K (a.put o.dst v') w') : if Region.wanted o (yielded ops a.tmps) = true then Oper.wp Try.prog o a w K Q else E := by
  obtain ⟨i0, hi0, hz0, hz1, hz2⟩ := info_parts info3
  refine step_append_src w hgd s x 22 ho base 3 i0 (.int .i64 0) 1 8 Try.underlying22 hi0 hz0 hz1 hz2 rfl (by decide) v xs.length (ints xs) hs hown y ys.length (ints ys) hy (src_ints hx) (by unfold maxLen; omega) (by omega) hbase ?_
  intro v' w' h1 h2 h3
  exact h v' w' (by simpa using h1) h2 h3
theorem nodes_take (L : List (Int × Int)) (k : Nat) (hk : k < L.length) : (nodesL L).take (k + 1) = (nodesL L).take k ++ [(goneAt L k).1] := by
  unfold nodesL
  rw [List.take_succ_eq_append_getElem (by simpa using hk), List.getElem_map, goneAt_eq L k hk]
theorem nodes_all (L : List (Int × Int)) : (nodesL L).take L.length = nodesL L := List.take_of_length_le (by simp [nodesL])
theorem own_grow2 {w w' : World} {base : Nat} {e : TypeId} {size n : Nat} {v : Value} {xs : List Value} (h : w.ownsRow base e size v n xs) (hb : Below w.heap.size w w') : w'.ownsRow base e size v n xs := own_below h hb
set_option maxHeartbeats 1600000 in
set_option maxRecDepth 100000 in
theorem spec_all (w : World) (f p l v : Value) (P : Pl) (hf : PlFit P) (h : PlIn w f p l v P) :
    Calls Try.prog 31 #[.agg #[f, .int .i64 P.a, p, l, v]] w fun e w' => ∃ v', e = .returned v' ∧ w'.ownsRow (w.heap.size + 1) 3 1 v' (allOf P).length (ints (allOf P)) ∧ Below w.heap.size w w' := by
  obtain ⟨i0, hi0, hz0, hz1, hz2⟩ := info_parts info3
  have H := hidIt h
  have HF := hidIt hf
  obtain ⟨fa, fc, pa, pc, la, lc, va, vc, rfl, rfl, rfl, rfl⟩ := h.form
  clear h
  unfold PlFit at hf
  go_enter Try.func31, Try.ntmps31
  go_wp2_with fail
  generalize hW : World.alloc w _ = W0
  have X := Bx.new w #[.slice fa P.fr.length fc, .int .i64 P.a, .slice pa P.ps.length pc, .slice la P.L.length lc, .slice va P.lv.length vc] 33
  have bW : Below w.heap.size w W0 := by rw [← hW]; exact (Below.refl _ _).alloc (Nat.le_refl _) _
  have zW : W0.heap.size = w.heap.size + 1 := by rw [← hW]; simp
  rw [hW] at X
  clear hW
  have HX := hidIt X
  have BW := hidIt bW
  clear X bW
  have q0 := HX.out.2.1 0
  have q4 := HX.out.2.1 4
  simp at q0 q4
  have SO := hidIt (fun W (hb : Below W0.heap.size W0 W) => (⟨hb, below_cell hb HX.out.1 q0, below_cell hb HX.out.1 q4⟩ : Below W0.heap.size W0 W ∧ W.cell? ⟨w.heap.size, 0, none⟩ = some (.slice fa P.fr.length fc) ∧ W.cell? ⟨w.heap.size, 4, none⟩ = some (.slice va P.lv.length vc)))
  have hS := SO.out W0 (Below.refl _ _)
  clear q0 q4
  go_cut [3] from 6 to 12 (fun x3 wc => wc.ownsRow (w.heap.size + 1) 3 1 x3 (P.fr.length + P.lv.length) (ints (P.fr ++ P.lv)) ∧ Below W0.heap.size W0 wc)
  case first =>
    go_region_held3 (fun W => Below W0.heap.size W0 W ∧ W.cell? ⟨w.heap.size, 0, none⟩ = some (.slice fa P.fr.length fc) ∧ W.cell? ⟨w.heap.size, 4, none⟩ = some (.slice va P.lv.length vc))
      (first | exact SO.out _ (by assumption) | exact SO.out _ (Below.drew (And.left (by assumption))) | exact SO.out _ (bel_al (And.left (by assumption)) _))
      (first
      | (refine step_ints rfl (.tmp 6) (.tmp 8) rfl (w.heap.size + 1) (.slice (some ⟨w.heap.size + 1, 0, none⟩) 0 0) [] rfl ?_ _ P.fr rfl ?_ (by simp; omega) ?_ ?_; (focus (first | exact own_new_drew zW.symm (Nat.le_refl _) | exact own_new zW.symm (Nat.le_refl _))); (focus (exact H.out.fr.below (bel_two BW.out (And.left (by assumption))))); (focus (exact Nat.le_trans (Nat.le_of_eq zW.symm) (Below.size (And.left (by assumption))))); intro v1 w1 ho1 hg1 _; have hb1 : Below W0.heap.size W0 w1 := bel_grown (And.left (by assumption)) hg1 (fun q hq => by simp [Value.ownBlock] at hq; omega))
      | (refine step_ints rfl (.tmp 9) (.tmp 11) rfl (w.heap.size + 1) _ ([] ++ P.fr) rfl ?_ _ P.lv rfl ?_ (by simp; omega) ?_ ?_; (focus (exact ho1)); (focus (exact H.out.lv.below (bel_two BW.out (And.left (by assumption))))); (focus (exact Nat.le_trans (Nat.le_of_eq zW.symm) (Below.size (And.left (by assumption))))); intro v2 w2 ho2 hg2 _; have hb2 : Below W0.heap.size W0 w2 := bel_grown (And.left (by assumption)) hg2 (fun q hq => by have := (ho1.lt q hq).1; omega)))
    all_goals
      go_wp2_with fail
      go_meet
      exact ⟨by simpa using ho2, hb2⟩
  case rest =>
  obtain ⟨ho, hb⟩ := hcut
  rename World => w1
  have HO := hidIt ho
  have BB := hidIt (bel_two BW.out hb)
  have zz := hb.size
  have k3 := (HX.out.below hb).2.1 3
  have hl1 := (HX.out.below hb).1
  simp at k3
  clear ho hb SO hS
  go_wp2_with fail
  go_loopg [3, 17] P.L.length (fun gk v i wr => ∃ k : Nat, k ≤ P.L.length ∧ gk = P.L.length - k ∧ i = .int .i64 k ∧ wr.ownsRow (w.heap.size + 1) 3 1 v (P.fr.length + P.lv.length + k) (ints (P.fr ++ P.lv ++ (nodesL P.L).take k)) ∧ w.heap.size + 1 ≤ wr.heap.size ∧ Below w.heap.size w wr)
  case atStart => exact ⟨0, Nat.zero_le _, rfl, rfl, by simpa using HO.out, by omega, BB.out⟩
  case round =>
    rename World => wr
    obtain ⟨k, hk, hgk, rfl, hown, hz, hbw⟩ := hrel
    have HG := hidIt hgk
    clear hgk
    by_cases hlt : k < P.L.length
    · have hlt' : (k : Int) < (P.L.length : Int) := by omega
      obtain ⟨la', lc', hv, -, hp⟩ := H.out.ag.limbo.below hbw
      simp at hv
      obtain ⟨rfl, rfl⟩ := hv
      rcases hp with hp | ⟨b, off, rfl, hb, hp⟩
      · rw [hp] at hlt; simp at hlt
      have c1 := (PIn.at hp k hlt).1
      have c2 := (PIn.at hp k hlt).2
      have HS := hidIt (nodes_take P.L k hlt)
      have HO := hidIt (Row.of_owns hown)
      obtain ⟨av, cv, hv⟩ := own_form hown
      subst hv
      have zz2 := hbw.size
      clear hp
      generalize (goneAt P.L k).2 = y at c2
      generalize (goneAt P.L k).1 = q at c1 HS
      go_wp2_with (at_builtin; refine wpList_append_own _ rfl _ _ 22 rfl (w.heap.size + 1) 3 i0 (.int .i64 0) 1 8 Try.underlying22 hi0 hz0 hz1 hz2 rfl (by decide) _ _ _ rfl ((hown.alloc _).alloc _) ⟨wr.heap.size + 1, 0, none⟩ 1 1 [.int .i64 q] rfl rfl ?c1 ?c2 ?c3 ?c4 ?c5 ?_)
      case c1 => have := cell_one_new (wr.alloc (.cells #[.int .i64 q, .int .i64 y] 65)) (.int .i64 q) 3; simpa using this
      case c2 => intro u hu; simp at hu; subst hu; rfl
      case c3 => unfold maxLen; omega
      case c4 => omega
      case c5 => simp; omega
      intro v' w1' hown' hgrow _
      have hb1 : Below w.heap.size w w1' := ((hbw.alloc hbw.size _).alloc (by simp; omega) _).grown hgrow (by simp; omega) (fun j hj => by have := (hown.lt j hj).1; omega)
      have hzz := hgrow.size
      simp at hzz
      clear hgrow hown
      go_wp2
      go_roundg (P.L.length - (k + 1))
      case measure => rw [HG.out]; omega
      case rel =>
        refine ⟨k + 1, by omega, rfl, by go_num, ?_, by omega, hb1⟩
        rw [HS.out]
        simpa [Nat.add_assoc] using hown'
    · obtain rfl : k = P.L.length := by omega
      have e1 : (ints (P.fr ++ P.lv ++ (nodesL P.L).take P.L.length)) = ints (allOf P) := by rw [nodes_all]; simp [allOf]
      have e2 : P.fr.length + P.lv.length + P.L.length = (allOf P).length := (allOf_len P).symm
      rw [e1, e2] at hown
      have HN := hidIt hown
      obtain ⟨av, cv, hv⟩ := own_form hown
      subst hv
      clear hown
      go_wp2
      go_ret
      exact ⟨_, rfl, HN.out, hbw⟩

end Go.Proofs.Ytikliofkplbdpaa

namespace Go.Proofs.Ytikliofkplbdpaa
open Go.ChangeShapes Go.WideShapes Go.ChangeAt Go.RowKit
set_option linter.unusedVariables false

theorem own_taken {w : World} {base g c k : Nat} {xs : List Int} (h : w.ownsRow base 3 1 (.slice (some ⟨g, 0, none⟩) xs.length c) xs.length (ints xs)) : ∀ j (hj : j < (xs.take k).length), w.cell? ⟨g, j, none⟩ = some (.int .i64 (xs.take k)[j]) := by
  intro j hj
  simp at hj
  rcases own_cells2 h with ⟨h1, -⟩ | ⟨g', c', hv, -, -, -, -, -, hc, -⟩
  · cases h1
  · simp at hv
    obtain ⟨rfl, rfl⟩ := hv
    have := hc j (by simp; omega)
    rw [this]
    simp
set_option maxHeartbeats 1600000 in
set_option maxRecDepth 100000 in
theorem spec_poolok (w : World) (f p l v : Value) (P : Pl) (hf : PlFit P) (h : PlIn w f p l v P) :
    Calls Try.prog 13 #[.agg #[f, .int .i64 P.a, p, l, v]] w fun e w' => e = .returned (.bool (plOkB P)) ∧ Below w.heap.size w w' := by
  have H := hidIt h
  have HF := hidIt hf
  obtain ⟨fa, fc, pa, pc, la, lc, va, vc, rfl, rfl, rfl, rfl⟩ := h.form
  clear h
  unfold PlFit at hf
  go_enter Try.func13, Try.ntmps13
  go_wp2_with fail
  generalize hW : World.alloc w _ = W0
  have X := Bx.new w #[.slice fa P.fr.length fc, .int .i64 P.a, .slice pa P.ps.length pc, .slice la P.L.length lc, .slice va P.lv.length vc] 33
  have bW : Below w.heap.size w W0 := by rw [← hW]; exact (Below.refl _ _).alloc (Nat.le_refl _) _
  have zW : W0.heap.size = w.heap.size + 1 := by rw [← hW]; simp
  rw [hW] at X
  clear hW
  have HX0 := hidIt X
  have BW := hidIt bW
  clear X bW
  refine (spec_all W0 _ _ _ _ P HF.out (H.out.below BW.out)).mono ?_
  rintro e w1 ⟨v1, rfl, o1, b1⟩
  have HO := hidIt o1
  obtain ⟨oa, oc, hv⟩ := own_form o1
  subst hv
  clear o1
  have HX := hidIt (HX0.out.below b1)
  have B1 := hidIt (bel_two BW.out b1)
  have z1 := b1.size
  clear b1 HX0
  have k1 := HX.out.2.1 1
  have k2 := HX.out.2.1 2
  have k3 := HX.out.2.1 3
  simp at k1 k2 k3
  go_wp2_with fail
  clear k1 k2 k3
  refine (spec_agesok w1 P.a _ _ P.ps P.L (H.out.below B1.out).ag).mono ?_
  rintro e w2 ⟨rfl, b2⟩
  have HX2 := hidIt (HX.out.below b2)
  have B2 := hidIt (bel_two B1.out b2)
  have z2 := b2.size
  have HO2 := hidIt (own_grow2 HO.out b2)
  clear b2 HX HO
  cases hB : okB P.a P.ps P.L with
  | false =>
    have HE := hidIt (plOk_no1 (P := P) hB)
    go_wp2
    go_ret
    exact ⟨ret_boolx HE.out.symm, B2.out⟩
  | true =>
    by_cases h100 : (allOf P).length ≤ 100
    case neg =>
      have HE := hidIt (plOk_no2 (P := P) h100)
      have h100' : (100 : Int) < ((allOf P).length : Int) := by omega
      clear h100
      go_wp2
      go_ret
      exact ⟨ret_boolx HE.out.symm, B2.out⟩
    have HB := hidIt hB
    have h100' : ¬ (100 : Int) < ((allOf P).length : Int) := by omega
    have hk4 := HX2.out.2.1 4
    simp at hk4
    have hzl := HX2.out.1
    go_wp2_with fail
    go_loopw [4] (fun i wr => ∃ k : Nat, k ≤ P.lv.length ∧ i = .int .i64 ((k : Int) + 1) ∧ Hid (∀ j, 0 < j → j < k + 1 → ∀ hj : j < P.lv.length, P.lv[j - 1]'(by omega) < P.lv[j]) ∧ Below w2.heap.size w2 wr) (fun i _ => P.lv.length + 1 - (intOf i).toNat)
    case atStart => exact ⟨0, Nat.zero_le _, rfl, hidIt (fun j h1 h2 => by omega), Below.refl _ _⟩
    case round =>
      rename World => wr
      obtain ⟨k, hk, rfl, HR, hbw⟩ := hrel
      have hzz := hbw.size
      have hl0 : w.heap.size < wr.heap.size := by omega
      have hk4' := below_cell hbw hzl hk4
      by_cases hlt : k + 1 < P.lv.length
      · have hlt' : (k : Int) + 1 < (P.lv.length : Int) := by omega
        obtain ⟨⟨va', vc', hv, hp⟩, -⟩ := H.out.lv.below (bel_two B2.out hbw)
        simp at hv
        obtain ⟨rfl, rfl⟩ := hv
        rcases hp with hp | ⟨b, off, rfl, hb, hp⟩
        · rw [hp] at hlt; simp at hlt
        have cA := hp (k + 1) hlt
        have cB := hp k (by omega)
        have HXY := hidIt (fun (e : P.lv[k] < P.lv[k + 1]) => (fun j h1 h2 hj => by
          by_cases hj2 : j = k + 1
          · subst hj2; exact e
          · exact HR.out j h1 (by omega) hj : ∀ j, 0 < j → j < k + 1 + 1 → ∀ hj : j < P.lv.length, P.lv[j - 1]'(by omega) < P.lv[j]))
        have HXN := hidIt (fun (e : ¬ P.lv[k] < P.lv[k + 1]) => riseB_no (xs := P.lv) (j := k + 1) (by omega) hlt e)
        clear hp HR
        generalize P.lv[k] = x at cB HXY HXN
        generalize P.lv[k + 1] = y at cA HXY HXN
        have hw1 : IntKind.i64.wrap (k : Int) = (k : Int) := by unfold IntKind.wrap; simp [IntKind.bits, IntKind.signed]; omega
        by_cases hxy : x < y
        · have HN := hidIt (HXY.out hxy)
          have hxy' : ¬ y ≤ x := by omega
          clear HXY HXN hxy
          go_wp2
          go_quiet (fail)
          go_wp2
          go_roundw
          case rel => exact ⟨k + 1, by omega, by go_num, hidIt HN.out, below_drewN hbw _⟩
          case measure => simp [intOf]; omega
        · have HN := hidIt (plOk_no3 (P := P) (HXN.out hxy))
          have hxy' : y ≤ x := by omega
          clear HXY HXN hxy
          go_wp2
          go_quiet (fail)
          go_wp2
          go_ret
          exact ⟨ret_boolx HN.out.symm, below_drewN (bel_two B2.out hbw) _⟩
      · have HRI := hidIt (riseB_yes (xs := P.lv) (fun j h1 hj => HR.out j h1 (by omega) hj))
        have HNo := hidIt (fun (j : Nat) (hj : j < (allOf P).length) h => plOk_no4 (P := P) (placesB_no hj h))
        have HYes := hidIt (fun h => plOk_yes (P := P) HB.out h100 HRI.out (placesB_yes h))
        have HO3 := hidIt (own_grow2 HO2.out hbw)
        have B3 := hidIt (bel_two B2.out hbw)
        clear HR HRI HO2 B2 HX2 hk4 h100'
        have hxl : (allOf P).length ≤ 4194304 := by omega
        generalize allOf P = xs at HO3 HNo HYes h100 hxl ⊢
        have hlt2 : ¬ ((k : Int) + 1 < (P.lv.length : Int)) := by omega
        go_wp2
        go_loopw [39] (fun i wq => ∃ k : Nat, k ≤ xs.length ∧ i = .int .i64 k ∧ Hid (∀ j (hj : j < xs.length), j < k → (0 ≤ xs[j] ∧ xs[j] < (xs.length : Int) ∧ ¬ xs[j] ∈ xs.take j)) ∧ Below wr.heap.size wr wq) (fun i _ => xs.length - (intOf i).toNat)
        case atStart => exact ⟨0, Nat.zero_le _, rfl, hidIt (fun j _ h2 => by omega), Below.refl _ _⟩
        case round =>
          rename World => wq
          obtain ⟨q, hq, rfl, HR, hbq⟩ := hrel
          by_cases hlq : q < xs.length
          · have hlq' : (q : Int) < (xs.length : Int) := by omega
            have HO4 := hidIt (own_grow2 HO3.out hbq)
            rcases own_cells2 HO4.out with ⟨-, h0, -⟩ | ⟨g, cap, hv, -, -, hcap, -, -, hcl, -⟩
            · omega
            simp at hv
            obtain ⟨rfl, rfl⟩ := hv
            have c1 := hcl q (by simpa using hlq)
            rw [List.getElem_map] at c1
            have HNX := hidIt (HNo.out q hlq)
            have HYX := hidIt (fun (e : 0 ≤ xs[q] ∧ xs[q] < (xs.length : Int) ∧ ¬ xs[q] ∈ xs.take q) => (fun j hj hjq => by
              by_cases hj2 : j = q
              · subst hj2; exact e
              · exact HR.out j hj (by omega) : ∀ j (hj : j < xs.length), j < q + 1 → (0 ≤ xs[j] ∧ xs[j] < (xs.length : Int) ∧ ¬ xs[j] ∈ xs.take j)))
            clear HR
            generalize xs[q] = x at c1 HNX HYX
            have hqc : (q : Int) ≤ (oc : Int) := by omega
            clear hcl
            by_cases h0 : x < 0
            · have HE := hidIt (HNX.out (fun h => by omega))
              clear HNX HYX
              go_wp2
              go_ret
              exact ⟨ret_boolx HE.out.symm, bel_two B3.out hbq⟩
            · by_cases h1 : (xs.length : Int) ≤ x
              · have HE := hidIt (HNX.out (fun h => by omega))
                clear HNX HYX
                go_wp2
                go_ret
                exact ⟨ret_boolx HE.out.symm, bel_two B3.out hbq⟩
              · have hhas := spec_has_some g oc (xs.take q) x wq (by simp; omega) (own_taken HO4.out)
                rw [show (xs.take q).length = q by simp; omega] at hhas
                have HH := hidIt hhas
                clear hhas HO4
                have h1' : x < (xs.length : Int) := by omega
                have h0' : 0 ≤ x := by omega
                clear h0 h1
                by_cases hm : x ∈ xs.take q
                · have HE := hidIt (HNX.out (fun h => h.2.2 hm))
                  have hb1 : hasN (xs.take q) x = true := decide_eq_true hm
                  clear HNX HYX hm
                  go_wp2_with (go_at_call 33; refine HH.out.mono ?_; rintro e wq ⟨rfl, rfl⟩; rw [hb1])
                  go_ret
                  exact ⟨ret_boolx HE.out.symm, bel_two B3.out hbq⟩
                · have HE := hidIt (HYX.out ⟨h0', h1', hm⟩)
                  have hb1 : hasN (xs.take q) x = false := decide_eq_false hm
                  clear HNX HYX hm
                  go_wp2_with (go_at_call 33; refine HH.out.mono ?_; rintro e wq ⟨rfl, rfl⟩; rw [hb1])
                  go_roundw
                  case rel => exact ⟨q + 1, by omega, by go_num, hidIt HE.out, hbq⟩
                  case measure => simp [intOf]; omega
          · have HE := hidIt (HYes.out (fun j hj => HR.out j hj (by omega)))
            clear HR
            go_wp2
            go_ret
            exact ⟨ret_boolx HE.out.symm, bel_two B3.out hbq⟩

end Go.Proofs.Ytikliofkplbdpaa

namespace Go.Proofs.Ytikliofkplbdpaa
open Go.ChangeShapes Go.WideShapes Go.ChangeAt Go.RowKit
set_option linter.unusedVariables false

theorem putAll_step (U : List (Int × (Int × Int))) (g : Int → Option (Int × Int)) (k : Nat) (hk : k < U.length) : putAll (U.take (k + 1)) g = updF (putAll (U.take k) g) U[k].1 U[k].2 := by
  rw [List.take_succ_eq_append_getElem hk, putAll_snoc]
theorem putAll_full (U : List (Int × (Int × Int))) (g : Int → Option (Int × Int)) (k : Nat) (hk : k = U.length) : putAll (U.take k) g = putAll U g := by
  rw [List.take_of_length_le (by omega)]
def uFr (xs : List Int) : List (Int × (Int × Int)) := xs.map fun z => (z, (1, 0))
def uLv (xs : List Int) : List (Int × (Int × Int)) := xs.map fun z => (z, (2, 0))
def uLi (L : List (Int × Int)) : List (Int × (Int × Int)) := L.map fun q => (q.1, (3, q.2))
theorem uFr_len (xs : List Int) : (uFr xs).length = xs.length := by simp [uFr]
theorem uLv_len (xs : List Int) : (uLv xs).length = xs.length := by simp [uLv]
theorem uLi_len (xs : List (Int × Int)) : (uLi xs).length = xs.length := by simp [uLi]
theorem stF_eq (P : Pl) : stF P = putAll (uLi P.L) (putAll (uLv P.lv) (putAll (uFr P.fr) (fun _ => none))) := by
  show putAll (uFr P.fr ++ (uLv P.lv ++ uLi P.L)) _ = _
  rw [putAll_app, putAll_app]
set_option maxHeartbeats 1600000 in
set_option maxRecDepth 100000 in
theorem impl_standings (w : World) (f p l v : Value) (P : Pl) (hf : PlFit P) (hwf : PlWf P) (h : PlIn w f p l v P) :
    Calls Try.prog 21 #[.agg #[f, .int .i64 P.a, p, l, v]] w fun e w' => ∃ b, e = .returned (.map (some b)) ∧ MapF w' b (P.fr.length + P.lv.length + P.L.length) (stF P) ∧ w.heap.size ≤ b ∧ Below w.heap.size w w' := by
  have hmm := @run_makeMap Try.prog
  have H := hidIt h
  obtain ⟨fa, fc, pa, pc, la, lc, va, vc, rfl, rfl, rfl, rfl⟩ := h.form
  clear h
  obtain ⟨wf1, wf2, wf3⟩ := hwf
  have WF1 := hidIt wf1
  have WF2 := hidIt wf2
  have WF3 := hidIt wf3
  clear wf1 wf2 wf3
  unfold PlFit at hf
  go_enter Try.func21, Try.ntmps21
  go_wp2_with fail
  generalize hW : World.alloc w _ = W0
  have X := Bx.new w #[.slice fa P.fr.length fc, .int .i64 P.a, .slice pa P.ps.length pc, .slice la P.L.length lc, .slice va P.lv.length vc] 33
  have bW : Below w.heap.size w W0 := by rw [← hW]; exact (Below.refl _ _).alloc (Nat.le_refl _) _
  have zW : W0.heap.size = w.heap.size + 1 := by rw [← hW]; simp
  rw [hW] at X
  clear hW
  have HX := hidIt X
  have BW := hidIt bW
  have k0 := HX.out.2.1 0
  have k3 := HX.out.2.1 3
  have k4 := HX.out.2.1 4
  simp at k0 k3 k4
  have hl0 := HX.out.1
  clear X bW
  generalize hW1 : World.alloc W0 _ = W1
  have MM := hidIt (show MapF W1 (w.heap.size + 1) 0 (fun _ => none) from by rw [← hW1, ← zW]; exact MapF.made W0)
  have BW1 := hidIt (show Below W0.heap.size W0 W1 from by rw [← hW1]; exact (Below.refl _ _).alloc (Nat.le_refl _) _)
  clear hW1
  have z1 := BW1.out.size
  have k0' := below_cell BW1.out hl0 k0
  go_wp2_with fail
  go_loopw [14] (fun i wr => ∃ k : Nat, k ≤ P.fr.length ∧ i = .int .i64 k ∧ Hid (MapF wr (w.heap.size + 1) k (putAll ((uFr P.fr).take k) (fun _ => none))) ∧ Below W0.heap.size W0 wr) (fun i _ => P.fr.length - (intOf i).toNat)
  case atStart => exact ⟨0, Nat.zero_le _, rfl, MM, BW1.out⟩
  case round =>
    rename World => wr
    obtain ⟨k, hk, rfl, HM, hbw⟩ := hrel
    by_cases hlt : k < P.fr.length
    · have hlt' : (k : Int) < (P.fr.length : Int) := by omega
      obtain ⟨⟨fa', fc', hv, hp⟩, -⟩ := H.out.fr.below (bel_two BW.out hbw)
      simp at hv
      obtain ⟨rfl, rfl⟩ := hv
      rcases hp with hp | ⟨b, off, rfl, hb, hp⟩
      · rw [hp] at hlt; simp at hlt
      have cA := hp k hlt
      have HZ := hidIt (WF1.out _ (List.getElem_mem hlt))
      have HS := hidIt (show putAll ((uFr P.fr).take (k + 1)) (fun _ => none) = updF (putAll ((uFr P.fr).take k) (fun _ => none)) P.fr[k] (1, 0) from by rw [putAll_step _ _ k (by rw [uFr_len]; exact hlt)]; simp [uFr])
      clear hp
      generalize P.fr[k] = z at cA HZ HS
      go_wp2_with (first | (at_mapUpdate; refine wpList_put _ rfl rfl _ _ _ rfl (w.heap.size + 1) k _ rfl HM.out (by unfold maxLen; omega) z (1, 0) rfl rfl HZ.out ?_; intro w1 m1 g1) | go_in)
      have hb1 : Below W0.heap.size W0 w1 := bel_grown hbw g1 (fun j hj => by cases hj; omega)
      have M1 := hidIt m1
      clear m1 g1
      go_roundw
      case rel => exact ⟨k + 1, by omega, by go_num, hidIt (by rw [HS.out]; exact M1.out), hb1⟩
      case measure => simp [intOf]; omega
    · obtain rfl : k = P.fr.length := by omega
      have HM2 := hidIt (show MapF wr (w.heap.size + 1) P.fr.length (putAll (uFr P.fr) (fun _ => none)) from by rw [← putAll_full (uFr P.fr) (fun _ => none) P.fr.length (uFr_len _).symm]; exact HM.out)
      have HB2 := hidIt hbw
      have k4' := below_cell hbw hl0 k4
      clear HM MM k0'
      generalize hg1 : putAll (uFr P.fr) (fun _ => none) = G1 at HM2
      have HG1 := hidIt hg1
      clear hg1
      have hlw : w.heap.size < wr.heap.size := by have := hbw.size; omega
      go_wp2_with fail
      go_loopw [25] (fun i wq => ∃ k : Nat, k ≤ P.lv.length ∧ i = .int .i64 k ∧ Hid (MapF wq (w.heap.size + 1) (P.fr.length + k) (putAll ((uLv P.lv).take k) G1)) ∧ Below W0.heap.size W0 wq) (fun i _ => P.lv.length - (intOf i).toNat)
      case atStart => exact ⟨0, Nat.zero_le _, rfl, HM2, HB2.out⟩
      case round =>
        rename World => wq
        clear hbw
        obtain ⟨k, hk, rfl, HM, hbw⟩ := hrel
        by_cases hlt : k < P.lv.length
        · have hlt' : (k : Int) < (P.lv.length : Int) := by omega
          obtain ⟨⟨va', vc', hv, hp⟩, -⟩ := H.out.lv.below (bel_two BW.out hbw)
          simp at hv
          obtain ⟨rfl, rfl⟩ := hv
          rcases hp with hp | ⟨b, off, rfl, hb, hp⟩
          · rw [hp] at hlt; simp at hlt
          have cA := hp k hlt
          have HZ := hidIt (WF3.out _ (List.getElem_mem hlt))
          have HS := hidIt (show putAll ((uLv P.lv).take (k + 1)) G1 = updF (putAll ((uLv P.lv).take k) G1) P.lv[k] (2, 0) from by rw [putAll_step _ _ k (by rw [uLv_len]; exact hlt)]; simp [uLv])
          clear hp
          generalize P.lv[k] = z at cA HZ HS
          go_wp2_with (first | (at_mapUpdate; refine wpList_put _ rfl rfl _ _ _ rfl (w.heap.size + 1) (P.fr.length + k) _ rfl HM.out (by unfold maxLen; omega) z (2, 0) rfl rfl HZ.out ?_; intro w1 m1 g1) | go_in)
          have hb1 : Below W0.heap.size W0 w1 := bel_grown hbw g1 (fun j hj => by cases hj; omega)
          have M1 := hidIt m1
          clear m1 g1
          go_roundw
          case rel => exact ⟨k + 1, by omega, by go_num, hidIt (by rw [HS.out]; exact M1.out), hb1⟩
          case measure => simp [intOf]; omega
        · obtain rfl : k = P.lv.length := by omega
          have HM3 := hidIt (show MapF wq (w.heap.size + 1) (P.fr.length + P.lv.length) (putAll (uLv P.lv) G1) from by rw [← putAll_full (uLv P.lv) G1 P.lv.length (uLv_len _).symm]; exact HM.out)
          have HB3 := hidIt hbw
          have k3' := below_cell hbw hl0 k3
          clear HM HM2 k4'
          generalize hg2 : putAll (uLv P.lv) G1 = G2 at HM3
          have HG2 := hidIt hg2
          clear hg2
          have hlq : w.heap.size < wq.heap.size := by have := hbw.size; omega
          go_wp2_with fail
          go_loopw [37] (fun i wx => ∃ k : Nat, k ≤ P.L.length ∧ i = .int .i64 k ∧ Hid (MapF wx (w.heap.size + 1) (P.fr.length + P.lv.length + k) (putAll ((uLi P.L).take k) G2)) ∧ Below W0.heap.size W0 wx) (fun i _ => P.L.length - (intOf i).toNat)
          case atStart => exact ⟨0, Nat.zero_le _, rfl, HM3, HB3.out⟩
          case round =>
            rename World => wx
            clear hbw
            obtain ⟨k, hk, rfl, HM0, hbw⟩ := hrel
            by_cases hlt : k < P.L.length
            · have hlt' : (k : Int) < (P.L.length : Int) := by omega
              obtain ⟨la', lc', hv, -, hp⟩ := H.out.ag.limbo.below (bel_two BW.out hbw)
              simp at hv
              obtain ⟨rfl, rfl⟩ := hv
              rcases hp with hp | ⟨b, off, rfl, hb, hp⟩
              · rw [hp] at hlt; simp at hlt
              have cA := (hp k hlt).1
              have cB := (hp k hlt).2
              have HZ := hidIt (WF2.out _ (List.getElem_mem hlt))
              have HS := hidIt (show putAll ((uLi P.L).take (k + 1)) G2 = updF (putAll ((uLi P.L).take k) G2) P.L[k].1 (3, P.L[k].2) from by rw [putAll_step _ _ k (by rw [uLi_len]; exact hlt)]; simp [uLi])
              clear hp
              generalize P.L[k].1 = z at cA HZ HS
              generalize P.L[k].2 = y at cB HS
              have HM := hidIt (HM0.out.alloc (.cells #[.int .i64 z, .int .i64 y] 65))
              have hbx := hidIt (bel_al hbw (.cells #[.int .i64 z, .int .i64 y] 65))
              clear HM0
              go_wp2_with (first | (at_mapUpdate; refine wpList_put _ rfl rfl _ _ _ rfl (w.heap.size + 1) (P.fr.length + P.lv.length + k) _ rfl HM.out (by unfold maxLen; omega) z (3, y) rfl rfl HZ.out ?_; intro w1 m1 g1) | go_in)
              have hb1 : Below W0.heap.size W0 w1 := bel_grown hbx.out g1 (fun j hj => by cases hj; omega)
              have M1 := hidIt m1
              clear m1 g1
              go_roundw
              case rel => exact ⟨k + 1, by omega, by go_num, hidIt (by rw [HS.out]; exact M1.out), hb1⟩
              case measure => simp [intOf]; omega
            · obtain rfl : k = P.L.length := by omega
              have HM4 := hidIt (show MapF wx (w.heap.size + 1) (P.fr.length + P.lv.length + P.L.length) (stF P) from by rw [stF_eq, HG1.out, HG2.out, ← putAll_full (uLi P.L) G2 P.L.length (uLi_len _).symm]; exact HM0.out)
              clear HM0 HM3
              go_wp2
              go_ret
              exact ⟨_, rfl, HM4.out, by omega, bel_two BW.out hbw⟩
set_option maxHeartbeats 1600000 in
set_option maxRecDepth 100000 in
theorem impl_rises (w : World) (v : Value) (xs : List Int) (hn : xs.length ≤ 4194304) (h : IntsIn w v xs) :
    Calls Try.prog 37 #[v] w fun e w' => e = .returned (.bool (riseB xs)) ∧ Below w.heap.size w w' := by
  have H := hidIt h
  obtain ⟨va, vc, rfl, -⟩ := h.form
  clear h
  go_enter Try.func37, Try.ntmps37
  go_wp2
  go_loopw [3] (fun i wr => ∃ k : Nat, k ≤ xs.length ∧ i = .int .i64 ((k : Int) + 1) ∧ Hid (∀ j, 0 < j → j < k + 1 → ∀ hj : j < xs.length, xs[j - 1]'(by omega) < xs[j]) ∧ Below w.heap.size w wr) (fun i _ => xs.length + 1 - (intOf i).toNat)
  case atStart => exact ⟨0, Nat.zero_le _, rfl, hidIt (fun j h1 h2 => by omega), Below.refl _ _⟩
  case round =>
    rename World => wr
    obtain ⟨k, hk, rfl, HR, hbw⟩ := hrel
    by_cases hlt : k + 1 < xs.length
    · have hlt' : (k : Int) + 1 < (xs.length : Int) := by omega
      obtain ⟨⟨va', vc', hv, hp⟩, -⟩ := H.out.below hbw
      simp at hv
      obtain ⟨rfl, rfl⟩ := hv
      rcases hp with hp | ⟨b, off, rfl, hb, hp⟩
      · rw [hp] at hlt; simp at hlt
      have cA := hp (k + 1) hlt
      have cB := hp k (by omega)
      have HXY := hidIt (fun (e : xs[k] < xs[k + 1]) => (fun j h1 h2 hj => by
        by_cases hj2 : j = k + 1
        · subst hj2; exact e
        · exact HR.out j h1 (by omega) hj : ∀ j, 0 < j → j < k + 1 + 1 → ∀ hj : j < xs.length, xs[j - 1]'(by omega) < xs[j]))
      have HXN := hidIt (fun (e : ¬ xs[k] < xs[k + 1]) => riseB_no (xs := xs) (j := k + 1) (by omega) hlt e)
      clear hp HR
      generalize xs[k] = x at cB HXY HXN
      generalize xs[k + 1] = y at cA HXY HXN
      have hw1 : IntKind.i64.wrap (k : Int) = (k : Int) := by unfold IntKind.wrap; simp [IntKind.bits, IntKind.signed]; omega
      by_cases hxy : x < y
      · have HN := hidIt (HXY.out hxy)
        have hxy' : ¬ y ≤ x := by omega
        clear HXY HXN hxy
        go_wp2
        go_quiet (fail)
        go_wp2
        go_roundw
        case rel => exact ⟨k + 1, by omega, by go_num, hidIt HN.out, below_drewN hbw _⟩
        case measure => simp [intOf]; omega
      · have HN := hidIt (HXN.out hxy)
        have hxy' : y ≤ x := by omega
        clear HXY HXN hxy
        go_wp2
        go_quiet (fail)
        go_wp2
        go_ret
        exact ⟨ret_boolx HN.out.symm, below_drewN hbw _⟩
    · have HRI := hidIt (riseB_yes (xs := xs) (fun j h1 hj => HR.out j h1 (by omega) hj))
      have hlt2 : ¬ ((k : Int) + 1 < (xs.length : Int)) := by omega
      clear HR
      go_wp2
      go_ret
      exact ⟨ret_boolx HRI.out.symm, hbw⟩

end Go.Proofs.Ytikliofkplbdpaa

namespace Go.Proofs.Ytikliofkplbdpaa
open Go.ChangeShapes Go.WideShapes Go.ChangeAt Go.RowKit
set_option linter.unusedVariables false

theorem nat_wf {k : Nat} (h : k ≤ 16777216) : (Lit.int .i64 (k : Int)).wf = true := WalkArith.wf_i64 (by omega)
theorem field0 (x y : Int) (w : World) : (Instr.field 53 (.agg #[.int .i64 x, .int .i64 y]) 0).run Try.prog w = .ok (.int .i64 x) w := by kernel_rfl
theorem field1 (x y : Int) (w : World) : (Instr.field 53 (.agg #[.int .i64 x, .int .i64 y]) 1).run Try.prog w = .ok (.int .i64 y) w := by kernel_rfl
set_option maxHeartbeats 1600000 in
set_option maxRecDepth 100000 in
theorem impl_poolok (w : World) (f p l v : Value) (P : Pl) (hf : PlFit P) (hwf : PlWf P) (h : PlIn w f p l v P) :
    Calls Try.prog 18 #[.agg #[f, .int .i64 P.a, p, l, v]] w fun e w' => e = .returned (.bool (plOkB P)) ∧ Below w.heap.size w w' := by
  have H := hidIt h
  have HF := hidIt hf
  have HWF := hidIt hwf
  obtain ⟨fa, fc, pa, pc, la, lc, va, vc, rfl, rfl, rfl, rfl⟩ := h.form
  clear h hwf
  unfold PlFit at hf
  go_enter Try.func18, Try.ntmps18
  have hbig : Hid (∀ h : ¬ (allOf P).length ≤ 100, plOkB P = false) := hidIt (fun h => plOk_no2 h)
  have HN := hidIt (allOf_len P)
  by_cases h100 : P.fr.length + P.lv.length + P.L.length ≤ 100
  case neg =>
    have h100' : (100 : Int) < (P.fr.length : Int) + (P.lv.length : Int) + (P.L.length : Int) := by omega
    have HE := hidIt (hbig.out (by rw [HN.out]; exact h100))
    clear h100 hbig
    go_wp2
    go_ret
    exact ⟨ret_boolx HE.out.symm, (Below.refl _ _).alloc (Nat.le_refl _) _⟩
  have h100' : ¬ (100 : Int) < (P.fr.length : Int) + (P.lv.length : Int) + (P.L.length : Int) := by omega
  go_wp2_with fail
  generalize hW : World.alloc w _ = W0
  have X := Bx.new w #[.slice fa P.fr.length fc, .int .i64 P.a, .slice pa P.ps.length pc, .slice la P.L.length lc, .slice va P.lv.length vc] 33
  have bW : Below w.heap.size w W0 := by rw [← hW]; exact (Below.refl _ _).alloc (Nat.le_refl _) _
  have zW : W0.heap.size = w.heap.size + 1 := by rw [← hW]; simp
  rw [hW] at X
  clear hW
  have HX0 := hidIt X
  have BW := hidIt bW
  clear X bW
  refine (impl_agesok W0 P.a _ _ P.ps P.L (H.out.below BW.out).ag).mono ?_
  rintro e w1 ⟨rfl, b1⟩
  have HX := hidIt (HX0.out.below b1)
  have B1 := hidIt (bel_two BW.out b1)
  have z1 := b1.size
  clear b1 HX0
  cases hB : okB P.a P.ps P.L with
  | false =>
    have HE := hidIt (plOk_no1 (P := P) hB)
    go_wp2
    go_ret
    exact ⟨ret_boolx HE.out.symm, B1.out⟩
  | true =>
    have HB := hidIt hB
    have k4 := HX.out.2.1 4
    simp at k4
    go_wp2_with fail
    clear k4
    refine (impl_rises w1 _ P.lv (by omega) (H.out.below B1.out).lv).mono ?_
    rintro e w2 ⟨rfl, b2⟩
    have HX2 := hidIt (HX.out.below b2)
    have B2 := hidIt (bel_two B1.out b2)
    have z2 := b2.size
    clear b2 HX
    cases hR : riseB P.lv with
    | false =>
      have HE := hidIt (plOk_no3 (P := P) hR)
      go_wp2
      go_ret
      exact ⟨ret_boolx HE.out.symm, B2.out⟩
    | true =>
      have HR := hidIt hR
      have k0 := HX2.out.2.1 0
      have k1 := HX2.out.2.1 1
      have k2 := HX2.out.2.1 2
      have k3 := HX2.out.2.1 3
      have k4 := HX2.out.2.1 4
      simp at k0 k1 k2 k3 k4
      go_wp2_with fail
      clear k0 k1 k2 k3 k4
      refine (impl_standings w2 _ _ _ _ P HF.out HWF.out (H.out.below B2.out)).mono ?_
      rintro e w3 ⟨b, rfl, m3, hb3, b3⟩
      have M3 := hidIt m3
      have B3 := hidIt (bel_two B2.out b3)
      clear m3 b3 HX2
      go_wp2_with fail
      go_loopw [35] (fun i wr => ∃ k : Nat, k ≤ P.fr.length + P.lv.length + P.L.length ∧ i = .int .i64 k ∧ Hid (∀ j : Nat, j < k → (j : Int) ∈ allOf P) ∧ Below w3.heap.size w3 wr) (fun i _ => P.fr.length + P.lv.length + P.L.length - (intOf i).toNat)
      case atStart => exact ⟨0, Nat.zero_le _, rfl, hidIt (fun j h => by omega), Below.refl _ _⟩
      case round =>
        rename World => wr
        obtain ⟨k, hk, rfl, HR2, hbw⟩ := hrel
        by_cases hlt : k < P.fr.length + P.lv.length + P.L.length
        · have hlt' : (k : Int) < (P.fr.length : Int) + (P.lv.length : Int) + (P.L.length : Int) := by omega
          have HL := hidIt ((M3.out.below hbw).at (k : Int) (nat_wf (by omega)))
          by_cases hm : (k : Int) ∈ allOf P
          · obtain ⟨q, hq, hq0⟩ := stF_some P _ hm
            have hl : (Instr.lookup 50 (.map (some b)) (.int .i64 (k : Int)) false).run Try.prog wr = .ok (.agg #[.int .i64 q.1, .int .i64 q.2]) wr := by
              have := HL.out
              rw [hq] at this
              exact this
            have HR3 := hidIt (fun (j : Nat) (hj : j < k + 1) => show (j : Int) ∈ allOf P from by
              by_cases e : j = k
              · subst e; exact hm
              · exact HR2.out j (by omega))
            have hq1 : (q.1 == 0) = false := by simpa using hq0
            clear HR2 hm HL hq hq0
            generalize q.1 = q1 at hl hq1
            generalize q.2 = q2 at hl
            have hfd := field0 q1 q2
            go_wp2
            go_roundw
            case rel => exact ⟨k + 1, by omega, by go_num, HR3, hbw⟩
            case measure => simp [intOf]; omega
          · have hl : (Instr.lookup 50 (.map (some b)) (.int .i64 (k : Int)) false).run Try.prog wr = .ok (.agg #[.int .i64 0, .int .i64 0]) wr := by
              have := HL.out
              rw [stF_none P _ hm] at this
              exact this
            have HE := hidIt (plOk_no4 (P := P) (placesB_lack (by rw [HN.out]; exact hlt) hm))
            clear HR2 hm HL
            have hfd := field0 0 0
            go_wp2
            go_ret
            exact ⟨ret_boolx HE.out.symm, bel_two B3.out hbw⟩
        · have HE := hidIt (plOk_yes (P := P) HB.out (by rw [HN.out]; exact h100) HR.out (placesB_hold (fun j hj => HR2.out j (by rw [HN.out] at hj; omega))))
          have hlt2 : ¬ ((k : Int) < (P.fr.length : Int) + (P.lv.length : Int) + (P.L.length : Int)) := by omega
          clear HR2
          go_wp2
          go_ret
          exact ⟨ret_boolx HE.out.symm, bel_two B3.out hbw⟩

end Go.Proofs.Ytikliofkplbdpaa

namespace Go.Proofs.Ytikliofkplbdpaa
open Go.ChangeShapes Go.WideShapes Go.ChangeAt Go.RowKit
set_option linter.unusedVariables false

def PlS1 (P : Pl) (B : Bool) (w : World) (e : Ending) (w' : World) : Prop :=
  ∃ f p l v, e = .returned (.tuple #[.agg #[f, .int .i64 P.a, p, l, v], .bool B]) ∧ PlQ w.heap.size w'.heap.size f p l v P w' ∧ Below w.heap.size w w'
def PlI1 (P : Pl) (B : Bool) (w : World) (e : Ending) (w' : World) : Prop :=
  ∃ f p l v, e = .returned (.tuple #[.agg #[f, .int .i64 P.a, p, l, v], .bool B]) ∧ PlR w.heap.size w'.heap.size f p l v P w' ∧ Below w.heap.size w w'
def PlS2 (P : Pl) (N : Int) (B : Bool) (w : World) (e : Ending) (w' : World) : Prop :=
  ∃ f p l v, e = .returned (.tuple #[.agg #[f, .int .i64 P.a, p, l, v], .int .i64 N, .bool B]) ∧ PlQ w.heap.size w'.heap.size f p l v P w' ∧ Below w.heap.size w w'
def PlI2 (P : Pl) (N : Int) (B : Bool) (w : World) (e : Ending) (w' : World) : Prop :=
  ∃ f p l v, e = .returned (.tuple #[.agg #[f, .int .i64 P.a, p, l, v], .int .i64 N, .bool B]) ∧ PlR w.heap.size w'.heap.size f p l v P w' ∧ Below w.heap.size w w'
def PlS3 (P : Pl) (F : List Int) (w : World) (e : Ending) (w' : World) : Prop :=
  ∃ f p l v u, e = .returned (.tuple #[.agg #[f, .int .i64 P.a, p, l, v], u]) ∧ PlQ w.heap.size w'.heap.size f p l v P w' ∧ Row w' w.heap.size w'.heap.size u (ints F) ∧ Below w.heap.size w w'
def PlI3 (P : Pl) (F : List Int) (w : World) (e : Ending) (w' : World) : Prop :=
  ∃ f p l v u m, e = .returned (.tuple #[.agg #[f, .int .i64 P.a, p, l, v], u]) ∧ PlR m w'.heap.size f p l v P w' ∧ Row w' w.heap.size m u (ints F) ∧ w.heap.size ≤ m ∧ m ≤ w'.heap.size ∧ Below w.heap.size w w'
theorem PlS1.none {w w' : World} {e : Ending} (h : e = .returned (.tuple #[.agg #[.slice none 0 0, .int .i64 0, .slice none 0 0, .slice none 0 0, .slice none 0 0], .bool false]) ∧ Below w.heap.size w w') : PlS1 plZero false w e w' := ⟨_, _, _, _, h.1, (PlR.zero _ _ h.2.size _).toQ, h.2⟩
theorem PlI1.none {w w' : World} {e : Ending} (h : e = .returned (.tuple #[.agg #[.slice none 0 0, .int .i64 0, .slice none 0 0, .slice none 0 0, .slice none 0 0], .bool false]) ∧ Below w.heap.size w w') : PlI1 plZero false w e w' := ⟨_, _, _, _, h.1, PlR.zero _ _ h.2.size _, h.2⟩
theorem PlS2.none {w w' : World} {e : Ending} (h : e = .returned (.tuple #[.agg #[.slice none 0 0, .int .i64 0, .slice none 0 0, .slice none 0 0, .slice none 0 0], .int .i64 0, .bool false]) ∧ Below w.heap.size w w') : PlS2 plZero 0 false w e w' := ⟨_, _, _, _, h.1, (PlR.zero _ _ h.2.size _).toQ, h.2⟩
theorem PlI2.none {w w' : World} {e : Ending} (h : e = .returned (.tuple #[.agg #[.slice none 0 0, .int .i64 0, .slice none 0 0, .slice none 0 0, .slice none 0 0], .int .i64 0, .bool false]) ∧ Below w.heap.size w w') : PlI2 plZero 0 false w e w' := ⟨_, _, _, _, h.1, PlR.zero _ _ h.2.size _, h.2⟩
theorem PlS3.none {w w' : World} {e : Ending} (h : e = .returned (.tuple #[.agg #[.slice none 0 0, .int .i64 0, .slice none 0 0, .slice none 0 0, .slice none 0 0], .slice none 0 0]) ∧ Below w.heap.size w w') : PlS3 plZero [] w e w' := ⟨_, _, _, _, _, h.1, (PlR.zero _ _ h.2.size _).toQ, Row.size0 _ _ _, h.2⟩
theorem PlI3.none {w w' : World} {e : Ending} (h : e = .returned (.tuple #[.agg #[.slice none 0 0, .int .i64 0, .slice none 0 0, .slice none 0 0, .slice none 0 0], .slice none 0 0]) ∧ Below w.heap.size w w') : PlI3 plZero [] w e w' := ⟨_, _, _, _, _, w.heap.size, h.1, PlR.zero _ _ h.2.size _, Row.size0 _ _ _, Nat.le_refl _, h.2.size, h.2⟩
theorem eq_intB (w : World) (l1 h1 l2 h2 : Nat) (v1 v2 : Value) (ps : List Int) (hn : ps.length ≤ 4194304) (r1 : Row w l1 h1 v1 (ints ps)) (r2 : Row w l2 h2 v2 (ints ps)) :
    Calls Try.prog 24 #[v1, v2] w fun e w' => e = .returned (.bool true) ∧ Below w.heap.size w w' :=
  (eq_int w l1 h1 l2 h2 v1 v2 ps hn r1 r2).mono fun _ _ ⟨h, n, e⟩ => ⟨h, by rw [e]; exact below_drewN (Below.refl _ _) n⟩
theorem Sv.front2 {w W : World} {cs : List (Nat × Nat × Value)} {a b c : Nat × Nat × (World → Prop)} {rs : List (Nat × Nat × (World → Prop))} (h : Sv w cs (a :: b :: c :: rs) W) : Sv w cs (c :: a :: b :: rs) W :=
  h.less (fun _ h => h) (fun x hx => by simp only [List.mem_cons] at hx ⊢; rcases hx with h | h | h | h <;> simp [h])

end Go.Proofs.Ytikliofkplbdpaa

namespace Go.Proofs.Ytikliofkplbdpaa
open Go.ChangeShapes Go.WideShapes Go.ChangeAt Go.RowKit
set_option linter.unusedVariables false

theorem addr_add (g o i : Nat) : (⟨g, o, none⟩ : Addr).add i = ⟨g, o + i, none⟩ := by unfold Addr.add; split <;> simp_all
theorem cells2G : Try.prog.cellsOf 72 = 2 := by kernel_rfl
theorem cellsGS : Try.prog.cellsOf 23 = 1 := by kernel_rfl
set_option maxRecDepth 100000 in
theorem open_gonerow {H : Type} {enc : TypeId × Value → H} {W : World} {fuel : Nat} {cs : List Value} {x : DataW H × List MemPlace} (h : DataW.trod enc Try.prog W 0 (fun _ => true) true fuel 23 cs = some x) :
    ∃ v L, cs = [v] ∧ PIn W v L ∧ L.length ≤ maxLen := by
  rcases Go.Deep.open_slice_pairs Try.underlying23 Try.underlying72 cells2G rfl rfl cells3 cells3 h with ⟨rfl, -⟩ | ⟨a, len, cap, m, n, V0, V1, D0, D1, P0, P1, rfl, -, hl, hm, hmm, -, hx⟩
  · exact ⟨_, [], rfl, ⟨none, 0, rfl, Nat.le_refl _, .inl rfl⟩, by simp⟩
  · have hlm : len ≤ m := by rw [hmm]; simp; exact hl
    have key : ∀ i, i < len → ∃ p : Int × Int, W.cell? (a.add (i * 2)) = some (.int .i64 p.1) ∧ W.cell? (a.add (i * 2 + 1)) = some (.int .i64 p.2) := by
      intro i hi
      obtain ⟨h1, h2, h3, h4⟩ := hx i (by omega)
      obtain ⟨z0, e0, -⟩ := open_intcell h3
      obtain ⟨z1, e1, -⟩ := open_intcell h4
      simp at e0 e1
      exact ⟨(z0, z1), by rw [h1, e0], by rw [h2, e1]⟩
    obtain ⟨q, hq⟩ := Go.Deep.choose_lt key
    refine ⟨_, (List.range len).map q, rfl, ⟨some a, cap, by simp, by simpa using hl, ?_⟩, by simp; omega⟩
    by_cases h0 : len = 0
    · left; simp [h0]
    · right
      obtain ⟨b, off, rfl, -⟩ := ints_at (w := W) (a := a) (k := .i64) (zs := [(q 0).1]) (fun i hi => by
        simp at hi
        subst hi
        simpa using (hq 0 (by omega)).1) (by simp)
      refine ⟨b, off, rfl, ?_, fun j hj => ?_⟩
      · have h1 := (hq 0 (by omega)).1
        by_cases hlt : b < W.heap.size
        · exact hlt
        · rw [addr_add] at h1
          simp [World.cell?, hlt] at h1
      · simp at hj
        have h1 := hq j hj
        rw [addr_add, addr_add] at h1
        simpa [Nat.add_assoc] using h1
theorem array3 {α : Type} {cs : Array α} (h : cs.size = 3) : ∃ c0 c1 c2, cs = #[c0, c1, c2] := by
  obtain ⟨l⟩ := cs
  match l, h with
  | [c0, c1, c2], _ => exact ⟨c0, c1, c2, rfl⟩
theorem cellsAges : Try.prog.cellsOf 25 = 3 := by kernel_rfl
set_option maxRecDepth 100000 in
theorem open_Ages {H : Type} {enc : TypeId × Value → H} {W : World} {b0 : Nat} {v : Value} {d : DataW H} {p : List MemPlace} (hv : Value.okWide Try.prog W .any b0 25 v) (h : DataW.Trod enc Try.prog W 0 (fun _ => true) true 25 v d p) :
    ∃ (a : Int) (pv lv : Value) (ps : List Int) (L : List (Int × Int)), v = .agg #[.int .i64 a, pv, lv] ∧ (Lit.int .i64 a).wf = true ∧ AIn W pv lv ps L ∧ ps.length ≤ maxLen ∧ L.length ≤ maxLen := by
  obtain ⟨cs, rfl, hsz⟩ := okWide_struct Try.underlying25 hv
  obtain ⟨c0, c1, c2, rfl⟩ := array3 (hsz.trans cellsAges)
  obtain ⟨fuel, hf⟩ := h
  obtain ⟨n0, y0, g0⟩ := field_of Try.underlying25 hf 0 _ rfl
  obtain ⟨z0, e0, f0⟩ := open_intcell g0
  obtain ⟨n1, y1, g1⟩ := field_of Try.underlying25 hf 1 _ rfl
  obtain ⟨v1, xs, e1, r1, l1, -⟩ := open_introw g1
  obtain ⟨n2, y2, g2⟩ := field_of Try.underlying25 hf 2 _ rfl
  obtain ⟨v2, L, e2, r2, l2⟩ := open_gonerow g2
  simp [Value.cells, cells3] at e0
  simp [Value.cells, cells22] at e1
  simp [Value.cells, cellsGS] at e2
  subst e0 e1 e2
  exact ⟨_, _, _, xs, L, rfl, f0, ⟨r1, r2⟩, l1, l2⟩

end Go.Proofs.Ytikliofkplbdpaa

namespace Go.Proofs.Ytikliofkplbdpaa
open Go.ChangeShapes Go.WideShapes Go.ChangeAt Go.RowKit
set_option linter.unusedVariables false

set_option maxRecDepth 100000 in
theorem open_gonerowN {H : Type} {enc : TypeId × Value → H} {W : World} {fuel : Nat} {cs : List Value} {x : DataW H × List MemPlace} (h : DataW.trod enc Try.prog W 0 (fun _ => true) true fuel 23 cs = some x) :
    ∃ v L, cs = [v] ∧ PIn W v L ∧ L.length ≤ maxLen ∧ ∀ q ∈ L, (Lit.int .i64 q.1).wf = true := by
  rcases Go.Deep.open_slice_pairs Try.underlying23 Try.underlying72 cells2G rfl rfl cells3 cells3 h with ⟨rfl, -⟩ | ⟨a, len, cap, m, n, V0, V1, D0, D1, P0, P1, rfl, -, hl, hm, hmm, -, hx⟩
  · exact ⟨_, [], rfl, ⟨none, 0, rfl, Nat.le_refl _, .inl rfl⟩, by simp, by simp⟩
  · have hlm : len ≤ m := by rw [hmm]; simp; exact hl
    have key : ∀ i, i < len → ∃ p : Int × Int, (W.cell? (a.add (i * 2)) = some (.int .i64 p.1) ∧ W.cell? (a.add (i * 2 + 1)) = some (.int .i64 p.2)) ∧ (Lit.int .i64 p.1).wf = true := by
      intro i hi
      obtain ⟨h1, h2, h3, h4⟩ := hx i (by omega)
      obtain ⟨z0, e0, f0⟩ := open_intcell h3
      obtain ⟨z1, e1, -⟩ := open_intcell h4
      simp at e0 e1
      exact ⟨(z0, z1), ⟨by rw [h1, e0], by rw [h2, e1]⟩, f0⟩
    obtain ⟨q, hqq⟩ := Go.Deep.choose_lt key
    have hq : ∀ i, i < len → W.cell? (a.add (i * 2)) = some (.int .i64 (q i).1) ∧ W.cell? (a.add (i * 2 + 1)) = some (.int .i64 (q i).2) := fun i hi => (hqq i hi).1
    refine ⟨_, (List.range len).map q, rfl, ⟨some a, cap, by simp, by simpa using hl, ?_⟩, by simp; omega, by
      intro z hz
      obtain ⟨i, hi, rfl⟩ := List.mem_map.1 hz
      exact (hqq i (List.mem_range.1 hi)).2⟩
    by_cases h0 : len = 0
    · left; simp [h0]
    · right
      obtain ⟨b, off, rfl, -⟩ := ints_at (w := W) (a := a) (k := .i64) (zs := [(q 0).1]) (fun i hi => by
        simp at hi
        subst hi
        simpa using (hq 0 (by omega)).1) (by simp)
      refine ⟨b, off, rfl, ?_, fun j hj => ?_⟩
      · have h1 := (hq 0 (by omega)).1
        by_cases hlt : b < W.heap.size
        · exact hlt
        · rw [addr_add] at h1
          simp [World.cell?, hlt] at h1
      · simp at hj
        have h1 := hq j hj
        rw [addr_add, addr_add] at h1
        simpa [Nat.add_assoc] using h1
theorem cellsPool : Try.prog.cellsOf 27 = 5 := by kernel_rfl
theorem cellsAg3 : Try.prog.cellsOf 25 = 3 := by kernel_rfl
set_option maxRecDepth 100000 in
theorem open_Pool {H : Type} {enc : TypeId × Value → H} {W : World} {b0 : Nat} {v : Value} {d : DataW H} {p : List MemPlace} (hv : Value.okWide Try.prog W .any b0 27 v) (h : DataW.Trod enc Try.prog W 0 (fun _ => true) true 27 v d p) :
    ∃ (P : Pl) (pf pp pl pv : Value), v = .agg #[pf, .int .i64 P.a, pp, pl, pv] ∧ PlIn W pf pp pl pv P ∧ P.fr.length ≤ maxLen ∧ P.ps.length ≤ maxLen ∧ P.L.length ≤ maxLen ∧ P.lv.length ≤ maxLen ∧ PlWf P := by
  obtain ⟨cs, rfl, hsz⟩ := okWide_struct Try.underlying27 hv
  obtain ⟨c0, c1, c2, c3, c4, rfl⟩ := array5 (hsz.trans cellsPool)
  obtain ⟨fuel, hf⟩ := h
  obtain ⟨n0, y0, g0⟩ := field_of Try.underlying27 hf 0 _ rfl
  obtain ⟨v0, xs0, e0, r0, l0, x0⟩ := open_introwN g0
  obtain ⟨n1, y1, g1⟩ := field_of Try.underlying27 hf 1 _ rfl
  obtain ⟨ma, wa, ha⟩ := field_of Try.underlying25 g1 0 _ rfl
  obtain ⟨za, ea, fa⟩ := open_intcell ha
  obtain ⟨mb, wb, hb⟩ := field_of Try.underlying25 g1 1 _ rfl
  obtain ⟨vb, xsb, eb, rb, lb, xb⟩ := open_introwN hb
  obtain ⟨mc, wc, hc⟩ := field_of Try.underlying25 g1 2 _ rfl
  obtain ⟨vc, Lc, ec, rc, lc, xc⟩ := open_gonerowN hc
  obtain ⟨n2, y2, g2⟩ := field_of Try.underlying27 hf 2 _ rfl
  obtain ⟨v2, xs2, e2, r2, l2, x2⟩ := open_introwN g2
  simp [Value.cells, cells22] at e0 e2
  simp [Value.cells, cells3, cells22, cellsGS, cellsAg3] at ea eb ec
  subst e0 ea eb ec e2
  exact ⟨⟨xs0, _, xsb, Lc, xs2⟩, _, _, _, _, rfl, ⟨r0, ⟨rb.1, rc⟩, r2⟩, l0, lb, lc, l2, x0, xc, x2⟩

end Go.Proofs.Ytikliofkplbdpaa
