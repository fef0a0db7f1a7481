/- A handle pinned, a handle that isn't any more: the model's and the program's. -/
import Derived.Test.YtomehhheiodagabRows
import Derived.WalkKit
import Derived.ProofKit
import Derived.OpenShut
import Derived.ShutString
import Derived.Test.YtomehhheiodagabSpecAgesOk
import Derived.Test.YtomehhheiodagabSpecCopy
import Derived.Test.YtomehhheiodagabCellRow
import Derived.Test.YtomehhheiodagabAgesFns
namespace Go.Proofs.Ytomehhheiodagab
open Go.ChangeShapes Go.WideShapes Go.ChangeAt Go.RowKit
set_option linter.unusedVariables false

def setOk (a : Int) (ps : List Int) (L : List (Int × Int)) (h : Int) (pinned : Bool) : Bool := okB a ps L && decide (0 ≤ h ∧ h < (ps.length : Int)) && ((ps.getD h.toNat 0 != -1) == pinned)
def setA (B : Bool) (a : Int) : Int := if B = true then a else 0
def setP (B : Bool) (ps : List Int) (h y : Int) : List Int := if B = true then ps.set h.toNat y else []
def setLm (B : Bool) (L : List (Int × Int)) : List (Int × Int) := if B = true then L else []
theorem AR.put {W : World} {lo hi g c : Nat} {l : Value} {ps : List Int} {L : List (Int × Int)} (h : AR lo hi (.slice (some ⟨g, 0, none⟩) ps.length c) l ps L W) (hz : hi ≤ W.heap.size) (i : Nat) (hi' : i < ps.length) (y : Int) : AR lo hi (.slice (some ⟨g, 0, none⟩) ps.length c) l (ps.set i y) L (W.setCell ⟨g, i, none⟩ (.int .i64 y)) := by
  refine ⟨h.pins.put i hi' y, h.limbo.grown hz (q := some g) ⟨rfl, rfl, rfl, by simp, fun k _ hk => Below.heap_setCell _ _ _ _ (fun e => hk (by rw [e]))⟩ (fun hx k hk e => ?_), by have := h.apart; simpa using this⟩
  cases hk
  exact h.apart (by omega) (ne_nil_pos hx) e.symm
theorem AR.set_out {W : World} {lo hi : Nat} {p l : Value} {ps : List Int} {L : List (Int × Int)} (h : AR lo hi p l ps L W) {b o : Nat} {v : Value} (hb : b < lo ∨ hi ≤ b) : AR lo hi p l ps L (W.setCell ⟨b, o, none⟩ v) :=
  AR.loc lo hi p l ps L W _ h (fun k k1 k2 => Below.heap_setCell _ _ _ _ (by show k ≠ b; omega))
theorem AR.alloc {W : World} {lo hi : Nat} {p l : Value} {ps : List Int} {L : List (Int × Int)} (h : AR lo hi p l ps L W) (hz : hi ≤ W.heap.size) (o : Obj) : AR lo hi p l ps L (W.alloc o) := h.below ((Below.refl _ _).alloc hz o)
/- what a function of epochs answers: epochs of its own, and a word -/
def AAns (A : Int) (PS : List Int) (LS : List (Int × Int)) (B : Bool) (w : World) (e : Ending) (w' : World) : Prop :=
  ∃ p' l', e = .returned (.tuple #[.agg #[.int .i64 A, p', l'], .bool B]) ∧ AR w.heap.size w'.heap.size p' l' PS LS w' ∧ Below w.heap.size w w'
theorem setOk_no1 {a : Int} {ps : List Int} {L : List (Int × Int)} {h : Int} {q : Bool} (e : okB a ps L = false) : setOk a ps L h q = false := by simp [setOk, e]
theorem setOk_no2 {a : Int} {ps : List Int} {L : List (Int × Int)} {h : Int} {q : Bool} (e : ¬ (0 ≤ h ∧ h < (ps.length : Int))) : setOk a ps L h q = false := by simp only [setOk, decide_eq_false e, Bool.and_false, Bool.false_and]
theorem setOk_in {a : Int} {ps : List Int} {L : List (Int × Int)} {i : Nat} {q : Bool} (e : okB a ps L = true) (hi : i < ps.length) : setOk a ps L (i : Int) q = ((ps[i] != -1) == q) := by
  have h1 : decide (0 ≤ (i : Int) ∧ (i : Int) < (ps.length : Int)) = true := decide_eq_true ⟨by omega, by omega⟩
  simp only [setOk, e, h1, Bool.true_and]
  simp [hi]

theorem setOk_true {a : Int} {ps : List Int} {L : List (Int × Int)} {h : Int} {q : Bool} (e : setOk a ps L h q = true) : okB a ps L = true ∧ ∃ (i : Nat) (hi : i < ps.length), h = i ∧ ((ps[i] != -1) == q) = true := by
  have h1 : okB a ps L = true := by
    cases hB : okB a ps L with
    | true => rfl
    | false => rw [setOk_no1 hB] at e; cases e
  have h2 : 0 ≤ h ∧ h < (ps.length : Int) := by
    by_cases hc : 0 ≤ h ∧ h < (ps.length : Int)
    · exact hc
    · rw [setOk_no2 hc] at e; cases e
  obtain ⟨i, rfl⟩ : ∃ i : Nat, h = i := ⟨h.toNat, by omega⟩
  have hi : i < ps.length := by omega
  exact ⟨h1, i, hi, rfl, by rw [← setOk_in (L := L) h1 hi]; exact e⟩
theorem AAns.none {w w' : World} {e : Ending} (h : e = .returned (.tuple #[.agg #[.int .i64 0, .slice none 0 0, .slice none 0 0], .bool false]) ∧ Below w.heap.size w w') : AAns 0 [] [] false w e w' := ⟨_, _, h.1, AR.nil _ _ _, h.2⟩

end Go.Proofs.Ytomehhheiodagab
