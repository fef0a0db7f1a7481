/- A node given up: the model's and the program's. -/
import Derived.Test.YtomehhheiodagabRows
import Derived.WalkKit
import Derived.ProofKit
import Derived.OpenShut
import Derived.ShutString
import Derived.Test.YtomehhheiodagabPinFns
namespace Go.Proofs.Ytomehhheiodagab
open Go.ChangeShapes Go.WideShapes Go.ChangeAt Go.RowKit
set_option linter.unusedVariables false

def retOk (a : Int) (ps : List Int) (L : List (Int × Int)) (x : Int) : Bool := okB a ps L && !nodeB L x && decide (L.length ≠ 100)
def retP (B : Bool) (ps : List Int) : List Int := if B = true then ps else []
def retL (B : Bool) (L : List (Int × Int)) (x a : Int) : List (Int × Int) := if B = true then L ++ [(x, a)] else []
theorem gones_snoc (L : List (Int × Int)) (x a : Int) : gones (L ++ [(x, a)]) = gones L ++ [.int .i64 x, .int .i64 a] := by rw [gones_app]; rfl
theorem AO.grow {lo : Nat} {p l : Value} {ps : List Int} {L : List (Int × Int)} {W W' : World} (h : AO lo p l ps L W) (b : Below W.heap.size W W') : AO lo p l ps L W' := ⟨own_below h.pins b, own_below h.limbo b, h.apart⟩
theorem AO.app {lo : Nat} {p l : Value} {ps : List Int} {L : List (Int × Int)} {W W' : World} {x a : Int} {g cap : Nat} (h : AO lo p l ps L W)
    (ho : W'.ownsRow lo 43 2 (.slice (some ⟨g, 0, none⟩) (L.length + 1) cap) (L.length + 1) (gones L ++ [.int .i64 x, .int .i64 a])) (hg : W.grownBy W' l.ownBlock) (hat : l.ownBlock = some g ∨ g = W.heap.size) : AO lo p (.slice (some ⟨g, 0, none⟩) (L.length + 1) cap) ps (L ++ [(x, a)]) W' := by
  refine ⟨h.pins.kept hg ?_, by rw [gones_snoc]; simpa using ho, ?_⟩
  · cases hu : p.ownBlock with
    | none => exact .inl rfl
    | some k => exact .inr fun e => h.apart k hu e.symm
  · intro k hk hk2
    simp [Value.ownBlock] at hk2
    subst hk2
    rcases hat with hat | hat
    · exact h.apart g hk hat
    · have := (h.pins.lt g hk).2; omega
theorem AO.set {lo : Nat} {p l : Value} {ps : List Int} {L : List (Int × Int)} {W : World} (h : AO lo p l ps L W) {b o : Nat} {v : Value} (hp : p.ownBlock ≠ some b) (hl : l.ownBlock ≠ some b) : AO lo p l ps L (W.setCell ⟨b, o, none⟩ v) := by
  have hg : W.grownBy (W.setCell ⟨b, o, none⟩ v) (some b) := ⟨rfl, rfl, rfl, by simp, fun k _ hk => Below.heap_setCell _ _ _ _ (fun e => hk (by rw [e]))⟩
  exact ⟨h.pins.kept hg (.inr hp), h.limbo.kept hg (.inr hl), h.apart⟩
theorem AO.low {lo : Nat} {p l : Value} {ps : List Int} {L : List (Int × Int)} {W : World} (h : AO lo p l ps L W) {b o : Nat} {v : Value} (hb : b < lo) : AO lo p l ps L (W.setCell ⟨b, o, none⟩ v) :=
  h.set (fun e => by have := (h.pins.lt b e).1; omega) (fun e => by have := (h.limbo.lt b e).1; omega)
theorem AR.ofAO {lo lo' : Nat} {p l : Value} {ps : List Int} {L : List (Int × Int)} {W : World} (h : AO lo p l ps L W) (hl : lo' ≤ lo) : AR lo' W.heap.size p l ps L W := h.ar.wide hl (Nat.le_refl _)
theorem farv {w w' : World} {v : Value} {b o : Nat} {x : Option Value} (h : w.grownBy w' v.ownBlock) (hb : b < w.heap.size) (hn : ∀ k, v.ownBlock = some k → k ≠ b) (hx : w.cell? ⟨b, o, none⟩ = x) : w'.cell? ⟨b, o, none⟩ = x := (h.cell_far ⟨b, o, none⟩ hb (fun e => hn b e.symm rfl)).trans hx
theorem farv_frozen {w w' : World} {v : Value} {b o : Nat} {x : Bool} (h : w.grownBy w' v.ownBlock) (hb : b < w.heap.size) (hn : ∀ k, v.ownBlock = some k → k ≠ b) (hx : w.frozen? ⟨b, o, none⟩ = x) : w'.frozen? ⟨b, o, none⟩ = x := (h.frozen_far ⟨b, o, none⟩ hb (fun e => hn b e.symm rfl)).trans hx
theorem retOk_no {a : Int} {ps : List Int} {L : List (Int × Int)} {x : Int} (h : okB a ps L = false ∨ nodeB L x = true ∨ L.length = 100) : retOk a ps L x = false := by
  rcases h with h | h | h <;> simp [retOk, h]
theorem retOk_yes {a : Int} {ps : List Int} {L : List (Int × Int)} {x : Int} (h : retOk a ps L x = true) : okB a ps L = true ∧ nodeB L x = false ∧ L.length ≠ 100 := by
  simp only [retOk, Bool.and_eq_true, Bool.not_eq_true', decide_eq_true_eq] at h
  exact ⟨h.1.1, h.1.2, h.2⟩
theorem retOk_cases {a : Int} {ps : List Int} {L : List (Int × Int)} {x : Int} (h : retOk a ps L x = false) : okB a ps L = false ∨ nodeB L x = true ∨ L.length = 100 := by
  cases h1 : okB a ps L with
  | false => exact .inl rfl
  | true =>
    cases h2 : nodeB L x with
    | true => exact .inr (.inl rfl)
    | false =>
      simp [retOk, h1, h2] at h
      exact .inr (.inr h)

end Go.Proofs.Ytomehhheiodagab
