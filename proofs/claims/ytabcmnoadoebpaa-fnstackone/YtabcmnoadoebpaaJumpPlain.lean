/- A scope that is gone through with at most so many gotos: from each goto the walk goes on at its label. -/
import Derived.Test.YtabcmnoadoebpaaRows
import Derived.WalkKit
import Derived.ProofKit
import Derived.OpenShut
import Derived.ShutString
import Derived.WalkMore
namespace Go.Proofs.Ytabcmnoadoebpaa
open Go.ChangeShapes Go.WideShapes Go.ChangeAt Go.RowKit
set_option linter.unusedVariables false

def Hop (P : Program) (C : Code) (Q : Exit → Act → World → Prop) : Nat → Exit → Act → World → Prop
  | 0, .goto _, _, _ => False
  | n + 1, .goto l, a, w => ∃ rest, findLabel C l = some rest ∧ rest.wp P (Hop P C Q n) a w
  | _, e, a, w => Q e a w
@[go_sem] theorem hop_normal {P : Program} {C : Code} {Q : Exit → Act → World → Prop} (n : Nat) {a : Act} {w : World} : Hop P C Q n .normal a w = Q .normal a w := by cases n <;> rfl
@[go_sem] theorem hop_ret {P : Program} {C : Code} {Q : Exit → Act → World → Prop} (n : Nat) {a : Act} {w : World} : Hop P C Q n .ret a w = Q .ret a w := by cases n <;> rfl
@[go_sem] theorem hop_exit {P : Program} {C : Code} {Q : Exit → Act → World → Prop} (n id : Nat) {a : Act} {w : World} : Hop P C Q n (.exit id) a w = Q (.exit id) a w := by cases n <;> rfl
@[go_sem] theorem hop_panic {P : Program} {C : Code} {Q : Exit → Act → World → Prop} (n : Nat) (ch : List PanicEntry) {a : Act} {w : World} : Hop P C Q n (.panic ch) a w = Q (.panic ch) a w := by cases n <;> rfl
theorem hop_arrives {P : Program} {C : Code} {Q : Exit → Act → World → Prop} (b : Frame) (k : List Item) (cs : List Frame) :
    ∀ (n : Nat) (c : Code) (a : Act) (w : World), c.wp P (Hop P C Q n) a w → ∃ e a' w', Q e a' w' ∧ Arrives P (lone (b.at a (.code c :: .inScope C :: k)) cs w) b k cs e a' w' := by
  intro n
  induction n with
  | zero =>
    intro c a w h
    obtain ⟨e, a₁, w₁, hq, harr⟩ := h b (.inScope C :: k) cs
    cases e with
    | normal => exact ⟨.normal, a₁, w₁, hq, Steps.trans harr (.one step_inScope)⟩
    | exit id => exact ⟨.exit id, a₁, w₁, hq, fun k' hk => harr k' (by simp [exitTo, hk])⟩
    | goto l => exact hq.elim
    | ret => exact ⟨_, a₁, w₁, hq, harr⟩
    | panic ch => exact ⟨_, a₁, w₁, hq, harr⟩
    | outgrown => exact ⟨_, a₁, w₁, hq, harr⟩
  | succ n ih =>
    intro c a w h
    obtain ⟨e, a₁, w₁, hq, harr⟩ := h b (.inScope C :: k) cs
    cases e with
    | normal => exact ⟨.normal, a₁, w₁, hq, Steps.trans harr (.one step_inScope)⟩
    | exit id => exact ⟨.exit id, a₁, w₁, hq, fun k' hk => harr k' (by simp [exitTo, hk])⟩
    | goto l =>
      obtain ⟨rest, hf, hr⟩ := hq
      obtain ⟨e₂, a₂, w₂, hq₂, harr₂⟩ := ih rest a₁ w₁ hr
      exact ⟨e₂, a₂, w₂, hq₂, .of_steps (harr _ (by simp [gotoIn, hf])) harr₂⟩
    | ret => exact ⟨_, a₁, w₁, hq, harr⟩
    | panic ch => exact ⟨_, a₁, w₁, hq, harr⟩
    | outgrown => exact ⟨_, a₁, w₁, hq, harr⟩
theorem wp_scope_hops {P : Program} {c : Code} {Q : Exit → Act → World → Prop} {a : Act} {w : World} (n : Nat) (h : ∀ C, Hid (C = c) → c.wp P (Hop P C Q n) a w) : (Code.scope c).wp P Q a w := by
  intro b k cs
  obtain ⟨e, a₁, w₁, hq, harr⟩ := hop_arrives b k cs n c a w (h c rfl)
  exact ⟨e, a₁, w₁, hq, .of_steps (.one step_scope) harr⟩
theorem hop_goto {P : Program} {C c rest : Code} {Q : Exit → Act → World → Prop} {n l : Nat} {a : Act} {w : World} (hc : Hid (C = c)) (hf : findLabel c l = some rest) (h : rest.wp P (Hop P C Q n) a w) : Hop P C Q (n + 1) (.goto l) a w :=
  ⟨rest, by rw [hc.out]; exact hf, h⟩

end Go.Proofs.Ytabcmnoadoebpaa
