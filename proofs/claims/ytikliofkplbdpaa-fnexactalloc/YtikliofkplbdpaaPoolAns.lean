/- What a function of pools answers; what a walk of a law needs besides. -/
import Derived.Test.YtikliofkplbdpaaRows
import Derived.WalkKit
import Derived.ProofKit
import Derived.OpenShut
import Derived.ShutString
import Derived.Test.YtikliofkplbdpaaPoolRows
namespace Go.Proofs.Ytikliofkplbdpaa
open Go.ChangeShapes Go.WideShapes Go.ChangeAt Go.RowKit
set_option linter.unusedVariables false

def PlS1 (P : Pl) (B : Bool) (w : World) (e : Ending) (w' : World) : Prop :=
  ∃ f p l v, e = .returned (.tuple #[.agg #[f, .int .i64 P.a, p, l, v], .bool B]) ∧ PlQ w.heap.size w'.heap.size f p l v P w' ∧ Below w.heap.size w w'
def PlI1 (P : Pl) (B : Bool) (w : World) (e : Ending) (w' : World) : Prop :=
  ∃ f p l v, e = .returned (.tuple #[.agg #[f, .int .i64 P.a, p, l, v], .bool B]) ∧ PlR w.heap.size w'.heap.size f p l v P w' ∧ Below w.heap.size w w'
def PlS2 (P : Pl) (N : Int) (B : Bool) (w : World) (e : Ending) (w' : World) : Prop :=
  ∃ f p l v, e = .returned (.tuple #[.agg #[f, .int .i64 P.a, p, l, v], .int .i64 N, .bool B]) ∧ PlQ w.heap.size w'.heap.size f p l v P w' ∧ Below w.heap.size w w'
def PlI2 (P : Pl) (N : Int) (B : Bool) (w : World) (e : Ending) (w' : World) : Prop :=
  ∃ f p l v, e = .returned (.tuple #[.agg #[f, .int .i64 P.a, p, l, v], .int .i64 N, .bool B]) ∧ PlR w.heap.size w'.heap.size f p l v P w' ∧ Below w.heap.size w w'
def PlS3 (P : Pl) (F : List Int) (w : World) (e : Ending) (w' : World) : Prop :=
  ∃ f p l v u, e = .returned (.tuple #[.agg #[f, .int .i64 P.a, p, l, v], u]) ∧ PlQ w.heap.size w'.heap.size f p l v P w' ∧ Row w' w.heap.size w'.heap.size u (ints F) ∧ Below w.heap.size w w'
def PlI3 (P : Pl) (F : List Int) (w : World) (e : Ending) (w' : World) : Prop :=
  ∃ f p l v u m, e = .returned (.tuple #[.agg #[f, .int .i64 P.a, p, l, v], u]) ∧ PlR m w'.heap.size f p l v P w' ∧ Row w' w.heap.size m u (ints F) ∧ w.heap.size ≤ m ∧ m ≤ w'.heap.size ∧ Below w.heap.size w w'
theorem PlS1.none {w w' : World} {e : Ending} (h : e = .returned (.tuple #[.agg #[.slice none 0 0, .int .i64 0, .slice none 0 0, .slice none 0 0, .slice none 0 0], .bool false]) ∧ Below w.heap.size w w') : PlS1 plZero false w e w' := ⟨_, _, _, _, h.1, (PlR.zero _ _ h.2.size _).toQ, h.2⟩
theorem PlI1.none {w w' : World} {e : Ending} (h : e = .returned (.tuple #[.agg #[.slice none 0 0, .int .i64 0, .slice none 0 0, .slice none 0 0, .slice none 0 0], .bool false]) ∧ Below w.heap.size w w') : PlI1 plZero false w e w' := ⟨_, _, _, _, h.1, PlR.zero _ _ h.2.size _, h.2⟩
theorem PlS2.none {w w' : World} {e : Ending} (h : e = .returned (.tuple #[.agg #[.slice none 0 0, .int .i64 0, .slice none 0 0, .slice none 0 0, .slice none 0 0], .int .i64 0, .bool false]) ∧ Below w.heap.size w w') : PlS2 plZero 0 false w e w' := ⟨_, _, _, _, h.1, (PlR.zero _ _ h.2.size _).toQ, h.2⟩
theorem PlI2.none {w w' : World} {e : Ending} (h : e = .returned (.tuple #[.agg #[.slice none 0 0, .int .i64 0, .slice none 0 0, .slice none 0 0, .slice none 0 0], .int .i64 0, .bool false]) ∧ Below w.heap.size w w') : PlI2 plZero 0 false w e w' := ⟨_, _, _, _, h.1, PlR.zero _ _ h.2.size _, h.2⟩
theorem PlS3.none {w w' : World} {e : Ending} (h : e = .returned (.tuple #[.agg #[.slice none 0 0, .int .i64 0, .slice none 0 0, .slice none 0 0, .slice none 0 0], .slice none 0 0]) ∧ Below w.heap.size w w') : PlS3 plZero [] w e w' := ⟨_, _, _, _, _, h.1, (PlR.zero _ _ h.2.size _).toQ, Row.size0 _ _ _, h.2⟩
theorem PlI3.none {w w' : World} {e : Ending} (h : e = .returned (.tuple #[.agg #[.slice none 0 0, .int .i64 0, .slice none 0 0, .slice none 0 0, .slice none 0 0], .slice none 0 0]) ∧ Below w.heap.size w w') : PlI3 plZero [] w e w' := ⟨_, _, _, _, _, w.heap.size, h.1, PlR.zero _ _ h.2.size _, Row.size0 _ _ _, Nat.le_refl _, h.2.size, h.2⟩
theorem eq_intB (w : World) (l1 h1 l2 h2 : Nat) (v1 v2 : Value) (ps : List Int) (hn : ps.length ≤ 4194304) (r1 : Row w l1 h1 v1 (ints ps)) (r2 : Row w l2 h2 v2 (ints ps)) :
    Calls Try.prog 24 #[v1, v2] w fun e w' => e = .returned (.bool true) ∧ Below w.heap.size w w' :=
  (eq_int w l1 h1 l2 h2 v1 v2 ps hn r1 r2).mono fun _ _ ⟨h, n, e⟩ => ⟨h, by rw [e]; exact below_drewN (Below.refl _ _) n⟩
theorem Sv.front2 {w W : World} {cs : List (Nat × Nat × Value)} {a b c : Nat × Nat × (World → Prop)} {rs : List (Nat × Nat × (World → Prop))} (h : Sv w cs (a :: b :: c :: rs) W) : Sv w cs (c :: a :: b :: rs) W :=
  h.less (fun _ h => h) (fun x hx => by simp only [List.mem_cons] at hx ⊢; rcases hx with h | h | h | h <;> simp [h])

end Go.Proofs.Ytikliofkplbdpaa
