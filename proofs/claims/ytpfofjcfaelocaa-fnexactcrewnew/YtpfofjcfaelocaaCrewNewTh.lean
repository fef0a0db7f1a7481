/- A new thread, by the program: the four blocks that it makes, in whatever order. -/
import Derived.Test.YtpfofjcfaelocaaRows
import Derived.WalkKit
import Derived.ProofKit
import Derived.OpenShut
import Derived.ShutString
import Derived.Test.YtpfofjcfaelocaaCrewNewMem
import Derived.Deep.LoopGhost
import Derived.Deep.RegionHeld3
import Derived.Deep.DeepCutAuto
import Derived.Deep.CutBlock
namespace Go.Proofs.Ytpfofjcfaelocaa
open Go.ChangeShapes Go.WideShapes Go.ChangeAt Go.RowKit
set_option linter.unusedVariables false

def NewTh (w : World) (n : Nat) (R10 R1 : Array Value) (v : Value) (W : World) : Prop :=
  ∃ m g0 g2 g3, v = .pointer (some ⟨m, 0, none⟩) ∧ (w.heap.size ≤ m ∧ w.heap.size ≤ g0 ∧ w.heap.size ≤ g2 ∧ w.heap.size ≤ g3) ∧ (m ≠ g0 ∧ m ≠ g2 ∧ m ≠ g3 ∧ g0 ≠ g2 ∧ g0 ≠ g3 ∧ g2 ≠ g3) ∧ Below w.heap.size w W ∧ Bx W m #[.slice (some ⟨g0, 0, none⟩) n n, .int .i64 0, .slice (some ⟨g2, 0, none⟩) n n, .slice (some ⟨g3, 0, none⟩) n n] ∧ Bx W g0 R10 ∧ Bx W g2 R1 ∧ Bx W g3 R1
theorem newTh_of {w W : World} {n : Nat} {R10 R1 : Array Value} {m g0 g2 g3 : Nat} (hm : Bx W m #[.slice (some ⟨g0, 0, none⟩) n n, .int .i64 0, .slice (some ⟨g2, 0, none⟩) n n, .slice (some ⟨g3, 0, none⟩) n n]) (h0 : Bx W g0 R10) (h2 : Bx W g2 R1) (h3 : Bx W g3 R1) (b : Below w.heap.size w W)
    (h : w.heap.size ≤ m ∧ w.heap.size ≤ g0 ∧ w.heap.size ≤ g2 ∧ w.heap.size ≤ g3) (k : m ≠ g0 ∧ m ≠ g2 ∧ m ≠ g3 ∧ g0 ≠ g2 ∧ g0 ≠ g3 ∧ g2 ≠ g3) : NewTh w n R10 R1 (.pointer (some ⟨m, 0, none⟩)) W := ⟨m, g0, g2, g3, rfl, h, k, b, hm, h0, h2, h3⟩
section
variable {W1 : World} {s : Nat} {A B C D : Array Value} {Ta Tb Tc Td : TypeId}
theorem ch4_0 (hs : W1.heap.size = s) : Bx ((((W1.alloc (.cells A Ta)).alloc (.cells B Tb)).alloc (.cells C Tc)).alloc (.cells D Td)).drew s A := ((((Bx.newAt A Ta hs.symm).alloc _).alloc _).alloc _).drew
theorem ch4_1 (hs : W1.heap.size = s) : Bx ((((W1.alloc (.cells A Ta)).alloc (.cells B Tb)).alloc (.cells C Tc)).alloc (.cells D Td)).drew (s + 1) B := (((Bx.newAt B Tb (by simp [hs])).alloc _).alloc _).drew
theorem ch4_2 (hs : W1.heap.size = s) : Bx ((((W1.alloc (.cells A Ta)).alloc (.cells B Tb)).alloc (.cells C Tc)).alloc (.cells D Td)).drew (s + 1 + 1) C := ((Bx.newAt C Tc (by simp [hs])).alloc _).drew
theorem ch4_3 (hs : W1.heap.size = s) : Bx ((((W1.alloc (.cells A Ta)).alloc (.cells B Tb)).alloc (.cells C Tc)).alloc (.cells D Td)).drew (s + 1 + 1 + 1) D := (Bx.newAt D Td (by simp [hs])).drew
theorem ch4_b : Below W1.heap.size W1 ((((W1.alloc (.cells A Ta)).alloc (.cells B Tb)).alloc (.cells C Tc)).alloc (.cells D Td)).drew := (((((Below.refl _ _).alloc (Nat.le_refl _) _).alloc (by simp) _).alloc (by simp <;> omega) _).alloc (by simp <;> omega) _).drew
end

end Go.Proofs.Ytpfofjcfaelocaa
