/- Whether a thread is as it must be, by the program. -/
import Derived.Test.YtehgacidfepomaaRows
import Derived.WalkKit
import Derived.ProofKit
import Derived.OpenShut
import Derived.ShutString
import Derived.Test.YtehgacidfepomaaCrewTimes
namespace Go.Proofs.Ytehgacidfepomaa
open Go.ChangeShapes Go.WideShapes Go.ChangeAt Go.RowKit
set_option linter.unusedVariables false

def CallOk (what clock at_ : Int) (i : Nat) (c : Cl) (b e : Int) : Prop := (c.d = true ↔ (i : Int) < at_) ∧ (at_ < (i : Int) → c = begC what c) ∧ timesB clock c b e = true
def ThOk (what clock : Int) (t : Th) : Prop := t.cs.length ≤ 12 ∧ t.bs.length = t.cs.length ∧ t.es.length = t.cs.length ∧ 0 ≤ t.at_ ∧ t.at_ ≤ (t.cs.length : Int) ∧ ∀ i (h : i < t.cs.length), CallOk what clock t.at_ i t.cs[i] (t.bs.getD i 0) (t.es.getD i 0)
noncomputable def thB (what clock : Int) (t : Th) : Bool := @decide (ThOk what clock t) (Classical.propDecidable _)
theorem thB_yes {what clock : Int} {t : Th} (h : ThOk what clock t) : thB what clock t = true := @decide_eq_true _ (Classical.propDecidable _) h
theorem thB_no {what clock : Int} {t : Th} (h : ¬ ThOk what clock t) : thB what clock t = false := @decide_eq_false _ (Classical.propDecidable _) h
theorem ints_cell {w : World} {v : Value} {xs : List Int} (h : IntsIn w v xs) (h0 : 0 < xs.length) : ∃ b off cap, v = .slice (some ⟨b, off, none⟩) xs.length cap ∧ b < w.heap.size ∧ ∀ j (hj : j < xs.length), w.cell? ⟨b, off + j, none⟩ = some (.int .i64 xs[j]) := by
  obtain ⟨⟨a, cap, rfl, h⟩, -⟩ := h
  rcases h with rfl | ⟨b, off, rfl, h1, h2⟩
  · exact absurd h0 (by simp)
  · exact ⟨b, off, cap, rfl, h1, h2⟩
theorem calls_cell {w : World} {v : Value} {xs : List Cl} (h : CallsIn w v xs) (h0 : 0 < xs.length) : ∃ b off cap, v = .slice (some ⟨b, off, none⟩) xs.length cap ∧ b < w.heap.size ∧ ∀ j (hj : j < xs.length), At10 w b (off + j * 10) xs[j] := by
  obtain ⟨a, cap, rfl, -, h⟩ := h
  rcases h with rfl | ⟨b, off, rfl, h1, h2⟩
  · exact absurd h0 (by simp)
  · exact ⟨b, off, cap, rfl, h1, h2⟩
/- the tests ahead of the loop -/
theorem impl_thread_len (what clock : Int) (a0 a2 a3 : Option Addr) (n0 n2 n3 d0 d2 d3 : Nat) (at_ : Int) (w : World) (hn0 : n0 ≤ 4194304) (hn2 : n2 ≤ 4194304) (hn3 : n3 ≤ 4194304) (h : ¬ (n0 ≤ 12 ∧ n2 = n0 ∧ n3 = n0 ∧ 0 ≤ at_ ∧ at_ ≤ (n0 : Int))) :
    Calls Try.prog 46 #[.int .i64 what, .int .i64 clock, .agg #[.slice a0 n0 d0, .int .i64 at_, .slice a2 n2 d2, .slice a3 n3 d3]] w fun x w' => x = .returned (.bool false) ∧ Below w.heap.size w w' := by
  by_cases h1 : n0 ≤ 12
  · by_cases h2 : n2 = n0
    · subst h2
      by_cases h3 : n3 = n2
      · subst h3
        by_cases h4 : 0 ≤ at_
        · have h5 : (n3 : Int) < at_ := by omega
          clear h
          go_enter Try.func46, Try.ntmps46
          go_wp2
          go_ret
          exact ⟨rfl, (Below.refl _ _).alloc (Nat.le_refl _) _⟩
        · have h5 : at_ < 0 := by omega
          clear h h4
          go_enter Try.func46, Try.ntmps46
          go_wp2
          go_ret
          exact ⟨rfl, (Below.refl _ _).alloc (Nat.le_refl _) _⟩
      · have e3 : ((n3 : Int) != (n2 : Int)) = true := by simp; omega
        clear h h3
        go_enter Try.func46, Try.ntmps46
        go_wp2
        go_ret
        exact ⟨rfl, (Below.refl _ _).alloc (Nat.le_refl _) _⟩
    · have e2 : ((n2 : Int) != (n0 : Int)) = true := by simp; omega
      clear h h2
      go_enter Try.func46, Try.ntmps46
      go_wp2
      go_ret
      exact ⟨rfl, (Below.refl _ _).alloc (Nat.le_refl _) _⟩
  · have e1 : (12 : Int) < (n0 : Int) := by omega
    clear h h1
    go_enter Try.func46, Try.ntmps46
    go_wp2
    go_ret
    exact ⟨rfl, (Below.refl _ _).alloc (Nat.le_refl _) _⟩

end Go.Proofs.Ytehgacidfepomaa
