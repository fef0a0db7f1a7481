/- Lines of the model and of the program: the rows of their parts. -/
import Derived.Test.YtjcbgegdccaoaagRows
import Derived.WalkKit
import Derived.ProofKit
import Derived.OpenShut
import Derived.ShutString
import Derived.Test.YtjcbgegdccaoaagCutFns
namespace Go.Proofs.Ytjcbgegdccaoaag
open Go.ChangeShapes Go.WideShapes Go.ChangeAt Go.RowKit
set_option linter.unusedVariables false

def linesAll (s : ByteArray) : List ByteArray := if (s.extract (cutTo s 10 s.size).2 s.size).toList.isEmpty then (cutTo s 10 s.size).1 else cutAll s 10
theorem linesAll_len (s : ByteArray) : (linesAll s).length ≤ s.size + 1 := by
  have h1 := cutAll_len s 10
  have h2 := cutTo_bd s 10 s.size
  unfold linesAll
  split <;> omega
theorem row_split {w : World} {lo e : Nat} {v : Value} {n : Nat} {init : List ByteArray} {last : ByteArray} (h : w.ownsRow lo e 1 v n ((init ++ [last]).map Value.string)) :
    ∃ g cap, v = .slice (some ⟨g, 0, none⟩) (init.length + 1) cap ∧ init.length + 1 ≤ cap ∧ cap ≤ maxLen ∧ w.cell? ⟨g, init.length, none⟩ = some (.string last) ∧
      Row w lo w.heap.size (.slice (some ⟨g, 0, none⟩) init.length cap) (init.map Value.string) ∧ Row w lo w.heap.size (.slice (some ⟨g, 0, none⟩) (init.length + 1) cap) ((init ++ [last]).map Value.string) := by
  rcases own_cells h with ⟨_, _, hx⟩ | ⟨g, cap, rfl, h1, h2, h3, h4, h5, h6, h7⟩
  · simp at hx
  · have hn : n = init.length + 1 := by rw [← h5]; simp
    subst hn
    refine ⟨g, cap, rfl, h3, h4, ?_, ⟨_, cap, by rw [List.length_map], .inr ⟨g, rfl, h1, h2, fun j hj => ?_, h7⟩⟩, ⟨_, cap, by simp, .inr ⟨g, rfl, h1, h2, h6, h7⟩⟩⟩
    · rw [h6 init.length (by simp)]; simp
    · rw [h6 j (by simp at hj ⊢; omega)]
      simp at hj
      simp [hj]

set_option maxRecDepth 100000 in
theorem spec_Lines (s : ByteArray) (w : World) (hs : s.size ≤ 1048576) :
    Calls Try.prog 19 #[.string s] w fun e w' => ∃ v, e = .returned v ∧ Row w' w.heap.size w'.heap.size v ((linesAll s).map Value.string) ∧ Below w.heap.size w w' := by
  have h : ∀ W : World, Calls Try.prog 26 #[.string s, .int .u8 10] W fun e w' => ∃ v, e = .returned v ∧ w'.ownsRow W.heap.size 9 1 v (cutAll s 10).length ((cutAll s 10).map Value.string) ∧ Below W.heap.size W w' := fun W => spec_cut s 10 W hs
  have hbd := (cutTo_bd s 10 s.size).2
  have HL : Hid (linesAll s = if (s.extract (cutTo s 10 s.size).2 s.size).toList.isEmpty then (cutTo s 10 s.size).1 else (cutTo s 10 s.size).1 ++ [s.extract (cutTo s 10 s.size).2 s.size]) := rfl
  have hc : cutAll s 10 = (cutTo s 10 s.size).1 ++ [s.extract (cutTo s 10 s.size).2 s.size] := rfl
  rw [hc] at h
  generalize (cutTo s 10 s.size).1 = init at h HL hbd
  generalize s.extract (cutTo s 10 s.size).2 s.size = last at h HL
  have H : Hid _ := h
  clear h hc
  by_cases he : last.toList.isEmpty = true
  · have HR : Hid (linesAll s = init) := by have := HL.out; rw [if_pos he] at this; exact this
    clear HL
    go_enter Try.func19, Try.ntmps19
    go_wp2_with (go_at_call 26; refine (H.out _).mono ?_; rintro e w1 ⟨v, rfl, o1, b1⟩; obtain ⟨g, cap, hv, c1, c2, c3, r1, r2⟩ := row_split o1; rw [hv]; clear hv o1)
    go_ret
    exact ⟨_, rfl, by rw [HR.out]; exact r1, b1⟩
  · have he' : last.toList.isEmpty = false := by simpa using he
    have HR : Hid (linesAll s = init ++ [last]) := by have := HL.out; rw [if_neg he] at this; exact this
    clear HL he
    go_enter Try.func19, Try.ntmps19
    go_wp2_with (go_at_call 26; refine (H.out _).mono ?_; rintro e w1 ⟨v, rfl, o1, b1⟩; obtain ⟨g, cap, hv, c1, c2, c3, r1, r2⟩ := row_split o1; rw [hv]; clear hv o1)
    go_ret
    exact ⟨_, rfl, by rw [HR.out]; exact r2, b1⟩

set_option maxRecDepth 100000 in
theorem impl_Lines (s : ByteArray) (w : World) (hs : s.size ≤ 1048576) :
    Calls Try.prog 20 #[.string s] w fun e w' => ∃ v, e = .returned v ∧ Row w' w.heap.size w'.heap.size v ((linesAll s).map Value.string) ∧ Below w.heap.size w w' := by
  have h : ∀ W : World, Calls Try.prog 27 #[.string s, .int .i32 10] W fun e w' => ∃ v, e = .returned v ∧ w'.ownsRow W.heap.size 9 1 v (cutAll s 10).length ((cutAll s 10).map Value.string) ∧ Below W.heap.size W w' := fun W => impl_cut s 10 (by decide) W hs
  have hbd := (cutTo_bd s 10 s.size).2
  have HL : Hid (linesAll s = if (s.extract (cutTo s 10 s.size).2 s.size).toList.isEmpty then (cutTo s 10 s.size).1 else (cutTo s 10 s.size).1 ++ [s.extract (cutTo s 10 s.size).2 s.size]) := rfl
  have hc : cutAll s 10 = (cutTo s 10 s.size).1 ++ [s.extract (cutTo s 10 s.size).2 s.size] := rfl
  rw [hc] at h
  generalize (cutTo s 10 s.size).1 = init at h HL hbd
  generalize s.extract (cutTo s 10 s.size).2 s.size = last at h HL
  have H : Hid _ := h
  clear h hc
  by_cases he : last.toList.isEmpty = true
  · have HR : Hid (linesAll s = init) := by have := HL.out; rw [if_pos he] at this; exact this
    clear HL
    go_enter Try.func20, Try.ntmps20
    go_wp2_with (go_at_call 27; refine (H.out _).mono ?_; rintro e w1 ⟨v, rfl, o1, b1⟩; obtain ⟨g, cap, hv, c1, c2, c3, r1, r2⟩ := row_split o1; rw [hv]; clear hv o1)
    go_ret
    exact ⟨_, rfl, by rw [HR.out]; exact r1, b1⟩
  · have he' : last.toList.isEmpty = false := by simpa using he
    have HR : Hid (linesAll s = init ++ [last]) := by have := HL.out; rw [if_neg he] at this; exact this
    clear HL he
    go_enter Try.func20, Try.ntmps20
    go_wp2_with (go_at_call 27; refine (H.out _).mono ?_; rintro e w1 ⟨v, rfl, o1, b1⟩; obtain ⟨g, cap, hv, c1, c2, c3, r1, r2⟩ := row_split o1; rw [hv]; clear hv o1)
    go_ret
    exact ⟨_, rfl, by rw [HR.out]; exact r2, b1⟩

end Go.Proofs.Ytjcbgegdccaoaag
