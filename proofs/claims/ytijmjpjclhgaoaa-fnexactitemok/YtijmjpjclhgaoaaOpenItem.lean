/- Items and rows of items that came in, opened. -/
import Derived.Test.YtijmjpjclhgaoaaRows
import Derived.WalkKit
import Derived.ProofKit
import Derived.OpenShut
import Derived.ShutString
import Derived.Test.YtijmjpjclhgaoaaItemRows
import Derived.Test.YtijmjpjclhgaoaaOpenCrew
import Derived.ChangeMaps5
import Derived.ChangeShapes
namespace Go.Proofs.Ytijmjpjclhgaoaa
open Go.ChangeShapes Go.WideShapes Go.ChangeAt Go.RowKit
set_option linter.unusedVariables false

def IWf (c : It) : Prop := (Lit.int .i64 c.f).wf = true
theorem cellsItem : Try.prog.cellsOf 23 = 3 := by kernel_rfl
theorem cellsStr : Try.prog.cellsOf 9 = 1 := by kernel_rfl
set_option maxRecDepth 100000 in
theorem open_strcell {H : Type} {enc : TypeId × Value → H} {W : World} {fuel : Nat} {cs : List Value} {x : DataW H × List MemPlace} (h : DataW.trod enc Try.prog W 0 (fun _ => true) true fuel 9 cs = some x) :
    ∃ s : ByteArray, cs = [.string s] ∧ s.size ≤ 9223372036854775807 := by
  obtain ⟨s, h1, -, h2⟩ := DataW.trod_string Try.underlying9 h
  exact ⟨s, h1, h2⟩
def itemVs (c : It) : List Value := [.string c.k, .string c.v, .int .i64 c.f]
theorem list3 {α : Type} {cs : List α} (h : cs.length = 3) : ∃ c0 c1 c2, cs = [c0, c1, c2] := by
  match cs, h with
  | [c0, c1, c2], _ => exact ⟨c0, c1, c2, rfl⟩
theorem array3 {α : Type} {cs : Array α} (h : cs.size = 3) : ∃ c0 c1 c2, cs = #[c0, c1, c2] := by
  obtain ⟨l⟩ := cs
  match l, h with
  | [c0, c1, c2], _ => exact ⟨c0, c1, c2, rfl⟩
set_option maxRecDepth 100000 in
theorem open_itemcells {H : Type} {enc : TypeId × Value → H} {W : World} {fuel : Nat} {cs : List Value} {x : DataW H × List MemPlace} (h : DataW.trod enc Try.prog W 0 (fun _ => true) true fuel 23 cs = some x) (hl : cs.length = 3) :
    ∃ c : It, cs = itemVs c ∧ ItLim c ∧ IWf c := by
  obtain ⟨c0, c1, c2, rfl⟩ := list3 hl
  obtain ⟨n0, y0, g0⟩ := field_of Try.underlying23 h 0 _ rfl
  obtain ⟨z0, e0, f0⟩ := open_strcell g0
  obtain ⟨n1, y1, g1⟩ := field_of Try.underlying23 h 1 _ rfl
  obtain ⟨z1, e1, f1⟩ := open_strcell g1
  obtain ⟨n2, y2, g2⟩ := field_of Try.underlying23 h 2 _ rfl
  obtain ⟨z2, e2, f2⟩ := open_intcell g2
  simp [cellsStr] at e0 e1
  simp [cells3] at e2
  subst e0 e1 e2
  exact ⟨⟨_, _, _⟩, rfl, ⟨f0, f1⟩, f2⟩
theorem itemAt_of {W : World} {b o : Nat} {c : It} {cs : List Value} (e : cs = itemVs c) (h : ∀ j (hj : j < cs.length), W.cell? ⟨b, o + j, none⟩ = some cs[j]) : ItemAt W b o c := by
  subst e
  exact ⟨h 0 (by simp [itemVs]), h 1 (by simp [itemVs]), h 2 (by simp [itemVs])⟩
set_option maxRecDepth 100000 in
theorem open_itemrow {H : Type} {enc : TypeId × Value → H} {W : World} {fuel : Nat} {cs : List Value} {x : DataW H × List MemPlace} (h : DataW.trod enc Try.prog W 0 (fun _ => true) true fuel 29 cs = some x) :
    ∃ v L, cs = [v] ∧ ItemsIn W v L ∧ L.length ≤ maxLen ∧ (∀ c ∈ L, ItLim c) ∧ ∀ c ∈ L, IWf c := by
  obtain ⟨a, len, cap, rfl, hl, hm, hx⟩ := row_cells Try.underlying29 cellsItem (by omega) h
  rcases hx with rfl | ⟨b, off, rfl, hb, hx⟩
  · exact ⟨_, [], rfl, ⟨a, cap, rfl, Nat.zero_le _, .inl rfl⟩, by simp, by simp, by simp⟩
  · have key : ∀ i, i < len → ∃ c : It, ItemAt W b (off + i * 3) c ∧ ItLim c ∧ IWf c := by
      intro i hi
      obtain ⟨cs', n, d, q1, q2, q3⟩ := hx i hi
      obtain ⟨c, e, lm, wf⟩ := open_itemcells q3 q1
      exact ⟨c, itemAt_of e q2, lm, wf⟩
    obtain ⟨q, hq⟩ := Go.Deep.choose_lt key
    refine ⟨_, (List.range len).map q, rfl, ⟨_, cap, by simp, by simpa using hl, .inr ⟨b, off, rfl, hb, fun j hj => ?_⟩⟩, by simp; omega, ?_, ?_⟩
    · simp at hj
      simpa using (hq j hj).1
    · intro c hc
      simp only [List.mem_map, List.mem_range] at hc
      obtain ⟨i, hi, rfl⟩ := hc
      exact (hq i hi).2.1
    · intro c hc
      simp only [List.mem_map, List.mem_range] at hc
      obtain ⟨i, hi, rfl⟩ := hc
      exact (hq i hi).2.2
set_option maxRecDepth 100000 in
theorem open_Item {H : Type} {enc : TypeId × Value → H} {W : World} {b0 : Nat} {v : Value} {d : DataW H} {p : List MemPlace} (hv : Value.okWide Try.prog W .any b0 23 v) (h : DataW.Trod enc Try.prog W 0 (fun _ => true) true 23 v d p) :
    ∃ c : It, v = .agg #[.string c.k, .string c.v, .int .i64 c.f] ∧ ItLim c ∧ IWf c := by
  obtain ⟨cs, rfl, hsz⟩ := okWide_struct Try.underlying23 hv
  obtain ⟨c0, c1, c2, rfl⟩ := array3 (hsz.trans cellsItem)
  obtain ⟨fuel, hf⟩ := h
  obtain ⟨c, e, h1, h2⟩ := open_itemcells (by simpa [Value.cells] using hf) (by simp)
  simp [itemVs] at e
  obtain ⟨rfl, rfl, rfl⟩ := e
  exact ⟨c, rfl, h1, h2⟩
set_option maxRecDepth 100000 in
theorem open_Str {H : Type} {enc : TypeId × Value → H} {W : World} {b0 : Nat} {v : Value} {d : DataW H} {p : List MemPlace} (hv : Value.okWide Try.prog W .any b0 9 v) (h : DataW.Trod enc Try.prog W 0 (fun _ => true) true 9 v d p) :
    ∃ s : ByteArray, v = .string s ∧ s.size ≤ 9223372036854775807 := by
  obtain ⟨s, rfl, -, -, h3⟩ := Go.ChangeMaps.open_string Try.underlying9 hv h
  exact ⟨s, rfl, h3⟩

end Go.Proofs.Ytijmjpjclhgaoaa
