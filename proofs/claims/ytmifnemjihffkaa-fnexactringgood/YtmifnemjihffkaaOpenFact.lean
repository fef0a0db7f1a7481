/- Facts and rows that came in, opened. -/
import Derived.Test.YtmifnemjihffkaaRows
import Derived.WalkKit
import Derived.ProofKit
import Derived.OpenShut
import Derived.ShutString
import Derived.Test.YtmifnemjihffkaaFactRows
import Derived.Test.YtmifnemjihffkaaOpenCrew
namespace Go.Proofs.Ytmifnemjihffkaa
open Go.ChangeShapes Go.WideShapes Go.ChangeAt Go.RowKit
set_option linter.unusedVariables false

def FWf (c : Fc) : Prop := ∀ z ∈ [c.th, c.k, c.a, c.r, c.v, c.t, c.b, c.e], (Lit.int .i64 z).wf = true
def factVs (c : Fc) : List Value := [.int .i64 c.th, .int .i64 c.k, .int .i64 c.a, .int .i64 c.r, .int .i64 c.v, .int .i64 c.t, .int .i64 c.b, .int .i64 c.e]
theorem cellsFact : Try.prog.cellsOf 42 = 8 := by kernel_rfl
theorem list8 {α : Type} {cs : List α} (h : cs.length = 8) : ∃ c0 c1 c2 c3 c4 c5 c6 c7, cs = [c0, c1, c2, c3, c4, c5, c6, c7] := by
  match cs, h with
  | [c0, c1, c2, c3, c4, c5, c6, c7], _ => exact ⟨c0, c1, c2, c3, c4, c5, c6, c7, rfl⟩
set_option maxRecDepth 100000 in
theorem open_factcells {H : Type} {enc : TypeId × Value → H} {W : World} {fuel : Nat} {cs : List Value} {x : DataW H × List MemPlace} (h : DataW.trod enc Try.prog W 0 (fun _ => true) true fuel 42 cs = some x) (hl : cs.length = 8) :
    ∃ c : Fc, cs = factVs c ∧ FWf c := by
  obtain ⟨c0, c1, c2, c3, c4, c5, c6, c7, rfl⟩ := list8 hl
  obtain ⟨n0, y0, g0⟩ := field_of Try.underlying42 h 0 _ rfl
  obtain ⟨z0, e0, f0⟩ := open_intcell g0
  obtain ⟨n1, y1, g1⟩ := field_of Try.underlying42 h 1 _ rfl
  obtain ⟨z1, e1, f1⟩ := open_intcell g1
  obtain ⟨n2, y2, g2⟩ := field_of Try.underlying42 h 2 _ rfl
  obtain ⟨z2, e2, f2⟩ := open_intcell g2
  obtain ⟨n3, y3, g3⟩ := field_of Try.underlying42 h 3 _ rfl
  obtain ⟨z3, e3, f3⟩ := open_intcell g3
  obtain ⟨n4, y4, g4⟩ := field_of Try.underlying42 h 4 _ rfl
  obtain ⟨z4, e4, f4⟩ := open_intcell g4
  obtain ⟨n5, y5, g5⟩ := field_of Try.underlying42 h 5 _ rfl
  obtain ⟨z5, e5, f5⟩ := open_intcell g5
  obtain ⟨n6, y6, g6⟩ := field_of Try.underlying42 h 6 _ rfl
  obtain ⟨z6, e6, f6⟩ := open_intcell g6
  obtain ⟨n7, y7, g7⟩ := field_of Try.underlying42 h 7 _ rfl
  obtain ⟨z7, e7, f7⟩ := open_intcell g7
  simp [cells3] at e0 e1 e2 e3 e4 e5 e6 e7
  subst e0 e1 e2 e3 e4 e5 e6 e7
  refine ⟨⟨_, _, _, _, _, _, _, _⟩, rfl, ?_⟩
  intro z hz
  simp at hz
  rcases hz with rfl | rfl | rfl | rfl | rfl | rfl | rfl | rfl
  all_goals assumption
set_option maxRecDepth 100000 in
theorem open_Fact {H : Type} {enc : TypeId × Value → H} {W : World} {b0 : Nat} {v : Value} {d : DataW H} {p : List MemPlace} (hv : Value.okWide Try.prog W .any b0 42 v) (h : DataW.Trod enc Try.prog W 0 (fun _ => true) true 42 v d p) :
    ∃ c : Fc, v = .agg #[.int .i64 c.th, .int .i64 c.k, .int .i64 c.a, .int .i64 c.r, .int .i64 c.v, .int .i64 c.t, .int .i64 c.b, .int .i64 c.e] ∧ FWf c := by
  obtain ⟨cs, rfl, hsz⟩ := okWide_struct Try.underlying42 hv
  obtain ⟨fuel, hf⟩ := h
  obtain ⟨l⟩ := cs
  have hl : l.length = 8 := (hsz.trans cellsFact)
  obtain ⟨c, hc, hw⟩ := open_factcells hf (by simpa [Value.cells] using hl)
  simp [Value.cells] at hc
  subst hc
  exact ⟨c, rfl, hw⟩
theorem factAt_of {W : World} {g o : Nat} {c : Fc} {cs : List Value} (e : cs = factVs c) (h : ∀ j (hj : j < cs.length), W.cell? ⟨g, o + j, none⟩ = some cs[j]) : FactAt W g o c := by
  subst e
  exact ⟨h 0 (by simp [factVs]), h 1 (by simp [factVs]), h 2 (by simp [factVs]), h 3 (by simp [factVs]), h 4 (by simp [factVs]), h 5 (by simp [factVs]), h 6 (by simp [factVs]), h 7 (by simp [factVs])⟩
theorem open_factrow {H : Type} {enc : TypeId × Value → H} {W : World} {fuel : Nat} {cs : List Value} {x : DataW H × List MemPlace} (h : DataW.trod enc Try.prog W 0 (fun _ => true) true fuel 51 cs = some x) :
    ∃ v L, cs = [v] ∧ FactsIn W v L ∧ L.length ≤ maxLen ∧ ∀ c ∈ L, FWf c := by
  obtain ⟨a, len, cap, rfl, hl, hm, hx⟩ := row_cells Try.underlying51 cellsFact (by omega) h
  rcases hx with rfl | ⟨b, off, rfl, hb, hx⟩
  · exact ⟨_, [], rfl, ⟨a, cap, rfl, Nat.zero_le _, .inl rfl⟩, by simp, by simp⟩
  · have hx' : ∀ i, i < len → ∃ c : Fc, FactAt W b (off + i * 8) c ∧ FWf c := fun i hi => by
      obtain ⟨cs', n, d, q1, q2, q3⟩ := hx i hi
      obtain ⟨c, e, hw⟩ := open_factcells q3 q1
      exact ⟨c, factAt_of e q2, hw⟩
    obtain ⟨q, hq⟩ := Go.Deep.choose_lt hx'
    refine ⟨_, (List.range len).map q, rfl, ⟨_, cap, by simp, by simpa using hl, .inr ⟨b, off, rfl, hb, fun j hj => ?_⟩⟩, by simp; omega, ?_⟩
    · simp at hj
      simpa using (hq j hj).1
    · intro c hc
      simp only [List.mem_map, List.mem_range] at hc
      obtain ⟨i, hi, rfl⟩ := hc
      exact (hq i hi).2
set_option maxRecDepth 100000 in
theorem open_FactS {H : Type} {enc : TypeId × Value → H} {W : World} {b0 : Nat} {v : Value} {d : DataW H} {p : List MemPlace} (hv : Value.okWide Try.prog W .any b0 51 v) (h : DataW.Trod enc Try.prog W 0 (fun _ => true) true 51 v d p) :
    ∃ (v' : Value) (L : List Fc), v = v' ∧ FactsIn W v' L ∧ L.length ≤ 9223372036854775807 ∧ ∀ c ∈ L, FWf c := by
  obtain ⟨a, n, c, rfl⟩ := okWide_slice Try.underlying51 hv
  obtain ⟨fuel, hf⟩ := h
  obtain ⟨v', L, e, h1, h2, h3⟩ := open_factrow hf
  simp [Value.cells] at e
  exact ⟨v', L, e, h1, h2, h3⟩
set_option maxRecDepth 100000 in
theorem open_Ints {H : Type} {enc : TypeId × Value → H} {W : World} {b0 : Nat} {v : Value} {d : DataW H} {p : List MemPlace} (hv : Value.okWide Try.prog W .any b0 22 v) (h : DataW.Trod enc Try.prog W 0 (fun _ => true) true 22 v d p) :
    ∃ (v' : Value) (L : List Int), v = v' ∧ IntsIn W v' L ∧ L.length ≤ 9223372036854775807 ∧ ∀ z ∈ L, (Lit.int .i64 z).wf = true := by
  obtain ⟨a, n, c, rfl⟩ := okWide_slice Try.underlying22 hv
  obtain ⟨fuel, hf⟩ := h
  obtain ⟨v', L, e, h1, h2, h3⟩ := open_introwN hf
  simp [Value.cells] at e
  exact ⟨v', L, e, h1, h2, h3⟩

end Go.Proofs.Ytmifnemjihffkaa
