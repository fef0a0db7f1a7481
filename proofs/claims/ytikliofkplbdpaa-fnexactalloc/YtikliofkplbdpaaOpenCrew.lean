/- What threads and crews that came in are: their readings opened. -/
import Derived.Test.YtikliofkplbdpaaRows
import Derived.WalkKit
import Derived.ProofKit
import Derived.OpenShut
import Derived.ShutString
import Derived.Test.YtikliofkplbdpaaOpenMem
import Derived.Test.YtikliofkplbdpaaCrewPlain
import Derived.Test.YtikliofkplbdpaaThEq
import Derived.Deep.Slices
namespace Go.Proofs.Ytikliofkplbdpaa
open Go.ChangeShapes Go.WideShapes Go.ChangeAt Go.RowKit
set_option linter.unusedVariables false

theorem row_cells {H : Type} {enc : TypeId × Value → H} {P : Program} {W : World} {fuel : Nat} {t e : TypeId} {cs : List Value} {x : DataW H × List MemPlace} {k : Nat} (ht : P.underlying t = some (.slice e)) (hk : P.cellsOf e = k) (k0 : 0 < k) (h : DataW.trod enc P W 0 (fun _ => true) true fuel t cs = some x) :
    ∃ a len cap, cs = [.slice a len cap] ∧ len ≤ cap ∧ len ≤ maxLen ∧ (len = 0 ∨ ∃ b off, a = some ⟨b, off, none⟩ ∧ b < W.heap.size ∧ ∀ i, i < len → ∃ cs' n d, cs'.length = k ∧ (∀ j (hj : j < cs'.length), W.cell? ⟨b, off + i * k + j, none⟩ = some cs'[j]) ∧ DataW.trod enc P W 0 (fun _ => true) true n e cs' = some d) := by
  rcases Go.Deep.open_slice ht h with ⟨rfl, -⟩ | ⟨a, len, cap, m, n, D, Pl, rfl, -, hl, hm, hmm, -, hx⟩
  · exact ⟨none, 0, 0, rfl, Nat.le_refl _, by simp, .inl rfl⟩
  · have hlm : len ≤ m := by rw [hmm]; simp; exact hl
    refine ⟨some a, len, cap, rfl, hl, by omega, ?_⟩
    by_cases h0 : len = 0
    · exact .inl h0
    · right
      have key : ∀ i, i < len → ∃ cs' d, cs'.length = k ∧ (∀ j (hj : j < cs'.length), W.cell? (a.add (i * k + j)) = some cs'[j]) ∧ DataW.trod enc P W 0 (fun _ => true) true n e cs' = some d := by
        intro i hi
        obtain ⟨cs', h1, h2⟩ := hx i (by omega)
        rw [hk] at h1
        obtain ⟨_, hlen, hcell⟩ := World.cells?_some h1
        refine ⟨cs', _, hlen, fun j hj => ?_, h2⟩
        have := hcell j (by omega)
        rw [Go.Deep.add_add] at this
        rw [this]
        exact List.getElem?_eq_getElem hj
      obtain ⟨cs0, d0, l0, c0, -⟩ := key 0 (by omega)
      have hfirst := c0 0 (by omega)
      obtain ⟨b, off, spot⟩ := a
      have hspot : spot = none := by simpa [Addr.add] using World.cell?_spot hfirst
      subst hspot
      refine ⟨b, off, rfl, ?_, fun i hi => ?_⟩
      · rw [Go.WideShapes.add_plain] at hfirst
        by_cases hlt : b < W.heap.size
        · exact hlt
        · simp [World.cell?, hlt] at hfirst
      · obtain ⟨cs', d, q1, q2, q3⟩ := key i hi
        refine ⟨cs', n, d, q1, fun j hj => ?_, q3⟩
        have := q2 j hj
        rwa [Go.WideShapes.add_plain, ← Nat.add_assoc] at this
theorem list4 {α : Type} {cs : List α} (h : cs.length = 4) : ∃ c0 c1 c2 c3, cs = [c0, c1, c2, c3] := by
  match cs, h with
  | [c0, c1, c2, c3], _ => exact ⟨c0, c1, c2, c3, rfl⟩
theorem list10 {α : Type} {cs : List α} (h : cs.length = 10) : ∃ c0 c1 c2 c3 c4 c5 c6 c7 c8 c9, cs = [c0, c1, c2, c3, c4, c5, c6, c7, c8, c9] := by
  match cs, h with
  | [c0, c1, c2, c3, c4, c5, c6, c7, c8, c9], _ => exact ⟨c0, c1, c2, c3, c4, c5, c6, c7, c8, c9, rfl⟩
def CWf (c : Cl) : Prop := ∀ z ∈ [c.k, c.a, c.x, c.pc, c.p, c.c, c.w, c.r, c.v], (Lit.int .i64 z).wf = true
def callVs (c : Cl) : List Value := [.int .i64 c.k, .int .i64 c.a, .int .i64 c.x, .int .i64 c.pc, .int .i64 c.p, .int .i64 c.c, .int .i64 c.w, .int .i64 c.r, .int .i64 c.v, .bool c.d]
theorem at10_of {W : World} {b o : Nat} {c : Cl} {cs : List Value} (e : cs = callVs c) (h : ∀ j (hj : j < cs.length), W.cell? ⟨b, o + j, none⟩ = some cs[j]) : At10 W b o c := by
  subst e
  exact ⟨h 0 (by simp [callVs]), h 1 (by simp [callVs]), h 2 (by simp [callVs]), h 3 (by simp [callVs]), h 4 (by simp [callVs]), h 5 (by simp [callVs]), h 6 (by simp [callVs]), h 7 (by simp [callVs]), h 8 (by simp [callVs]), h 9 (by simp [callVs])⟩
set_option maxRecDepth 100000 in
theorem open_introwN {H : Type} {enc : TypeId × Value → H} {W : World} {fuel : Nat} {cs : List Value} {x : DataW H × List MemPlace} (h : DataW.trod enc Try.prog W 0 (fun _ => true) true fuel 22 cs = some x) :
    ∃ v xs, cs = [v] ∧ IntsIn W v xs ∧ xs.length ≤ maxLen ∧ ∀ z ∈ xs, (Lit.int .i64 z).wf = true := by
  obtain ⟨v, xs, rfl, h1, h2, h3⟩ := open_introw h
  obtain ⟨a, len, cap, e, hl, -⟩ := row_cells Try.underlying22 cells3 (by omega) h
  obtain ⟨a', cap', rfl, h4⟩ := h1
  simp at e
  obtain ⟨rfl, rfl, rfl⟩ := e
  exact ⟨_, xs, rfl, ⟨⟨_, _, rfl, h4⟩, _, _, rfl, trivial⟩, h2, h3⟩
def TWf (t : Th) : Prop := (∀ c ∈ t.cs, CWf c) ∧ (Lit.int .i64 t.at_).wf = true ∧ (∀ z ∈ t.bs, (Lit.int .i64 z).wf = true) ∧ ∀ z ∈ t.es, (Lit.int .i64 z).wf = true
def ThLim (t : Th) : Prop := t.cs.length ≤ 9223372036854775807 ∧ t.bs.length ≤ 9223372036854775807 ∧ t.es.length ≤ 9223372036854775807
theorem array5 {α : Type} {cs : Array α} (h : cs.size = 5) : ∃ c0 c1 c2 c3 c4, cs = #[c0, c1, c2, c3, c4] := by
  obtain ⟨l⟩ := cs
  match l, h with
  | [c0, c1, c2, c3, c4], _ => exact ⟨c0, c1, c2, c3, c4, rfl⟩
def CwLim (C : Cw) : Prop := C.m.length ≤ 9223372036854775807 ∧ C.ts.length ≤ 9223372036854775807 ∧ TsLim C.ts
def CwWf (C : Cw) : Prop := (Lit.int .i64 C.what).wf = true ∧ (Lit.int .i64 C.size).wf = true ∧ (Lit.int .i64 C.clock).wf = true ∧ (∀ z ∈ C.m, (Lit.int .i64 z).wf = true) ∧ ∀ t ∈ C.ts, TWf t

end Go.Proofs.Ytikliofkplbdpaa
