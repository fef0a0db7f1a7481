/- What epochs that came in are: their readings opened. -/
import Derived.Test.YtdcnakpkmgepgaaRows
import Derived.WalkKit
import Derived.ProofKit
import Derived.OpenShut
import Derived.ShutString
import Derived.Test.YtdcnakpkmgepgaaOpenMem
import Derived.Test.YtdcnakpkmgepgaaAgePlain
import Derived.Deep.SlicePairs
namespace Go.Proofs.Ytdcnakpkmgepgaa
open Go.ChangeShapes Go.WideShapes Go.ChangeAt Go.RowKit
set_option linter.unusedVariables false

theorem addr_add (g o i : Nat) : (⟨g, o, none⟩ : Addr).add i = ⟨g, o + i, none⟩ := by unfold Addr.add; split <;> simp_all
theorem cells2G : Try.prog.cellsOf 94 = 2 := by kernel_rfl
theorem cellsGS : Try.prog.cellsOf 23 = 1 := by kernel_rfl
set_option maxRecDepth 100000 in
theorem open_gonerow {H : Type} {enc : TypeId × Value → H} {W : World} {fuel : Nat} {cs : List Value} {x : DataW H × List MemPlace} (h : DataW.trod enc Try.prog W 0 (fun _ => true) true fuel 23 cs = some x) :
    ∃ v L, cs = [v] ∧ PIn W v L ∧ L.length ≤ maxLen := by
  rcases Go.Deep.open_slice_pairs Try.underlying23 Try.underlying94 cells2G rfl rfl cells3 cells3 h with ⟨rfl, -⟩ | ⟨a, len, cap, m, n, V0, V1, D0, D1, P0, P1, rfl, -, hl, hm, hmm, -, hx⟩
  · exact ⟨_, [], rfl, ⟨none, 0, rfl, Nat.le_refl _, .inl rfl⟩, by simp⟩
  · have hlm : len ≤ m := by rw [hmm]; simp; exact hl
    have key : ∀ i, i < len → ∃ p : Int × Int, W.cell? (a.add (i * 2)) = some (.int .i64 p.1) ∧ W.cell? (a.add (i * 2 + 1)) = some (.int .i64 p.2) := by
      intro i hi
      obtain ⟨h1, h2, h3, h4⟩ := hx i (by omega)
      obtain ⟨z0, e0, -⟩ := open_intcell h3
      obtain ⟨z1, e1, -⟩ := open_intcell h4
      simp at e0 e1
      exact ⟨(z0, z1), by rw [h1, e0], by rw [h2, e1]⟩
    obtain ⟨q, hq⟩ := Go.Deep.choose_lt key
    refine ⟨_, (List.range len).map q, rfl, ⟨some a, cap, by simp, by simpa using hl, ?_⟩, by simp; omega⟩
    by_cases h0 : len = 0
    · left; simp [h0]
    · right
      obtain ⟨b, off, rfl, -⟩ := ints_at (w := W) (a := a) (k := .i64) (zs := [(q 0).1]) (fun i hi => by
        simp at hi
        subst hi
        simpa using (hq 0 (by omega)).1) (by simp)
      refine ⟨b, off, rfl, ?_, fun j hj => ?_⟩
      · have h1 := (hq 0 (by omega)).1
        by_cases hlt : b < W.heap.size
        · exact hlt
        · rw [addr_add] at h1
          simp [World.cell?, hlt] at h1
      · simp at hj
        have h1 := hq j hj
        rw [addr_add, addr_add] at h1
        simpa [Nat.add_assoc] using h1
theorem array3 {α : Type} {cs : Array α} (h : cs.size = 3) : ∃ c0 c1 c2, cs = #[c0, c1, c2] := by
  obtain ⟨l⟩ := cs
  match l, h with
  | [c0, c1, c2], _ => exact ⟨c0, c1, c2, rfl⟩
theorem cellsAges : Try.prog.cellsOf 25 = 3 := by kernel_rfl
set_option maxRecDepth 100000 in
theorem open_Ages {H : Type} {enc : TypeId × Value → H} {W : World} {b0 : Nat} {v : Value} {d : DataW H} {p : List MemPlace} (hv : Value.okWide Try.prog W .any b0 25 v) (h : DataW.Trod enc Try.prog W 0 (fun _ => true) true 25 v d p) :
    ∃ (a : Int) (pv lv : Value) (ps : List Int) (L : List (Int × Int)), v = .agg #[.int .i64 a, pv, lv] ∧ (Lit.int .i64 a).wf = true ∧ AIn W pv lv ps L ∧ ps.length ≤ maxLen ∧ L.length ≤ maxLen := by
  obtain ⟨cs, rfl, hsz⟩ := okWide_struct Try.underlying25 hv
  obtain ⟨c0, c1, c2, rfl⟩ := array3 (hsz.trans cellsAges)
  obtain ⟨fuel, hf⟩ := h
  obtain ⟨n0, y0, g0⟩ := field_of Try.underlying25 hf 0 _ rfl
  obtain ⟨z0, e0, f0⟩ := open_intcell g0
  obtain ⟨n1, y1, g1⟩ := field_of Try.underlying25 hf 1 _ rfl
  obtain ⟨v1, xs, e1, r1, l1, -⟩ := open_introw g1
  obtain ⟨n2, y2, g2⟩ := field_of Try.underlying25 hf 2 _ rfl
  obtain ⟨v2, L, e2, r2, l2⟩ := open_gonerow g2
  simp [Value.cells, cells3] at e0
  simp [Value.cells, cells22] at e1
  simp [Value.cells, cellsGS] at e2
  subst e0 e1 e2
  exact ⟨_, _, _, xs, L, rfl, f0, ⟨r1, r2⟩, l1, l2⟩

end Go.Proofs.Ytdcnakpkmgepgaa
