/- What pools that came in are: their readings opened. -/
import Derived.Test.YtdcnakpkmgepgaaRows
import Derived.WalkKit
import Derived.ProofKit
import Derived.OpenShut
import Derived.ShutString
import Derived.Test.YtdcnakpkmgepgaaOpenAges
import Derived.Test.YtdcnakpkmgepgaaOpenCrew
import Derived.Test.YtdcnakpkmgepgaaPoolPlain
import Derived.Deep.SlicePairs
namespace Go.Proofs.Ytdcnakpkmgepgaa
open Go.ChangeShapes Go.WideShapes Go.ChangeAt Go.RowKit
set_option linter.unusedVariables false

set_option maxRecDepth 100000 in
theorem open_gonerowN {H : Type} {enc : TypeId × Value → H} {W : World} {fuel : Nat} {cs : List Value} {x : DataW H × List MemPlace} (h : DataW.trod enc Try.prog W 0 (fun _ => true) true fuel 23 cs = some x) :
    ∃ v L, cs = [v] ∧ PIn W v L ∧ L.length ≤ maxLen ∧ ∀ q ∈ L, (Lit.int .i64 q.1).wf = true := by
  rcases Go.Deep.open_slice_pairs Try.underlying23 Try.underlying94 cells2G rfl rfl cells3 cells3 h with ⟨rfl, -⟩ | ⟨a, len, cap, m, n, V0, V1, D0, D1, P0, P1, rfl, -, hl, hm, hmm, -, hx⟩
  · exact ⟨_, [], rfl, ⟨none, 0, rfl, Nat.le_refl _, .inl rfl⟩, by simp, by simp⟩
  · have hlm : len ≤ m := by rw [hmm]; simp; exact hl
    have key : ∀ i, i < len → ∃ p : Int × Int, (W.cell? (a.add (i * 2)) = some (.int .i64 p.1) ∧ W.cell? (a.add (i * 2 + 1)) = some (.int .i64 p.2)) ∧ (Lit.int .i64 p.1).wf = true := by
      intro i hi
      obtain ⟨h1, h2, h3, h4⟩ := hx i (by omega)
      obtain ⟨z0, e0, f0⟩ := open_intcell h3
      obtain ⟨z1, e1, -⟩ := open_intcell h4
      simp at e0 e1
      exact ⟨(z0, z1), ⟨by rw [h1, e0], by rw [h2, e1]⟩, f0⟩
    obtain ⟨q, hqq⟩ := Go.Deep.choose_lt key
    have hq : ∀ i, i < len → W.cell? (a.add (i * 2)) = some (.int .i64 (q i).1) ∧ W.cell? (a.add (i * 2 + 1)) = some (.int .i64 (q i).2) := fun i hi => (hqq i hi).1
    refine ⟨_, (List.range len).map q, rfl, ⟨some a, cap, by simp, by simpa using hl, ?_⟩, by simp; omega, by
      intro z hz
      obtain ⟨i, hi, rfl⟩ := List.mem_map.1 hz
      exact (hqq i (List.mem_range.1 hi)).2⟩
    by_cases h0 : len = 0
    · left; simp [h0]
    · right
      obtain ⟨b, off, rfl, -⟩ := ints_at (w := W) (a := a) (k := .i64) (zs := [(q 0).1]) (fun i hi => by
        simp at hi
        subst hi
        simpa using (hq 0 (by omega)).1) (by simp)
      refine ⟨b, off, rfl, ?_, fun j hj => ?_⟩
      · have h1 := (hq 0 (by omega)).1
        by_cases hlt : b < W.heap.size
        · exact hlt
        · rw [addr_add] at h1
          simp [World.cell?, hlt] at h1
      · simp at hj
        have h1 := hq j hj
        rw [addr_add, addr_add] at h1
        simpa [Nat.add_assoc] using h1
theorem cellsPool : Try.prog.cellsOf 27 = 5 := by kernel_rfl
theorem cellsAg3 : Try.prog.cellsOf 25 = 3 := by kernel_rfl
set_option maxRecDepth 100000 in
theorem open_Pool {H : Type} {enc : TypeId × Value → H} {W : World} {b0 : Nat} {v : Value} {d : DataW H} {p : List MemPlace} (hv : Value.okWide Try.prog W .any b0 27 v) (h : DataW.Trod enc Try.prog W 0 (fun _ => true) true 27 v d p) :
    ∃ (P : Pl) (pf pp pl pv : Value), v = .agg #[pf, .int .i64 P.a, pp, pl, pv] ∧ PlIn W pf pp pl pv P ∧ P.fr.length ≤ maxLen ∧ P.ps.length ≤ maxLen ∧ P.L.length ≤ maxLen ∧ P.lv.length ≤ maxLen ∧ PlWf P := by
  obtain ⟨cs, rfl, hsz⟩ := okWide_struct Try.underlying27 hv
  obtain ⟨c0, c1, c2, c3, c4, rfl⟩ := array5 (hsz.trans cellsPool)
  obtain ⟨fuel, hf⟩ := h
  obtain ⟨n0, y0, g0⟩ := field_of Try.underlying27 hf 0 _ rfl
  obtain ⟨v0, xs0, e0, r0, l0, x0⟩ := open_introwN g0
  obtain ⟨n1, y1, g1⟩ := field_of Try.underlying27 hf 1 _ rfl
  obtain ⟨ma, wa, ha⟩ := field_of Try.underlying25 g1 0 _ rfl
  obtain ⟨za, ea, fa⟩ := open_intcell ha
  obtain ⟨mb, wb, hb⟩ := field_of Try.underlying25 g1 1 _ rfl
  obtain ⟨vb, xsb, eb, rb, lb, xb⟩ := open_introwN hb
  obtain ⟨mc, wc, hc⟩ := field_of Try.underlying25 g1 2 _ rfl
  obtain ⟨vc, Lc, ec, rc, lc, xc⟩ := open_gonerowN hc
  obtain ⟨n2, y2, g2⟩ := field_of Try.underlying27 hf 2 _ rfl
  obtain ⟨v2, xs2, e2, r2, l2, x2⟩ := open_introwN g2
  simp [Value.cells, cells22] at e0 e2
  simp [Value.cells, cells3, cells22, cellsGS, cellsAg3] at ea eb ec
  subst e0 ea eb ec e2
  exact ⟨⟨xs0, _, xsb, Lc, xs2⟩, _, _, _, _, rfl, ⟨r0, ⟨rb.1, rc⟩, r2⟩, l0, lb, lc, l2, x0, xc, x2⟩

end Go.Proofs.Ytdcnakpkmgepgaa
