/- What threads and crews that came in are: their readings opened. -/
import Derived.Test.YtmifnemjihffkaaRows
import Derived.WalkKit
import Derived.ProofKit
import Derived.OpenShut
import Derived.ShutString
import Derived.Test.YtmifnemjihffkaaOpenMem
import Derived.Test.YtmifnemjihffkaaCrewPlain
import Derived.Test.YtmifnemjihffkaaThEq
import Derived.Deep.Slices
namespace Go.Proofs.Ytmifnemjihffkaa
open Go.ChangeShapes Go.WideShapes Go.ChangeAt Go.RowKit
set_option linter.unusedVariables false

theorem row_cells {H : Type} {enc : TypeId × Value → H} {P : Program} {W : World} {fuel : Nat} {t e : TypeId} {cs : List Value} {x : DataW H × List MemPlace} {k : Nat} (ht : P.underlying t = some (.slice e)) (hk : P.cellsOf e = k) (k0 : 0 < k) (h : DataW.trod enc P W 0 (fun _ => true) true fuel t cs = some x) :
    ∃ a len cap, cs = [.slice a len cap] ∧ len ≤ cap ∧ len ≤ maxLen ∧ (len = 0 ∨ ∃ b off, a = some ⟨b, off, none⟩ ∧ b < W.heap.size ∧ ∀ i, i < len → ∃ cs' n d, cs'.length = k ∧ (∀ j (hj : j < cs'.length), W.cell? ⟨b, off + i * k + j, none⟩ = some cs'[j]) ∧ DataW.trod enc P W 0 (fun _ => true) true n e cs' = some d) := by
  rcases Go.Deep.open_slice ht h with ⟨rfl, -⟩ | ⟨a, len, cap, m, n, D, Pl, rfl, -, hl, hm, hmm, -, hx⟩
  · exact ⟨none, 0, 0, rfl, Nat.le_refl _, by simp, .inl rfl⟩
  · have hlm : len ≤ m := by rw [hmm]; simp; exact hl
    refine ⟨some a, len, cap, rfl, hl, by omega, ?_⟩
    by_cases h0 : len = 0
    · exact .inl h0
    · right
      have key : ∀ i, i < len → ∃ cs' d, cs'.length = k ∧ (∀ j (hj : j < cs'.length), W.cell? (a.add (i * k + j)) = some cs'[j]) ∧ DataW.trod enc P W 0 (fun _ => true) true n e cs' = some d := by
        intro i hi
        obtain ⟨cs', h1, h2⟩ := hx i (by omega)
        rw [hk] at h1
        obtain ⟨_, hlen, hcell⟩ := World.cells?_some h1
        refine ⟨cs', _, hlen, fun j hj => ?_, h2⟩
        have := hcell j (by omega)
        rw [Go.Deep.add_add] at this
        rw [this]
        exact List.getElem?_eq_getElem hj
      obtain ⟨cs0, d0, l0, c0, -⟩ := key 0 (by omega)
      have hfirst := c0 0 (by omega)
      obtain ⟨b, off, spot⟩ := a
      have hspot : spot = none := by simpa [Addr.add] using World.cell?_spot hfirst
      subst hspot
      refine ⟨b, off, rfl, ?_, fun i hi => ?_⟩
      · rw [Go.WideShapes.add_plain] at hfirst
        by_cases hlt : b < W.heap.size
        · exact hlt
        · simp [World.cell?, hlt] at hfirst
      · obtain ⟨cs', d, q1, q2, q3⟩ := key i hi
        refine ⟨cs', n, d, q1, fun j hj => ?_, q3⟩
        have := q2 j hj
        rwa [Go.WideShapes.add_plain, ← Nat.add_assoc] at this
theorem list4 {α : Type} {cs : List α} (h : cs.length = 4) : ∃ c0 c1 c2 c3, cs = [c0, c1, c2, c3] := by
  match cs, h with
  | [c0, c1, c2, c3], _ => exact ⟨c0, c1, c2, c3, rfl⟩
theorem list10 {α : Type} {cs : List α} (h : cs.length = 10) : ∃ c0 c1 c2 c3 c4 c5 c6 c7 c8 c9, cs = [c0, c1, c2, c3, c4, c5, c6, c7, c8, c9] := by
  match cs, h with
  | [c0, c1, c2, c3, c4, c5, c6, c7, c8, c9], _ => exact ⟨c0, c1, c2, c3, c4, c5, c6, c7, c8, c9, rfl⟩
def CWf (c : Cl) : Prop := ∀ z ∈ [c.k, c.a, c.x, c.pc, c.p, c.c, c.w, c.r, c.v], (Lit.int .i64 z).wf = true
def callVs (c : Cl) : List Value := [.int .i64 c.k, .int .i64 c.a, .int .i64 c.x, .int .i64 c.pc, .int .i64 c.p, .int .i64 c.c, .int .i64 c.w, .int .i64 c.r, .int .i64 c.v, .bool c.d]
set_option maxRecDepth 100000 in
theorem open_callcells {H : Type} {enc : TypeId × Value → H} {W : World} {fuel : Nat} {cs : List Value} {x : DataW H × List MemPlace} (h : DataW.trod enc Try.prog W 0 (fun _ => true) true fuel 116 cs = some x) (hl : cs.length = 10) :
    ∃ c : Cl, cs = callVs c ∧ CWf c := by
  obtain ⟨c0, c1, c2, c3, c4, c5, c6, c7, c8, c9, rfl⟩ := list10 hl
  obtain ⟨n0, y0, g0⟩ := field_of Try.underlying116 h 0 _ rfl
  obtain ⟨z0, e0, f0⟩ := open_intcell g0
  obtain ⟨n1, y1, g1⟩ := field_of Try.underlying116 h 1 _ rfl
  obtain ⟨z1, e1, f1⟩ := open_intcell g1
  obtain ⟨n2, y2, g2⟩ := field_of Try.underlying116 h 2 _ rfl
  obtain ⟨z2, e2, f2⟩ := open_intcell g2
  obtain ⟨n3, y3, g3⟩ := field_of Try.underlying116 h 3 _ rfl
  obtain ⟨z3, e3, f3⟩ := open_intcell g3
  obtain ⟨n4, y4, g4⟩ := field_of Try.underlying116 h 4 _ rfl
  obtain ⟨z4, e4, f4⟩ := open_intcell g4
  obtain ⟨n5, y5, g5⟩ := field_of Try.underlying116 h 5 _ rfl
  obtain ⟨z5, e5, f5⟩ := open_intcell g5
  obtain ⟨n6, y6, g6⟩ := field_of Try.underlying116 h 6 _ rfl
  obtain ⟨z6, e6, f6⟩ := open_intcell g6
  obtain ⟨n7, y7, g7⟩ := field_of Try.underlying116 h 7 _ rfl
  obtain ⟨z7, e7, f7⟩ := open_intcell g7
  obtain ⟨n8, y8, g8⟩ := field_of Try.underlying116 h 8 _ rfl
  obtain ⟨z8, e8, f8⟩ := open_intcell g8
  obtain ⟨n9, y9, g9⟩ := field_of Try.underlying116 h 9 _ rfl
  obtain ⟨z9, e9⟩ := open_boolcell g9
  simp [cells3] at e0 e1 e2 e3 e4 e5 e6 e7 e8
  simp [cellsBool] at e9
  subst e0 e1 e2 e3 e4 e5 e6 e7 e8 e9
  refine ⟨⟨_, _, _, _, _, _, _, _, _, _⟩, rfl, ?_⟩
  intro z hz
  simp at hz
  rcases hz with rfl | rfl | rfl | rfl | rfl | rfl | rfl | rfl | rfl
  all_goals assumption
theorem at10_of {W : World} {b o : Nat} {c : Cl} {cs : List Value} (e : cs = callVs c) (h : ∀ j (hj : j < cs.length), W.cell? ⟨b, o + j, none⟩ = some cs[j]) : At10 W b o c := by
  subst e
  exact ⟨h 0 (by simp [callVs]), h 1 (by simp [callVs]), h 2 (by simp [callVs]), h 3 (by simp [callVs]), h 4 (by simp [callVs]), h 5 (by simp [callVs]), h 6 (by simp [callVs]), h 7 (by simp [callVs]), h 8 (by simp [callVs]), h 9 (by simp [callVs])⟩
set_option maxRecDepth 100000 in
theorem open_callrow {H : Type} {enc : TypeId × Value → H} {W : World} {fuel : Nat} {cs : List Value} {x : DataW H × List MemPlace} (h : DataW.trod enc Try.prog W 0 (fun _ => true) true fuel 91 cs = some x) :
    ∃ v L, cs = [v] ∧ CallsIn W v L ∧ L.length ≤ maxLen ∧ ∀ c ∈ L, CWf c := by
  obtain ⟨a, len, cap, rfl, hl, hm, hx⟩ := row_cells Try.underlying91 cellsCall (by omega) h
  rcases hx with rfl | ⟨b, off, rfl, hb, hx⟩
  · exact ⟨_, [], rfl, ⟨a, cap, rfl, Nat.zero_le _, .inl rfl⟩, by simp, by simp⟩
  · have key : ∀ i, i < len → ∃ c : Cl, At10 W b (off + i * 10) c ∧ CWf c := by
      intro i hi
      obtain ⟨cs', n, d, q1, q2, q3⟩ := hx i hi
      obtain ⟨c, e, wf⟩ := open_callcells q3 q1
      exact ⟨c, at10_of e q2, wf⟩
    obtain ⟨q, hq⟩ := Go.Deep.choose_lt key
    refine ⟨_, (List.range len).map q, rfl, ⟨_, cap, by simp, by simpa using hl, .inr ⟨b, off, rfl, hb, fun j hj => ?_⟩⟩, by simp; omega, ?_⟩
    · simp at hj
      simpa using (hq j hj).1
    · intro c hc
      simp only [List.mem_map, List.mem_range] at hc
      obtain ⟨i, hi, rfl⟩ := hc
      exact (hq i hi).2
theorem cellsTh : Try.prog.cellsOf 93 = 4 := by kernel_rfl
theorem cellsCallS : Try.prog.cellsOf 91 = 1 := by kernel_rfl
theorem cellsThS : Try.prog.cellsOf 25 = 1 := by kernel_rfl
set_option maxRecDepth 100000 in
theorem open_introwN {H : Type} {enc : TypeId × Value → H} {W : World} {fuel : Nat} {cs : List Value} {x : DataW H × List MemPlace} (h : DataW.trod enc Try.prog W 0 (fun _ => true) true fuel 22 cs = some x) :
    ∃ v xs, cs = [v] ∧ IntsIn W v xs ∧ xs.length ≤ maxLen ∧ ∀ z ∈ xs, (Lit.int .i64 z).wf = true := by
  obtain ⟨v, xs, rfl, h1, h2, h3⟩ := open_introw h
  obtain ⟨a, len, cap, e, hl, -⟩ := row_cells Try.underlying22 cells3 (by omega) h
  obtain ⟨a', cap', rfl, h4⟩ := h1
  simp at e
  obtain ⟨rfl, rfl, rfl⟩ := e
  exact ⟨_, xs, rfl, ⟨⟨_, _, rfl, h4⟩, _, _, rfl, trivial⟩, h2, h3⟩
def TWf (t : Th) : Prop := (∀ c ∈ t.cs, CWf c) ∧ (Lit.int .i64 t.at_).wf = true ∧ (∀ z ∈ t.bs, (Lit.int .i64 z).wf = true) ∧ ∀ z ∈ t.es, (Lit.int .i64 z).wf = true
def ThLim (t : Th) : Prop := t.cs.length ≤ 9223372036854775807 ∧ t.bs.length ≤ 9223372036854775807 ∧ t.es.length ≤ 9223372036854775807
set_option maxRecDepth 100000 in
theorem open_thcells {H : Type} {enc : TypeId × Value → H} {W : World} {fuel : Nat} {cs : List Value} {x : DataW H × List MemPlace} (h : DataW.trod enc Try.prog W 0 (fun _ => true) true fuel 93 cs = some x) (hl : cs.length = 4) :
    ∃ (v0 v2 v3 : Value) (t : Th), cs = [v0, .int .i64 t.at_, v2, v3] ∧ ThIn W v0 v2 v3 t ∧ ThLim t ∧ TWf t := by
  obtain ⟨c0, c1, c2, c3, rfl⟩ := list4 hl
  obtain ⟨n0, y0, g0⟩ := field_of Try.underlying93 h 0 _ rfl
  obtain ⟨v0, L, e0, r0, l0, w0⟩ := open_callrow g0
  obtain ⟨n1, y1, g1⟩ := field_of Try.underlying93 h 1 _ rfl
  obtain ⟨z1, e1, f1⟩ := open_intcell g1
  obtain ⟨n2, y2, g2⟩ := field_of Try.underlying93 h 2 _ rfl
  obtain ⟨v2, xs, e2, r2, l2, w2⟩ := open_introwN g2
  obtain ⟨n3, y3, g3⟩ := field_of Try.underlying93 h 3 _ rfl
  obtain ⟨v3, ys, e3, r3, l3, w3⟩ := open_introwN g3
  simp [cellsCallS] at e0
  simp [cells3] at e1
  simp [cells22] at e2 e3
  subst e0 e1 e2 e3
  exact ⟨_, _, _, ⟨L, z1, xs, ys⟩, rfl, ⟨r0, r2, r3⟩, ⟨l0, l2, l3⟩, w0, f1, w2, w3⟩
set_option maxRecDepth 100000 in
theorem open_throw {H : Type} {enc : TypeId × Value → H} {W : World} {fuel : Nat} {cs : List Value} {x : DataW H × List MemPlace} (h : DataW.trod enc Try.prog W 0 (fun _ => true) true fuel 25 cs = some x) :
    ∃ v ts, cs = [v] ∧ ThsIn W v ts ∧ ts.length ≤ 9223372036854775807 ∧ TsLim ts ∧ ∀ t ∈ ts, TWf t := by
  obtain ⟨a, len, cap, rfl, hl, hm, hx⟩ := row_cells Try.underlying25 cellsTh (by omega) h
  rcases hx with rfl | ⟨b, off, rfl, hb, hx⟩
  · exact ⟨_, [], rfl, ⟨a, cap, rfl, Nat.zero_le _, .inl rfl⟩, by simp, fun j hj => by simp at hj, by simp⟩
  · have key : ∀ i, i < len → ∃ t : Th, (∃ v0 v2 v3, At4 W b (off + i * 4) v0 (.int .i64 t.at_) v2 v3 ∧ ThIn W v0 v2 v3 t) ∧ ThLim t ∧ TWf t := by
      intro i hi
      obtain ⟨cs', n, d, q1, q2, q3⟩ := hx i hi
      obtain ⟨v0, v2, v3, t, rfl, r, lim, wf⟩ := open_thcells q3 q1
      exact ⟨t, ⟨v0, v2, v3, ⟨q2 0 (by simp), q2 1 (by simp), q2 2 (by simp), q2 3 (by simp)⟩, r⟩, lim, wf⟩
    obtain ⟨q, hq⟩ := Go.Deep.choose_lt key
    refine ⟨_, (List.range len).map q, rfl, ⟨_, cap, by simp, by simpa using hl, .inr ⟨b, off, rfl, hb, fun j hj => ?_⟩⟩, by simp; exact hm, fun j hj => ?_, ?_⟩
    · simp at hj
      simpa using (hq j hj).1
    · simp at hj
      have := (hq j hj).2.1
      simpa [ThLim] using this
    · intro c hc
      simp only [List.mem_map, List.mem_range] at hc
      obtain ⟨i, hi, rfl⟩ := hc
      exact (hq i hi).2.2
theorem array5 {α : Type} {cs : Array α} (h : cs.size = 5) : ∃ c0 c1 c2 c3 c4, cs = #[c0, c1, c2, c3, c4] := by
  obtain ⟨l⟩ := cs
  match l, h with
  | [c0, c1, c2, c3, c4], _ => exact ⟨c0, c1, c2, c3, c4, rfl⟩
theorem cellsCrew : Try.prog.cellsOf 27 = 5 := by kernel_rfl
theorem cellsMem1 : Try.prog.cellsOf 24 = 1 := by kernel_rfl
def CwLim (C : Cw) : Prop := C.m.length ≤ 9223372036854775807 ∧ C.ts.length ≤ 9223372036854775807 ∧ TsLim C.ts
def CwWf (C : Cw) : Prop := (Lit.int .i64 C.what).wf = true ∧ (Lit.int .i64 C.size).wf = true ∧ (Lit.int .i64 C.clock).wf = true ∧ (∀ z ∈ C.m, (Lit.int .i64 z).wf = true) ∧ ∀ t ∈ C.ts, TWf t
set_option maxRecDepth 100000 in
theorem open_Crew {H : Type} {enc : TypeId × Value → H} {W : World} {b0 : Nat} {v : Value} {d : DataW H} {p : List MemPlace} (hv : Value.okWide Try.prog W .any b0 27 v) (h : DataW.Trod enc Try.prog W 0 (fun _ => true) true 27 v d p) :
    ∃ (C : Cw) (vm vt : Value), v = .agg #[.int .i64 C.what, .int .i64 C.size, vm, vt, .int .i64 C.clock] ∧ CwIn W vm vt C ∧ CwLim C ∧ CwWf C := by
  obtain ⟨cs, rfl, hsz⟩ := okWide_struct Try.underlying27 hv
  obtain ⟨c0, c1, c2, c3, c4, rfl⟩ := array5 (hsz.trans cellsCrew)
  obtain ⟨fuel, hf⟩ := h
  obtain ⟨n0, y0, g0⟩ := field_of Try.underlying27 hf 0 _ rfl
  obtain ⟨z0, e0, f0⟩ := open_intcell g0
  obtain ⟨n1, y1, g1⟩ := field_of Try.underlying27 hf 1 _ rfl
  obtain ⟨z1, e1, f1⟩ := open_intcell g1
  obtain ⟨n2, y2, g2⟩ := field_of Try.underlying27 hf 2 _ rfl
  obtain ⟨m2, w2, h2⟩ := field_of Try.underlying24 g2 0 _ rfl
  obtain ⟨v2, xs, e2, r2, l2, x2⟩ := open_introwN h2
  obtain ⟨n3, y3, g3⟩ := field_of Try.underlying27 hf 3 _ rfl
  obtain ⟨v3, ts, e3, r3, l3, m3, x3⟩ := open_throw g3
  obtain ⟨n4, y4, g4⟩ := field_of Try.underlying27 hf 4 _ rfl
  obtain ⟨z4, e4, f4⟩ := open_intcell g4
  simp [Value.cells, cells3] at e0 e1 e4
  simp [Value.cells, cells22, cellsMem1] at e2
  simp [Value.cells, cellsThS] at e3
  subst e0 e1 e2 e3 e4
  exact ⟨⟨_, _, xs, ts, _⟩, _, _, rfl, ⟨r2, r3⟩, ⟨l2, l3, m3⟩, f0, f1, f4, x2, x3⟩
set_option maxRecDepth 100000 in
theorem open_ThreadS {H : Type} {enc : TypeId × Value → H} {W : World} {b0 : Nat} {v : Value} {d : DataW H} {p : List MemPlace} (hv : Value.okWide Try.prog W .any b0 25 v) (h : DataW.Trod enc Try.prog W 0 (fun _ => true) true 25 v d p) :
    ∃ (v' : Value) (ts : List Th), v = v' ∧ ThsIn W v' ts ∧ ts.length ≤ 9223372036854775807 ∧ TsLim ts ∧ ∀ t ∈ ts, TWf t := by
  obtain ⟨a, n, c, rfl⟩ := okWide_slice Try.underlying25 hv
  obtain ⟨fuel, hf⟩ := h
  obtain ⟨v', ts, e, h1, h2, h3, h4⟩ := open_throw hf
  simp [Value.cells] at e
  exact ⟨v', ts, e, h1, h2, h3, h4⟩

end Go.Proofs.Ytmifnemjihffkaa
