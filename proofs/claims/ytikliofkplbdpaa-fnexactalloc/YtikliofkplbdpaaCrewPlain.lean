/- Threads and crews: rows of structs that hold rows. What is read (In) and what is owned, block by block (O). Plain lemmas on worlds. -/
import Derived.Test.YtikliofkplbdpaaRows
import Derived.WalkKit
import Derived.ProofKit
import Derived.OpenShut
import Derived.ShutString
import Derived.Test.YtikliofkplbdpaaKeepPlain
import Derived.Test.YtikliofkplbdpaaAgePlain
import Derived.Test.YtikliofkplbdpaaStackPlain
namespace Go.Proofs.Ytikliofkplbdpaa
open Go.ChangeShapes Go.WideShapes Go.ChangeAt Go.RowKit
set_option linter.unusedVariables false

structure Th where
  cs : List Cl
  at_ : Int
  bs : List Int
  es : List Int
structure Cw where
  what : Int
  size : Int
  m : List Int
  ts : List Th
  clock : Int
instance : Inhabited Cl := ⟨clZero⟩
instance : Inhabited Th := ⟨⟨[], 0, [], []⟩⟩
/- a call in ten cells, a thread in four -/
def At10 (w : World) (b o : Nat) (c : Cl) : Prop :=
  w.cell? ⟨b, o, none⟩ = some (.int .i64 c.k) ∧ w.cell? ⟨b, o + 1, none⟩ = some (.int .i64 c.a) ∧ w.cell? ⟨b, o + 2, none⟩ = some (.int .i64 c.x) ∧ w.cell? ⟨b, o + 3, none⟩ = some (.int .i64 c.pc) ∧ w.cell? ⟨b, o + 4, none⟩ = some (.int .i64 c.p) ∧ w.cell? ⟨b, o + 5, none⟩ = some (.int .i64 c.c) ∧ w.cell? ⟨b, o + 6, none⟩ = some (.int .i64 c.w) ∧ w.cell? ⟨b, o + 7, none⟩ = some (.int .i64 c.r) ∧ w.cell? ⟨b, o + 8, none⟩ = some (.int .i64 c.v) ∧ w.cell? ⟨b, o + 9, none⟩ = some (.bool c.d)
def At4 (w : World) (b o : Nat) (v0 v1 v2 v3 : Value) : Prop :=
  w.cell? ⟨b, o, none⟩ = some v0 ∧ w.cell? ⟨b, o + 1, none⟩ = some v1 ∧ w.cell? ⟨b, o + 2, none⟩ = some v2 ∧ w.cell? ⟨b, o + 3, none⟩ = some v3
theorem At10.of {w w' : World} {b o : Nat} {c : Cl} (h : At10 w b o c) (hb : ∀ q, w'.cell? ⟨b, q, none⟩ = w.cell? ⟨b, q, none⟩) : At10 w' b o c := by
  obtain ⟨h0, h1, h2, h3, h4, h5, h6, h7, h8, h9⟩ := h
  exact ⟨(hb _).trans h0, (hb _).trans h1, (hb _).trans h2, (hb _).trans h3, (hb _).trans h4, (hb _).trans h5, (hb _).trans h6, (hb _).trans h7, (hb _).trans h8, (hb _).trans h9⟩
theorem At4.of {w w' : World} {b o : Nat} {v0 v1 v2 v3 : Value} (h : At4 w b o v0 v1 v2 v3) (hb : ∀ q, w'.cell? ⟨b, q, none⟩ = w.cell? ⟨b, q, none⟩) : At4 w' b o v0 v1 v2 v3 := by
  obtain ⟨h0, h1, h2, h3⟩ := h
  exact ⟨(hb _).trans h0, (hb _).trans h1, (hb _).trans h2, (hb _).trans h3⟩
theorem cells_of_block {w w' : World} {b : Nat} (h : w'.heap[b]? = w.heap[b]?) : ∀ q, w'.cell? ⟨b, q, none⟩ = w.cell? ⟨b, q, none⟩ := fun q => World.cell?_of_block (a := ⟨b, q, none⟩) h
theorem frozen_of_block {w w' : World} {b : Nat} (h : w'.heap[b]? = w.heap[b]?) : ∀ q, w'.frozen? ⟨b, q, none⟩ = w.frozen? ⟨b, q, none⟩ := fun q => World.frozen?_of_block (a := ⟨b, q, none⟩) h
/- read -/
def CallsIn (w : World) (v : Value) (cs : List Cl) : Prop :=
  ∃ a cap, v = .slice a cs.length cap ∧ cs.length ≤ cap ∧ (cs = [] ∨ ∃ b off, a = some ⟨b, off, none⟩ ∧ b < w.heap.size ∧ ∀ j (hj : j < cs.length), At10 w b (off + j * 10) cs[j])
def IntsIn (w : World) (v : Value) (xs : List Int) : Prop := InRow w v xs ∧ ∃ a cap, v = .slice a xs.length cap ∧ True
structure ThIn (w : World) (v0 v2 v3 : Value) (t : Th) : Prop where
  cs : CallsIn w v0 t.cs
  bs : IntsIn w v2 t.bs
  es : IntsIn w v3 t.es
def ThsIn (w : World) (v : Value) (ts : List Th) : Prop :=
  ∃ a cap, v = .slice a ts.length cap ∧ ts.length ≤ cap ∧ (ts = [] ∨ ∃ b off, a = some ⟨b, off, none⟩ ∧ b < w.heap.size ∧ ∀ j (hj : j < ts.length), ∃ v0 v2 v3, At4 w b (off + j * 4) v0 (.int .i64 ts[j].at_) v2 v3 ∧ ThIn w v0 v2 v3 ts[j])
structure CwIn (w : World) (vm vt : Value) (C : Cw) : Prop where
  m : IntsIn w vm C.m
  ts : ThsIn w vt C.ts
theorem IntsIn.below {w w' : World} {v : Value} {xs : List Int} (h : IntsIn w v xs) (hb : Below w.heap.size w w') : IntsIn w' v xs := ⟨h.1.below hb, h.2⟩
theorem CallsIn.below {w w' : World} {v : Value} {cs : List Cl} (h : CallsIn w v cs) (hb : Below w.heap.size w w') : CallsIn w' v cs := by
  obtain ⟨a, cap, hv, hc, h⟩ := h
  refine ⟨a, cap, hv, hc, ?_⟩
  rcases h with h | ⟨b, off, ha, h1, h2⟩
  · exact .inl h
  · exact .inr ⟨b, off, ha, Nat.lt_of_lt_of_le h1 hb.size, fun j hj => (h2 j hj).of (cells_of_block (hb.block b h1))⟩
theorem ThIn.below {w w' : World} {v0 v2 v3 : Value} {t : Th} (h : ThIn w v0 v2 v3 t) (hb : Below w.heap.size w w') : ThIn w' v0 v2 v3 t := ⟨h.cs.below hb, h.bs.below hb, h.es.below hb⟩
theorem ThsIn.below {w w' : World} {v : Value} {ts : List Th} (h : ThsIn w v ts) (hb : Below w.heap.size w w') : ThsIn w' v ts := by
  obtain ⟨a, cap, hv, hc, h⟩ := h
  refine ⟨a, cap, hv, hc, ?_⟩
  rcases h with h | ⟨b, off, ha, h1, h2⟩
  · exact .inl h
  · refine .inr ⟨b, off, ha, Nat.lt_of_lt_of_le h1 hb.size, fun j hj => ?_⟩
    obtain ⟨v0, v2, v3, h3, h4⟩ := h2 j hj
    exact ⟨v0, v2, v3, h3.of (cells_of_block (hb.block b h1)), h4.below hb⟩
theorem CwIn.below {w w' : World} {vm vt : Value} {C : Cw} (h : CwIn w vm vt C) (hb : Below w.heap.size w w') : CwIn w' vm vt C := ⟨h.m.below hb, h.ts.below hb⟩
theorem CallsIn.form {w : World} {v : Value} {cs : List Cl} (h : CallsIn w v cs) : ∃ a c, v = .slice a cs.length c ∧ cs.length ≤ c := by
  obtain ⟨a, c, h1, h2, _⟩ := h
  exact ⟨a, c, h1, h2⟩
theorem IntsIn.form {w : World} {v : Value} {xs : List Int} (h : IntsIn w v xs) : ∃ a c, v = .slice a xs.length c ∧ True := h.2
theorem ThsIn.form {w : World} {v : Value} {ts : List Th} (h : ThsIn w v ts) : ∃ a c, v = .slice a ts.length c ∧ ts.length ≤ c := by
  obtain ⟨a, c, h1, h2, _⟩ := h
  exact ⟨a, c, h1, h2⟩
/- owned: fp lists the blocks -/
def IntsO (w : World) (v : Value) (xs : List Int) (fp : List Nat) : Prop :=
  ∃ a cap, v = .slice a xs.length cap ∧ True ∧ ((xs = [] ∧ fp = []) ∨ ∃ g, a = some ⟨g, 0, none⟩ ∧ fp = [g] ∧ g < w.heap.size ∧ (∀ j (hj : j < xs.length), w.cell? ⟨g, j, none⟩ = some (.int .i64 xs[j])) ∧ ∀ j, w.frozen? ⟨g, j, none⟩ = false)
def CallsO (w : World) (v : Value) (cs : List Cl) (fp : List Nat) : Prop :=
  ∃ a cap, v = .slice a cs.length cap ∧ cs.length ≤ cap ∧ ((cs = [] ∧ fp = []) ∨ ∃ g, a = some ⟨g, 0, none⟩ ∧ fp = [g] ∧ g < w.heap.size ∧ (∀ j (hj : j < cs.length), At10 w g (j * 10) cs[j]) ∧ ∀ j, w.frozen? ⟨g, j, none⟩ = false)
def ThO (w : World) (v0 v2 v3 : Value) (t : Th) (fp : List Nat) : Prop :=
  ∃ f0 f2 f3, fp = f0 ++ (f2 ++ f3) ∧ CallsO w v0 t.cs f0 ∧ IntsO w v2 t.bs f2 ∧ IntsO w v3 t.es f3
def ThsO (w : World) (v : Value) (ts : List Th) (fp : List Nat) : Prop :=
  ∃ a cap, v = .slice a ts.length cap ∧ ts.length ≤ cap ∧ ((ts = [] ∧ fp = []) ∨ ∃ (g : Nat) (fps : Nat → List Nat), a = some ⟨g, 0, none⟩ ∧ fp = g :: (List.range ts.length).flatMap fps ∧ g < w.heap.size ∧ (∀ j (hj : j < ts.length), ∃ v0 v2 v3, At4 w g (j * 4) v0 (.int .i64 ts[j].at_) v2 v3 ∧ ThO w v0 v2 v3 ts[j] (fps j)) ∧ ∀ j, w.frozen? ⟨g, j, none⟩ = false)
def CwO (w : World) (vm vt : Value) (C : Cw) (fp : List Nat) : Prop :=
  ∃ f0 f1, fp = f0 ++ f1 ∧ IntsO w vm C.m f0 ∧ ThsO w vt C.ts f1
theorem lt_of_block {w w' : World} {b : Nat} (h : w'.heap[b]? = w.heap[b]?) (k : b < w.heap.size) : b < w'.heap.size := by
  rw [Array.getElem?_eq_getElem k] at h
  exact (Array.getElem?_eq_some_iff.1 h).1
theorem IntsO.loc' {w w' : World} {v : Value} {xs : List Int} {fp : List Nat} (h : IntsO w v xs fp) (hb : ∀ g ∈ fp, w'.heap[g]? = w.heap[g]?) : IntsO w' v xs fp := by
  obtain ⟨a, cap, hv, hc, h⟩ := h
  refine ⟨a, cap, hv, hc, ?_⟩
  rcases h with h | ⟨g, ha, hf, h1, h2, h3⟩
  · exact .inl h
  · have e := hb g (by rw [hf]; exact List.mem_singleton.2 rfl)
    exact .inr ⟨g, ha, hf, lt_of_block e h1, fun j hj => (cells_of_block e j).trans (h2 j hj), fun j => (frozen_of_block e j).trans (h3 j)⟩
theorem CallsO.loc' {w w' : World} {v : Value} {xs : List Cl} {fp : List Nat} (h : CallsO w v xs fp) (hb : ∀ g ∈ fp, w'.heap[g]? = w.heap[g]?) : CallsO w' v xs fp := by
  obtain ⟨a, cap, hv, hc, h⟩ := h
  refine ⟨a, cap, hv, hc, ?_⟩
  rcases h with h | ⟨g, ha, hf, h1, h2, h3⟩
  · exact .inl h
  · have e := hb g (by rw [hf]; exact List.mem_singleton.2 rfl)
    exact .inr ⟨g, ha, hf, lt_of_block e h1, fun j hj => (h2 j hj).of (cells_of_block e), fun j => (frozen_of_block e j).trans (h3 j)⟩
theorem ThO.loc' {w w' : World} {v0 v2 v3 : Value} {t : Th} {fp : List Nat} (h : ThO w v0 v2 v3 t fp) (hb : ∀ g ∈ fp, w'.heap[g]? = w.heap[g]?) : ThO w' v0 v2 v3 t fp := by
  obtain ⟨f0, f2, f3, rfl, h0, h2, h3⟩ := h
  exact ⟨f0, f2, f3, rfl, h0.loc' (fun g hg => hb g (by simp [hg])), h2.loc' (fun g hg => hb g (by simp [hg])), h3.loc' (fun g hg => hb g (by simp [hg]))⟩
theorem ThsO.loc' {w w' : World} {v : Value} {ts : List Th} {fp : List Nat} (h : ThsO w v ts fp) (hb : ∀ g ∈ fp, w'.heap[g]? = w.heap[g]?) : ThsO w' v ts fp := by
  obtain ⟨a, cap, hv, hc, h⟩ := h
  refine ⟨a, cap, hv, hc, ?_⟩
  rcases h with h | ⟨g, fps, ha, hf, h1, h2, h3⟩
  · exact .inl h
  · have e := hb g (by rw [hf]; exact List.mem_cons_self ..)
    refine .inr ⟨g, fps, ha, hf, lt_of_block e h1, fun j hj => ?_, fun j => (frozen_of_block e j).trans (h3 j)⟩
    obtain ⟨v0, v2, v3, h4, h5⟩ := h2 j hj
    exact ⟨v0, v2, v3, h4.of (cells_of_block e), h5.loc' (fun x hx => hb x (by rw [hf]; exact List.mem_cons_of_mem _ (List.mem_flatMap.2 ⟨j, List.mem_range.2 hj, hx⟩)))⟩
theorem CwO.loc' {w w' : World} {vm vt : Value} {C : Cw} {fp : List Nat} (h : CwO w vm vt C fp) (hb : ∀ g ∈ fp, w'.heap[g]? = w.heap[g]?) : CwO w' vm vt C fp := by
  obtain ⟨f0, f1, rfl, h0, h1⟩ := h
  exact ⟨f0, f1, rfl, h0.loc' (fun g hg => hb g (by simp [hg])), h1.loc' (fun g hg => hb g (by simp [hg]))⟩
theorem IntsO.loc {w w' : World} {v : Value} {xs : List Int} {fp : List Nat} (h : IntsO w v xs fp) (hz : w.heap.size ≤ w'.heap.size) (hb : ∀ g ∈ fp, w'.heap[g]? = w.heap[g]?) : IntsO w' v xs fp := h.loc' hb
theorem CallsO.loc {w w' : World} {v : Value} {xs : List Cl} {fp : List Nat} (h : CallsO w v xs fp) (hz : w.heap.size ≤ w'.heap.size) (hb : ∀ g ∈ fp, w'.heap[g]? = w.heap[g]?) : CallsO w' v xs fp := h.loc' hb
theorem ThO.loc {w w' : World} {v0 v2 v3 : Value} {t : Th} {fp : List Nat} (h : ThO w v0 v2 v3 t fp) (hz : w.heap.size ≤ w'.heap.size) (hb : ∀ g ∈ fp, w'.heap[g]? = w.heap[g]?) : ThO w' v0 v2 v3 t fp := h.loc' hb
theorem ThsO.loc {w w' : World} {v : Value} {ts : List Th} {fp : List Nat} (h : ThsO w v ts fp) (hz : w.heap.size ≤ w'.heap.size) (hb : ∀ g ∈ fp, w'.heap[g]? = w.heap[g]?) : ThsO w' v ts fp := h.loc' hb
theorem CwO.loc {w w' : World} {vm vt : Value} {C : Cw} {fp : List Nat} (h : CwO w vm vt C fp) (hz : w.heap.size ≤ w'.heap.size) (hb : ∀ g ∈ fp, w'.heap[g]? = w.heap[g]?) : CwO w' vm vt C fp := h.loc' hb
theorem IntsO.lt {w : World} {v : Value} {xs : List Int} {fp : List Nat} (h : IntsO w v xs fp) : ∀ g ∈ fp, g < w.heap.size := by
  obtain ⟨a, cap, hv, hc, ⟨-, rfl⟩ | ⟨g, ha, rfl, h1, -⟩⟩ := h
  · simp
  · simpa using h1
theorem CallsO.lt {w : World} {v : Value} {xs : List Cl} {fp : List Nat} (h : CallsO w v xs fp) : ∀ g ∈ fp, g < w.heap.size := by
  obtain ⟨a, cap, hv, hc, ⟨-, rfl⟩ | ⟨g, ha, rfl, h1, -⟩⟩ := h
  · simp
  · simpa using h1
theorem ThO.lt {w : World} {v0 v2 v3 : Value} {t : Th} {fp : List Nat} (h : ThO w v0 v2 v3 t fp) : ∀ g ∈ fp, g < w.heap.size := by
  obtain ⟨f0, f2, f3, rfl, h0, h2, h3⟩ := h
  intro g hg
  simp only [List.mem_append] at hg
  rcases hg with hg | hg | hg
  · exact h0.lt g hg
  · exact h2.lt g hg
  · exact h3.lt g hg
theorem ThsO.lt {w : World} {v : Value} {ts : List Th} {fp : List Nat} (h : ThsO w v ts fp) : ∀ g ∈ fp, g < w.heap.size := by
  obtain ⟨a, cap, hv, hc, ⟨-, rfl⟩ | ⟨g, fps, ha, rfl, h1, h2, -⟩⟩ := h
  · simp
  · intro x hx
    rcases List.mem_cons.1 hx with rfl | hx
    · exact h1
    · obtain ⟨j, hj, hx⟩ := List.mem_flatMap.1 hx
      obtain ⟨v0, v2, v3, -, h5⟩ := h2 j (List.mem_range.1 hj)
      exact h5.lt x hx
theorem CwO.lt {w : World} {vm vt : Value} {C : Cw} {fp : List Nat} (h : CwO w vm vt C fp) : ∀ g ∈ fp, g < w.heap.size := by
  obtain ⟨f0, f1, rfl, h0, h1⟩ := h
  intro g hg
  rcases List.mem_append.1 hg with hg | hg
  · exact h0.lt g hg
  · exact h1.lt g hg
theorem IntsO.below {w w' : World} {v : Value} {xs : List Int} {fp : List Nat} (h : IntsO w v xs fp) (hb : Below w.heap.size w w') : IntsO w' v xs fp := h.loc hb.size (fun g hg => hb.block g (h.lt g hg))
theorem CallsO.below {w w' : World} {v : Value} {xs : List Cl} {fp : List Nat} (h : CallsO w v xs fp) (hb : Below w.heap.size w w') : CallsO w' v xs fp := h.loc hb.size (fun g hg => hb.block g (h.lt g hg))
theorem ThO.below {w w' : World} {v0 v2 v3 : Value} {t : Th} {fp : List Nat} (h : ThO w v0 v2 v3 t fp) (hb : Below w.heap.size w w') : ThO w' v0 v2 v3 t fp := h.loc hb.size (fun g hg => hb.block g (h.lt g hg))
theorem ThsO.below {w w' : World} {v : Value} {ts : List Th} {fp : List Nat} (h : ThsO w v ts fp) (hb : Below w.heap.size w w') : ThsO w' v ts fp := h.loc hb.size (fun g hg => hb.block g (h.lt g hg))
theorem CwO.below {w w' : World} {vm vt : Value} {C : Cw} {fp : List Nat} (h : CwO w vm vt C fp) (hb : Below w.heap.size w w') : CwO w' vm vt C fp := h.loc hb.size (fun g hg => hb.block g (h.lt g hg))
/- what is owned can be read -/
theorem IntsO.rd {w : World} {v : Value} {xs : List Int} {fp : List Nat} (h : IntsO w v xs fp) : IntsIn w v xs := by
  obtain ⟨a, cap, hv, hc, h⟩ := h
  refine ⟨⟨a, cap, hv, ?_⟩, a, cap, hv, hc⟩
  rcases h with ⟨h, -⟩ | ⟨g, ha, -, h1, h2, -⟩
  · exact .inl h
  · exact .inr ⟨g, 0, ha, h1, fun j hj => by rw [Nat.zero_add]; exact h2 j hj⟩
theorem CallsO.rd {w : World} {v : Value} {xs : List Cl} {fp : List Nat} (h : CallsO w v xs fp) : CallsIn w v xs := by
  obtain ⟨a, cap, hv, hc, h⟩ := h
  refine ⟨a, cap, hv, hc, ?_⟩
  rcases h with ⟨h, -⟩ | ⟨g, ha, -, h1, h2, -⟩
  · exact .inl h
  · exact .inr ⟨g, 0, ha, h1, fun j hj => by rw [Nat.zero_add]; exact h2 j hj⟩
theorem ThO.rd {w : World} {v0 v2 v3 : Value} {t : Th} {fp : List Nat} (h : ThO w v0 v2 v3 t fp) : ThIn w v0 v2 v3 t := by
  obtain ⟨f0, f2, f3, -, h0, h2, h3⟩ := h
  exact ⟨h0.rd, h2.rd, h3.rd⟩
theorem ThsO.rd {w : World} {v : Value} {ts : List Th} {fp : List Nat} (h : ThsO w v ts fp) : ThsIn w v ts := by
  obtain ⟨a, cap, hv, hc, h⟩ := h
  refine ⟨a, cap, hv, hc, ?_⟩
  rcases h with ⟨h, -⟩ | ⟨g, fps, ha, -, h1, h2, -⟩
  · exact .inl h
  · refine .inr ⟨g, 0, ha, h1, fun j hj => ?_⟩
    obtain ⟨v0, v2, v3, h4, h5⟩ := h2 j hj
    exact ⟨v0, v2, v3, by rw [Nat.zero_add]; exact h4, h5.rd⟩
theorem CwO.rd {w : World} {vm vt : Value} {C : Cw} {fp : List Nat} (h : CwO w vm vt C fp) : CwIn w vm vt C := by
  obtain ⟨f0, f1, -, h0, h1⟩ := h
  exact ⟨h0.rd, h1.rd⟩
/- a row in blocks from lo to hi is owned -/
theorem ints_own {w : World} {lo hi : Nat} {v : Value} {xs : List Int} (h : Row w lo hi v (ints xs)) (hz : hi ≤ w.heap.size) : ∃ fp, IntsO w v xs fp ∧ fp.Nodup ∧ ∀ g ∈ fp, lo ≤ g ∧ g < hi := by
  obtain ⟨a, cap, rfl, h⟩ := h
  rcases h with h | ⟨g, rfl, h1, h2, h3, h4⟩
  · exact ⟨[], ⟨a, cap, by rw [ints_len], trivial, .inl ⟨by simpa using h, rfl⟩⟩, List.nodup_nil, by simp⟩
  · refine ⟨[g], ⟨_, cap, by rw [ints_len], trivial, .inr ⟨g, rfl, rfl, by omega, fun j hj => ?_, h4⟩⟩, by simp, by simp; omega⟩
    rw [h3 j (by simpa using hj)]
    simp
theorem IntsO.row {w : World} {v : Value} {xs : List Int} {fp : List Nat} (h : IntsO w v xs fp) : Row w 0 w.heap.size v (ints xs) := by
  obtain ⟨a, cap, rfl, hc, h⟩ := h
  refine ⟨a, cap, by rw [ints_len], ?_⟩
  rcases h with ⟨rfl, -⟩ | ⟨g, ha, -, h1, h2, h3⟩
  · exact .inl rfl
  · exact .inr ⟨g, ha, by omega, h1, fun j hj => by rw [h2 j (by simpa using hj)]; simp, h3⟩
theorem nodup_app {l m : List Nat} {s : Nat} (hl : l.Nodup) (hm : m.Nodup) (h1 : ∀ g ∈ l, g < s) (h2 : ∀ g ∈ m, s ≤ g) : (l ++ m).Nodup :=
  List.nodup_append.2 ⟨hl, hm, fun a ha b hb => by have := h1 a ha; have := h2 b hb; omega⟩
theorem flat_congr (n : Nat) (f f' : Nat → List Nat) (h : ∀ j, j < n → f' j = f j) : (List.range n).flatMap f' = (List.range n).flatMap f := by
  induction n with
  | zero => rfl
  | succ n ih => rw [List.range_succ, List.flatMap_append, List.flatMap_append, ih (fun j hj => h j (by omega))]; simp [h n (by omega)]
theorem flat_succ (n : Nat) (f : Nat → List Nat) (x : List Nat) : (List.range (n + 1)).flatMap (fun j => if j = n then x else f j) = (List.range n).flatMap f ++ x := by
  rw [List.range_succ, List.flatMap_append, flat_congr n f _ (fun j hj => by rw [if_neg (by omega)])]
  simp

end Go.Proofs.Ytikliofkplbdpaa
