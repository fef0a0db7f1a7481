/- A new crew: plain lemmas, and the two blocks that the program makes first, in whatever order. -/
import Derived.Test.YtpfofjcfaelocaaRows
import Derived.WalkKit
import Derived.ProofKit
import Derived.OpenShut
import Derived.ShutString
import Derived.Test.YtpfofjcfaelocaaCrewNewTh3
import Derived.Test.YtpfofjcfaelocaaCrewNewMem
import Derived.Test.YtpfofjcfaelocaaCwLaw
namespace Go.Proofs.Ytpfofjcfaelocaa
open Go.ChangeShapes Go.WideShapes Go.ChangeAt Go.RowKit
set_option linter.unusedVariables false

def NewC (w : World) (what size : Int) (vm : Value) (n : Nat) (R4 : Array Value) (v : Value) (W : World) : Prop :=
  ∃ m g, v = .pointer (some ⟨m, 0, none⟩) ∧ w.heap.size ≤ m ∧ w.heap.size ≤ g ∧ m ≠ g ∧ Below w.heap.size w W ∧ Bx W m #[.int .i64 what, .int .i64 size, vm, .slice (some ⟨g, 0, none⟩) n n, .int .i64 0] ∧ Bx W g R4
theorem newC_of {w W : World} {what size : Int} {vm : Value} {n : Nat} {R4 : Array Value} {m g : Nat} (hm : Bx W m #[.int .i64 what, .int .i64 size, vm, .slice (some ⟨g, 0, none⟩) n n, .int .i64 0]) (hg : Bx W g R4) (b : Below w.heap.size w W) (h1 : w.heap.size ≤ m) (h2 : w.heap.size ≤ g) (h3 : m ≠ g) : NewC w what size vm n R4 (.pointer (some ⟨m, 0, none⟩)) W := ⟨m, g, rfl, h1, h2, h3, b, hm, hg⟩
section
variable {W1 : World} {A B : Array Value} {Ta Tb : TypeId}
theorem ch2_0 {s : Nat} (hs : W1.heap.size = s) : Bx ((W1.alloc (.cells A Ta)).alloc (.cells B Tb)).drew s A := ((Bx.newAt A Ta hs.symm).alloc _).drew
theorem ch2_1 {s : Nat} (hs : W1.heap.size = s) : Bx ((W1.alloc (.cells A Ta)).alloc (.cells B Tb)).drew (s + 1) B := (Bx.newAt B Tb (by simp [hs])).drew
theorem ch2_b : Below W1.heap.size W1 ((W1.alloc (.cells A Ta)).alloc (.cells B Tb)).drew := (((Below.refl _ _).alloc (Nat.le_refl _) _).alloc (by simp) _).drew
theorem nc_drew {q : Nat} {x : Value} {W : World} (h : Below W1.heap.size W1 W ∧ W.cell? ⟨q, 0, none⟩ = some x ∧ q < W1.heap.size) : Below W1.heap.size W1 W.drew ∧ W.drew.cell? ⟨q, 0, none⟩ = some x ∧ q < W1.heap.size := ⟨h.1.drew, h.2.1, h.2.2⟩
theorem nc_al {q : Nat} {x : Value} {W : World} (h : Below W1.heap.size W1 W ∧ W.cell? ⟨q, 0, none⟩ = some x ∧ q < W1.heap.size) (o : Obj) : Below W1.heap.size W1 (W.alloc o) ∧ (W.alloc o).cell? ⟨q, 0, none⟩ = some x ∧ q < W1.heap.size := ⟨h.1.alloc h.1.size _, by rw [World.cell?_alloc_lt _ _ _ (by have := h.1.size; have := h.2.2; simp <;> omega)]; exact h.2.1, h.2.2⟩
theorem nc_set {q : Nat} {x : Value} {W : World} (h : Below W1.heap.size W1 W ∧ W.cell? ⟨q, 0, none⟩ = some x ∧ q < W1.heap.size) {b o : Nat} (hb : W1.heap.size ≤ b) (y : Value) : Below W1.heap.size W1 (W.setCell ⟨b, o, none⟩ y) ∧ (W.setCell ⟨b, o, none⟩ y).cell? ⟨q, 0, none⟩ = some x ∧ q < W1.heap.size := ⟨h.1.setCell hb _, by rw [World.cell?_setCell_other _ _ _ _ (by have := h.2.2; simp <;> omega)]; exact h.2.1, h.2.2⟩
end
/- a crew in the making: k of its threads are there -/
structure CrewAt (what size : Int) (vm : Value) (ts : List Th) (m g k : Nat) (fps : Nat → List Nat) (W1 W : World) : Prop where
  below : Below W1.heap.size W1 W
  box : Bx W m #[.int .i64 what, .int .i64 size, vm, .slice (some ⟨g, 0, none⟩) ts.length ts.length, .int .i64 0]
  made : ∀ j (hj : j < ts.length), j < k → ∃ v0 v2 v3, At4 W g (j * 4) v0 (.int .i64 0) v2 v3 ∧ ThO W v0 v2 v3 (thNewT what ts[j]) (fps j)
  todo : ∀ j, k * 4 ≤ j → j < ts.length * 4 → ∃ x, W.cell? ⟨g, j, none⟩ = some x
  free : ∀ j, W.frozen? ⟨g, j, none⟩ = false
  nodup : (g :: (List.range k).flatMap fps).Nodup
  far : ∀ x ∈ (List.range k).flatMap fps, g < x ∧ m < x ∧ x < W.heap.size
  low : W1.heap.size ≤ g ∧ g < W.heap.size ∧ W1.heap.size ≤ m ∧ m ≠ g
theorem CrewAt.grow {what size : Int} {vm : Value} {ts : List Th} {m g k : Nat} {fps : Nat → List Nat} {W1 W W' : World} (h : CrewAt what size vm ts m g k fps W1 W) (b : Below W.heap.size W W') : CrewAt what size vm ts m g k fps W1 W' := by
  have z := b.size
  obtain ⟨l1, l2, l3, l4⟩ := h.low
  refine ⟨below_step h.below b, h.box.below b, fun j hj hk => ?_, fun j h1 h2 => ?_, fun j => below_frozen b l2 (h.free j), h.nodup, fun x hx => ?_, l1, by omega, l3, l4⟩
  · obtain ⟨v0, v2, v3, h4, h5⟩ := h.made j hj hk
    exact ⟨v0, v2, v3, h4.keep l2 b, h5.below b⟩
  · obtain ⟨x, hx⟩ := h.todo j h1 h2; exact ⟨x, below_cell b l2 hx⟩
  · obtain ⟨f1, f2, f3⟩ := h.far x hx; exact ⟨f1, f2, by omega⟩
theorem thNewT_at (what : Int) (t : Th) : (thNewT what t).at_ = 0 := by
  unfold thNewT; split <;> rfl
theorem CrewAt.put {what size : Int} {vm : Value} {ts : List Th} {m g k : Nat} {fps : Nat → List Nat} {W1 W W' : World} {v0 v2 v3 : Value} {T : Th} {fp : List Nat} (h : CrewAt what size vm ts m g k fps W1 W) (hk : k < ts.length) (hT : thNewT what ts[k] = T) (b : Below W.heap.size W W') (o : ThO W' v0 v2 v3 T fp) (nd : fp.Nodup) (gg : ∀ x ∈ fp, W.heap.size ≤ x) :
    CrewAt what size vm ts m g (k + 1) (fun j => if j = k then fp else fps j) W1 (put4 W' g (k * 4) v0 (.int .i64 0) v2 v3) := by
  have z := b.size
  obtain ⟨l1, l2, l3, l4⟩ := h.low
  have lm := h.box.1
  have hx : ∀ i, i < 4 → ∃ z, W'.cell? ⟨g, k * 4 + i, none⟩ = some z := fun i hi => by
    obtain ⟨z, hz⟩ := h.todo (k * 4 + i) (by omega) (by omega)
    exact ⟨z, below_cell b l2 hz⟩
  have hnot : ∀ {x}, x ∈ fp → x ≠ g := fun hx e => by have := gg _ hx; omega
  refine ⟨put4_below _ _ _ _ _ _ _ _ _ (below_step h.below b) l1, (h.box.below b).block (by rw [put4_size]; exact Nat.le_refl _) (put4_block _ _ _ _ _ _ _ _ l4), fun j hj hjk => ?_, fun j hj1 hj2 => ?_, fun j => ?_, ?_, ?_, l1, by rw [put4_size]; omega, l3, l4⟩
  · by_cases ej : j = k
    · subst ej
      exact ⟨_, _, _, put4_same W' _ (j * 4) _ _ _ _ hx, by show ThO _ _ _ _ _ (if j = j then fp else fps j); rw [if_pos rfl, hT]; exact o.loc (by rw [put4_size]; omega) (fun x hx => put4_block _ _ _ _ _ _ _ _ (hnot hx))⟩
    · obtain ⟨u0, u2, u3, m4, m5⟩ := h.made j hj (by omega)
      refine ⟨u0, u2, u3, put4_at W' _ (k * 4) _ _ _ _ _ _ _ _ _ _ (m4.keep l2 b) (by omega), ?_⟩
      show ThO _ _ _ _ _ (if j = k then fp else fps j)
      rw [if_neg ej]
      exact (m5.below b).loc (by rw [put4_size]; omega) (fun x hx => put4_block _ _ _ _ _ _ _ _ (by
        have := (h.far x (List.mem_flatMap.2 ⟨j, List.mem_range.2 (by omega), hx⟩)).1
        omega))
  · obtain ⟨z, hz⟩ := h.todo j (by omega) hj2
    exact ⟨z, (put4_other W' g (k * 4) _ _ _ _ g j (by omega)).trans (below_cell b l2 hz)⟩
  · exact (put4_frozen W' g (k * 4) _ _ _ _ g j).trans (below_frozen b l2 (h.free j))
  · rw [flat_succ]
    exact nodup_app (l := g :: (List.range k).flatMap fps) (s := W.heap.size) h.nodup nd (fun x hx => by
      rcases List.mem_cons.1 hx with rfl | hx
      · exact l2
      · exact (h.far x hx).2.2) gg
  · rw [flat_succ]
    intro x hx
    rw [put4_size]
    rcases List.mem_append.1 hx with hx | hx
    · have := h.far x hx; omega
    · have := gg x hx; have := o.lt x hx; omega
def cnOkN (what size : Int) (ts : List Th) : Prop := objOk what size = true ∧ ts.length ≤ 6 ∧ ∀ j (h : j < ts.length), thOkB what ts[j] = true
noncomputable def cnOkB (what size : Int) (ts : List Th) : Bool := @decide (cnOkN what size ts) (Classical.propDecidable _)
theorem cnOkB_yes {what size : Int} {ts : List Th} (h : cnOkN what size ts) : cnOkB what size ts = true := @decide_eq_true _ (Classical.propDecidable _) h
theorem cnOkB_no {what size : Int} {ts : List Th} (h : ¬ cnOkN what size ts) : cnOkB what size ts = false := @decide_eq_false _ (Classical.propDecidable _) h
def cwZero : Cw := ⟨0, 0, [], [], 0⟩
noncomputable def cwMade (what size : Int) (full : Bool) (ts : List Th) : Cw := ⟨what, size, objL what size full, ts.map (thNewT what), 0⟩
noncomputable def cwNewC (what size : Int) (full : Bool) (ts : List Th) : Cw := if cnOkB what size ts = true then cwMade what size full ts else cwZero
theorem cwNewC_no {what size : Int} {full : Bool} {ts : List Th} (h : ¬ cnOkN what size ts) : cwNewC what size full ts = cwZero := by unfold cwNewC; rw [cnOkB_no h]; simp
theorem cwNewC_yes {what size : Int} {full : Bool} {ts : List Th} (h : cnOkN what size ts) : cwNewC what size full ts = cwMade what size full ts := by unfold cwNewC; rw [cnOkB_yes h]; simp
theorem zero_owns (W : World) : CwO W (.slice none 0 0) (.slice none 0 0) cwZero [] := ⟨[], [], rfl, ⟨none, 0, rfl, trivial, .inl ⟨rfl, rfl⟩⟩, ⟨none, 0, rfl, Nat.le_refl _, .inl ⟨rfl, rfl⟩⟩⟩
theorem CrewAt.owns {what size : Int} {full : Bool} {vm : Value} {ts : List Th} {m g : Nat} {fps : Nat → List Nat} {f1 : List Nat} {W1 W : World} (h : CrewAt what size vm ts m g ts.length fps W1 W) (o : IntsO W1 vm (objL what size full) f1) : CwO W vm (.slice (some ⟨g, 0, none⟩) ts.length ts.length) (cwMade what size full ts) (f1 ++ (g :: (List.range ts.length).flatMap fps)) := by
  refine ⟨f1, g :: (List.range ts.length).flatMap fps, rfl, o.below h.below, ⟨_, ts.length, by simp [cwMade], by simp [cwMade], .inr ⟨g, fps, rfl, by simp [cwMade], h.low.2.1, fun j hj => ?_, h.free⟩⟩⟩
  have hj' : j < ts.length := by simpa [cwMade] using hj
  obtain ⟨v0, v2, v3, h4, h5⟩ := h.made j hj' hj'
  have e : (cwMade what size full ts).ts[j] = thNewT what ts[j] := by simp [cwMade]
  rw [e, thNewT_at]
  exact ⟨v0, v2, v3, h4, h5⟩
theorem CwO.set {w : World} {vm vt : Value} {C : Cw} {fp : List Nat} (h : CwO w vm vt C fp) {p i : Nat} {x : Value} (hp : ¬ p ∈ fp) : CwO (w.setCell ⟨p, i, none⟩ x) vm vt C fp :=
  h.loc (by simp) (fun g hg => Below.heap_setCell _ _ _ _ (by show g ≠ p; intro e; exact hp (e ▸ hg)))
theorem CrewAt.fp {what size : Int} {vm : Value} {ts : List Th} {m g k s : Nat} {fps : Nat → List Nat} {f1 : List Nat} {W1 W : World} (h : CrewAt what size vm ts m g k fps W1 W) (nd : f1.Nodup) (l1 : ∀ x ∈ f1, s < x ∧ x < W1.heap.size) (hs : s < W1.heap.size) : (f1 ++ (g :: (List.range k).flatMap fps)).Nodup ∧ ∀ x ∈ f1 ++ (g :: (List.range k).flatMap fps), s < x := by
  obtain ⟨k1, k2, k3, k4⟩ := h.low
  have hc : ∀ x ∈ g :: (List.range k).flatMap fps, W1.heap.size ≤ x := fun x hx => by
    rcases List.mem_cons.1 hx with rfl | hx
    · exact k1
    · have := h.far x hx; omega
  refine ⟨nodup_app (s := W1.heap.size) nd h.nodup (fun x hx => (l1 x hx).2) hc, fun x hx => ?_⟩
  rcases List.mem_append.1 hx with hx | hx
  · exact (l1 x hx).1
  · have := hc x hx; omega
/- what the region of the call knows -/
theorem s8_grow {m g nb n : Nat} {v0 v1 v2 v3 : Value} {W W' : World} (h : W.cell? ⟨m, 3, none⟩ = some (.slice (some ⟨g, 0, none⟩) n n) ∧ W.cell? ⟨nb, 0, none⟩ = some v0 ∧ W.cell? ⟨nb, 1, none⟩ = some v1 ∧ W.cell? ⟨nb, 2, none⟩ = some v2 ∧ W.cell? ⟨nb, 3, none⟩ = some v3) (b : Below W.heap.size W W') (hm : m < W.heap.size) (hn : nb < W.heap.size) : W'.cell? ⟨m, 3, none⟩ = some (.slice (some ⟨g, 0, none⟩) n n) ∧ W'.cell? ⟨nb, 0, none⟩ = some v0 ∧ W'.cell? ⟨nb, 1, none⟩ = some v1 ∧ W'.cell? ⟨nb, 2, none⟩ = some v2 ∧ W'.cell? ⟨nb, 3, none⟩ = some v3 :=
  ⟨below_cell b hm h.1, below_cell b hn h.2.1, below_cell b hn h.2.2.1, below_cell b hn h.2.2.2.1, below_cell b hn h.2.2.2.2⟩
theorem s8_set {m g nb n : Nat} {v0 v1 v2 v3 : Value} {W : World} (h : W.cell? ⟨m, 3, none⟩ = some (.slice (some ⟨g, 0, none⟩) n n) ∧ W.cell? ⟨nb, 0, none⟩ = some v0 ∧ W.cell? ⟨nb, 1, none⟩ = some v1 ∧ W.cell? ⟨nb, 2, none⟩ = some v2 ∧ W.cell? ⟨nb, 3, none⟩ = some v3) (i : Nat) (x : Value) (hm : m ≠ g) (hn : nb ≠ g) : (W.setCell ⟨g, i, none⟩ x).cell? ⟨m, 3, none⟩ = some (.slice (some ⟨g, 0, none⟩) n n) ∧ (W.setCell ⟨g, i, none⟩ x).cell? ⟨nb, 0, none⟩ = some v0 ∧ (W.setCell ⟨g, i, none⟩ x).cell? ⟨nb, 1, none⟩ = some v1 ∧ (W.setCell ⟨g, i, none⟩ x).cell? ⟨nb, 2, none⟩ = some v2 ∧ (W.setCell ⟨g, i, none⟩ x).cell? ⟨nb, 3, none⟩ = some v3 := by
  refine ⟨?_, ?_, ?_, ?_, ?_⟩
  all_goals rw [World.cell?_setCell_other _ _ _ _ (by simp <;> omega)]
  · exact h.1
  · exact h.2.1
  · exact h.2.2.1
  · exact h.2.2.2.1
  · exact h.2.2.2.2

end Go.Proofs.Ytpfofjcfaelocaa
