/- slices.SortFunc of a row of facts of one's own, by the turns of tickets. -/
import Derived.Test.YtmifnemjihffkaaRows
import Derived.WalkKit
import Derived.ProofKit
import Derived.OpenShut
import Derived.ShutString
import Derived.Test.YtmifnemjihffkaaFactsPlain
import Derived.Test.YtmifnemjihffkaaSrcPlain
import Derived.Test.YtmifnemjihffkaaSortShelf
import Derived.Shelf.SlSortCmp.NoneTotal
import Derived.Sort.OwnSortedInts
namespace Go.Proofs.Ytmifnemjihffkaa
open Go.ChangeShapes Go.WideShapes Go.ChangeAt Go.RowKit
set_option linter.unusedVariables false

theorem flat_eights (S : List Fc) : (Go.Sort.flatK eight 8 S.toArray).toList = eights S := by
  apply List.ext_getElem?
  intro j
  have hl := eights_len S
  by_cases hj : j < S.length * 8
  · have h1 := Go.Sort.get_flatK eight 8 S.toArray j (by simpa using hj)
    have hq : j / 8 < S.length := by omega
    have h2 := eights_at S (j / 8) hq (j % 8) (Nat.mod_lt _ (by omega))
    rw [show j / 8 * 8 + j % 8 = j by omega] at h2
    rw [h2, Array.getElem?_toList, Array.getElem?_eq_getElem (by simpa using hj)]
    rw [getElem!_pos _ j (by simpa using hj)] at h1
    rw [h1]
    have h3 : (S.toArray[j / 8]!) = S[j / 8] := by simp [hq]
    rw [h3, getElem!_pos _ (j % 8) (by rw [eight_len]; exact Nat.mod_lt _ (by omega))]
    rw [List.getElem?_eq_getElem (by rw [eight_len]; exact Nat.mod_lt _ (by omega))]
  · rw [List.getElem?_eq_none (by simp; omega), List.getElem?_eq_none (by omega)]
theorem heap_sortedF {w : World} {g n : Nat} {os : Array Obj} {cur : Array Value} {e : TypeId} {fr : Nat × Nat} (F : Array Value) (hb : w.heap[g]? = some (.cells cur e fr)) :
    (Go.Sort.grow (Go.Sort.putRow id (Go.Sort.ahead w n) g 0 F) os).heap[g]? = some (.cells (Go.Sort.putCells id 0 F cur) e fr) := by
  have hg : g < w.heap.size := (Array.getElem?_eq_some_iff.1 hb).1
  rw [Go.Sort.heap_grow_old _ _ (by simpa [Go.Sort.putRow, Go.Sort.mapBlock] using hg)]
  simp [Go.Sort.putRow, Go.Sort.mapBlock, Go.Sort.ahead, Array.getElem?_modify, hb, Go.Sort.onCells]
theorem grownBy_sortedF {w : World} {g n : Nat} {os : Array Obj} (F : Array Value) : w.grownBy (Go.Sort.grow (Go.Sort.putRow id (Go.Sort.ahead w n) g 0 F) os) (some g) := by
  refine ⟨rfl, rfl, rfl, by simp [Go.Sort.putRow, Go.Sort.mapBlock, Go.Sort.ahead], fun k hk hne => ?_⟩
  rw [Go.Sort.heap_grow_old _ _ (by simpa [Go.Sort.putRow, Go.Sort.mapBlock, Go.Sort.ahead] using hk)]
  have : g ≠ k := fun e => hne (by rw [e])
  simp [Go.Sort.putRow, Go.Sort.mapBlock, Go.Sort.ahead, Array.getElem?_modify, this]
theorem take_putCellsF (cur F : Array Value) (h : F.size ≤ cur.size) : (Go.Sort.putCells id 0 F cur).toList.take F.size = F.toList := by
  apply List.ext_getElem?
  intro j
  by_cases hj : j < F.size
  · rw [List.getElem?_take_of_lt hj, Array.getElem?_toList]
    simp [Go.Sort.putCells, hj, show j < cur.size by omega]
  · rw [List.getElem?_take_eq_none (by omega), List.getElem?_eq_none (by simp; omega)]
theorem own_sortedF {w : World} {base g cap m n : Nat} {e : TypeId} {os : Array Obj} {L S : List Fc} (own : w.ownsRow base e 8 (.slice (some ⟨g, 0, none⟩) n cap) n (eights L)) (hl : S.length = L.length) :
    (sortWorldK eight 8 w g 0 m S.toArray os).ownsRow base e 8 (.slice (some ⟨g, 0, none⟩) n cap) n (eights S) := by
  have hL := eights_len L
  have hS := eights_len S
  have hn := own.1
  rcases own.2 with ⟨h, -⟩ | ⟨g', cap', cur, hv, h1, h2, h3, h4, h5, h6⟩
  · cases h
  · simp at hv
    obtain ⟨rfl, rfl⟩ := hv
    have hF : (Go.Sort.flatK eight 8 S.toArray).size = n * 8 := by simp; omega
    refine ⟨by omega, .inr ⟨g, cap, _, rfl, h1, heap_sortedF _ h2, h3, h4, by simp [Go.Sort.putCells, h5], ?_⟩⟩
    have := take_putCellsF cur (Go.Sort.flatK eight 8 S.toArray) (by rw [hF, h5]; exact Nat.mul_le_mul_right _ h3)
    rw [hF, flat_eights] at this
    exact this
theorem holdsK_own {w : World} {base g cap n : Nat} {e : TypeId} {L : List Fc} (own : w.ownsRow base e 8 (.slice (some ⟨g, 0, none⟩) n cap) n (eights L)) : Go.Sort.HoldsK eight 8 w g 0 L.toArray := by
  intro j hj
  rcases own_cells2 own with ⟨h, -⟩ | ⟨g', cap', hv, h1, h2, h3, h4, h5, h6, h7⟩
  · cases h
  · simp at hv
    obtain ⟨rfl, rfl⟩ := hv
    have e : (Go.Sort.flatK eight 8 L.toArray)[j]! = (eights L)[j]'(by rw [eights_len]; simpa using hj) := by
      rw [getElem!_pos _ j hj, ← Array.getElem_toList]
      simp only [flat_eights]
    exact ⟨by rw [Nat.zero_add, e]; exact h6 j _, h7 _⟩
def byTurn (x y : Fc) : Int := Go.Lib.compareInt x.t y.t
theorem ltTurn (x y : Fc) : ltOf byTurn x y = decide (x.t < y.t) := by
  unfold ltOf byTurn Go.Lib.compareInt
  by_cases h1 : x.t < y.t
  · simp [h1]
  · by_cases h2 : y.t < x.t <;> simp [h1, h2]
theorem swoTurn : Go.Sort.SWO (ltOf byTurn) where
  irrefl x := by rw [ltTurn]; simp
  trans x y z h1 h2 := by rw [ltTurn] at *; simp at *; omega
  ntrans x y z h1 h2 := by rw [ltTurn] at *; simp at *; omega
set_option maxHeartbeats 1000000 in
set_option maxRecDepth 100000 in
theorem closure_turn (x y : Fc) (W : World) : Calls Try.prog 67 #[.agg #[.int .i64 x.th, .int .i64 x.k, .int .i64 x.a, .int .i64 x.r, .int .i64 x.v, .int .i64 x.t, .int .i64 x.b, .int .i64 x.e], .agg #[.int .i64 y.th, .int .i64 y.k, .int .i64 y.a, .int .i64 y.r, .int .i64 y.v, .int .i64 y.t, .int .i64 y.b, .int .i64 y.e]] W fun e w' => e = .returned (.int .i64 (byTurn x y)) ∧ ∃ q os', w' = Go.Sort.grow (W.drewN q) os' := by
  have hcon := fun W' => Try.cmp_Compare_int x.t y.t W'
  unfold byTurn
  generalize Go.Lib.compareInt x.t y.t = r at hcon ⊢
  go_enter Try.func67, Try.ntmps67
  go_wp2_with (go_at_call 53; refine (hcon _).mono ?_; rintro e w' ⟨rfl, rfl⟩)
  go_ret
  exact ⟨rfl, 0, _, by rw [Go.Sort.alloc_eq_grow, Go.Sort.alloc_eq_grow, Go.Sort.grow_grow]; rfl⟩
theorem sorted_of {d' : Array Fc} {n : Nat} (h : Go.Sort.SortedIn (ltOf byTurn) 0 n d') (hn : d'.size = n) : ∀ i j (hij : i < j) (hj : j < d'.toList.length), (d'.toList[i]'(by omega)).t ≤ (d'.toList[j]).t := by
  intro i j hij hj
  have hj' : j < d'.size := by simpa using hj
  have h1 := h i j (Nat.zero_le _) hij (by omega)
  rw [ltTurn, getElem!_pos d' j hj', getElem!_pos d' i (by omega)] at h1
  have := of_decide_eq_false h1
  simp only [Array.getElem_toList]
  omega
theorem perm_of {d d' : Array Fc} (h : Go.Sort.PermIn 0 d.size d d') : d'.toList.Perm d.toList := by
  obtain ⟨h1, -, h3⟩ := h
  rw [Array.extract_eq_self_of_le (by omega), Array.extract_eq_self_of_le (Nat.le_refl _)] at h3
  exact h3
set_option maxHeartbeats 1000000 in
set_option maxRecDepth 100000 in
theorem sort_facts (g cap base : Nat) (L : List Fc) (w : World) (hn : L.length ≤ 4194304) (own : w.ownsRow base 46 8 (.slice (some ⟨g, 0, none⟩) L.length cap) L.length (eights L)) :
    Calls Try.prog 66 #[.slice (some ⟨g, 0, none⟩) L.length cap, .func (.func 67) #[] #[]] w fun e w' => e = .returned (.tuple #[]) ∧ ∃ S : List Fc, S.Perm L ∧ (∀ i j (hij : i < j) (hj : j < S.length), (S[i]'(by omega)).t ≤ S[j].t) ∧ w'.ownsRow base 46 8 (.slice (some ⟨g, 0, none⟩) L.length cap) L.length (eights S) ∧ w.grownBy w' (some g) := by
  have eg : ∀ args w, (callFunc 67 args).run Try.prog w = .ok (.enter 67 args) w := enters_of Try.func67 (by kernel_rfl) rfl
  have hlt : g < w.heap.size := (own.lt g rfl).2
  have hcon := AnyQ.slices_SortFunc Try.sortFact 8 Try.isAgg46 Try.sizeOf46 eight (fun _ => rfl) (fun x v hv => eight_oneCell x v hv) byTurn swoTurn 67 #[] g 0 cap L.toArray w eg (fun _ _ _ _ x y => closure_turn x y _) (holdsK_own own) hlt (by simp; omega)
  change Calls Try.prog 66 _ _ _ at hcon
  simp only [List.size_toArray] at hcon
  refine hcon.mono ?_
  rintro e w' ⟨rfl, d', n, os, hp, hs, rfl⟩
  have hp1 := perm_of (d := L.toArray) (by simpa using hp)
  have hsz : d'.size = L.length := by simpa using hp.1
  refine ⟨rfl, d'.toList, by simpa using hp1, sorted_of hs hsz, ?_, grownBy_sortedF _⟩
  have := own_sortedF (m := n) (os := os) (S := d'.toList) own (by simpa using hsz)
  simpa using this
theorem sort_empty (p : Option Addr) (c : Nat) (w : World) :
    Calls Try.prog 66 #[.slice p 0 c, .func (.func 67) #[] #[]] w fun e w' => e = .returned (.tuple #[]) ∧ w' = w := by
  have h := AnyF.slices_SortFunc_none Try.sortFact p c (.func (.func 67) #[] #[]) w
  exact h

end Go.Proofs.Ytmifnemjihffkaa
