/- What makes a pool well, and where its places are: plain definitions and lemmas. -/
import Derived.Test.YtikliofkplbdpaaRows
import Derived.WalkKit
import Derived.ProofKit
import Derived.OpenShut
import Derived.ShutString
import Derived.Test.YtikliofkplbdpaaMapPlain
import Derived.Test.YtikliofkplbdpaaPoolPlain
import Derived.Test.YtikliofkplbdpaaLimboPlain
namespace Go.Proofs.Ytikliofkplbdpaa
open Go.ChangeShapes Go.WideShapes Go.ChangeAt Go.RowKit
set_option linter.unusedVariables false

def nodesL (L : List (Int × Int)) : List Int := L.map (·.1)
def allOf (P : Pl) : List Int := P.fr ++ (P.lv ++ nodesL P.L)
def RisesP (xs : List Int) : Prop := ∀ j, 0 < j → ∀ hj : j < xs.length, xs[j - 1]'(by omega) < xs[j]
def PlacesP (l : List Int) : Prop := ∀ j (hj : j < l.length), 0 ≤ l[j] ∧ l[j] < (l.length : Int) ∧ ¬ l[j] ∈ l.take j
def HoldsAll (l : List Int) : Prop := ∀ k : Nat, k < l.length → (k : Int) ∈ l
def riseB (xs : List Int) : Bool := (List.range xs.length).all fun j => decide (j = 0) || decide (xs.getD (j - 1) 0 < xs.getD j 0)
def placesB (l : List Int) : Bool := (List.range l.length).all fun j => decide (0 ≤ l.getD j 0) && decide (l.getD j 0 < (l.length : Int)) && !decide (l.getD j 0 ∈ l.take j)
theorem getD_of {l : List Int} {j : Nat} (h : j < l.length) : l.getD j 0 = l[j] := by simp [List.getD, h]
theorem riseB_iff (xs : List Int) : riseB xs = true ↔ RisesP xs := by
  unfold riseB
  rw [List.all_eq_true]
  constructor
  · intro h j h0 hj
    have := h j (List.mem_range.2 hj)
    rw [getD_of hj, getD_of (show j - 1 < xs.length by omega)] at this
    simp at this
    rcases this with this | this
    · omega
    · exact this
  · intro h j hj
    have hj := List.mem_range.1 hj
    rw [getD_of hj, getD_of (show j - 1 < xs.length by omega)]
    by_cases h0 : j = 0
    · simp [h0]
    · have := h j (by omega) hj
      simp [this]
theorem placesB_iff (l : List Int) : placesB l = true ↔ PlacesP l := by
  unfold placesB
  rw [List.all_eq_true]
  constructor
  · intro h j hj
    have := h j (List.mem_range.2 hj)
    rw [getD_of hj] at this
    simp only [Bool.and_eq_true, decide_eq_true_eq, Bool.not_eq_true', decide_eq_false_iff_not] at this
    exact ⟨this.1.1, this.1.2, this.2⟩
  · intro h j hj
    have hj := List.mem_range.1 hj
    rw [getD_of hj]
    have := h j hj
    simp only [Bool.and_eq_true, decide_eq_true_eq, Bool.not_eq_true', decide_eq_false_iff_not]
    exact ⟨⟨this.1, this.2.1⟩, this.2.2⟩
def plOkB (P : Pl) : Bool := okB P.a P.ps P.L && decide ((allOf P).length ≤ 100) && riseB P.lv && placesB (allOf P)
theorem bool_no {b : Bool} {p : Prop} (h : b = true ↔ p) (k : ¬ p) : b = false := by
  cases b with
  | false => rfl
  | true => exact absurd (h.1 rfl) k
theorem riseB_no {xs : List Int} {j : Nat} (h0 : 0 < j) (hj : j < xs.length) (h : ¬ xs[j - 1]'(by omega) < xs[j]) : riseB xs = false := bool_no (riseB_iff xs) (fun k => h (k j h0 hj))
theorem riseB_yes {xs : List Int} (h : RisesP xs) : riseB xs = true := (riseB_iff xs).2 h
theorem placesB_no {l : List Int} {j : Nat} (hj : j < l.length) (h : ¬ (0 ≤ l[j] ∧ l[j] < (l.length : Int) ∧ ¬ l[j] ∈ l.take j)) : placesB l = false := bool_no (placesB_iff l) (fun k => h (k j hj))
theorem placesB_yes {l : List Int} (h : PlacesP l) : placesB l = true := (placesB_iff l).2 h
theorem places_nodup {l : List Int} (h : PlacesP l) : l.Nodup ∧ ∀ x ∈ l, 0 ≤ x ∧ x < (l.length : Int) := by
  refine ⟨List.pairwise_iff_getElem.2 fun i j hi hj hij e => (h j hj).2.2 ?_, fun x hx => ?_⟩
  · rw [← e]
    exact List.mem_take_iff_getElem.2 ⟨i, by omega, rfl⟩
  · obtain ⟨j, hj, rfl⟩ := List.mem_iff_getElem.1 hx
    exact ⟨(h j hj).1, (h j hj).2.1⟩
theorem pigeon (n : Nat) : ∀ l : List Int, (∀ x ∈ l, 0 ≤ x ∧ x < (n : Int)) → l.Nodup → l.length ≤ n ∧ (l.length = n → ∀ k : Nat, k < n → (k : Int) ∈ l) := by
  induction n with
  | zero =>
    intro l h _
    cases l with
    | nil => exact ⟨Nat.le_refl _, fun _ k hk => by omega⟩
    | cons x l => have := h x (List.mem_cons_self ..); omega
  | succ n ih =>
    intro l h hn
    by_cases hm : (n : Int) ∈ l
    · have p := List.perm_cons_erase hm
      have hn2 := p.nodup hn
      have h2 : ∀ x ∈ l.erase (n : Int), 0 ≤ x ∧ x < (n : Int) := by
        intro x hx
        have h3 := h x (List.mem_of_mem_erase hx)
        have h4 : x ≠ (n : Int) := fun e => (List.nodup_cons.1 hn2).1 (e ▸ hx)
        omega
      obtain ⟨i1, i2⟩ := ih _ h2 (List.nodup_cons.1 hn2).2
      have hl := p.length_eq
      simp only [List.length_cons] at hl
      refine ⟨by omega, fun e k hk => ?_⟩
      by_cases hkn : k = n
      · subst hkn; exact hm
      · exact List.mem_of_mem_erase (i2 (by omega) k (by omega))
    · have h2 : ∀ x ∈ l, 0 ≤ x ∧ x < (n : Int) := by
        intro x hx
        have h3 := h x hx
        have h4 : x ≠ (n : Int) := fun e => hm (e ▸ hx)
        omega
      obtain ⟨i1, i2⟩ := ih _ h2 hn
      exact ⟨by omega, fun e => by omega⟩
theorem covers (n : Nat) : ∀ l : List Int, l.length = n → (∀ k : Nat, k < n → (k : Int) ∈ l) → (∀ x ∈ l, 0 ≤ x ∧ x < (n : Int)) ∧ l.Nodup := by
  induction n with
  | zero =>
    intro l h _
    obtain rfl := List.length_eq_zero_iff.1 h
    exact ⟨fun x hx => by simp at hx, List.nodup_nil⟩
  | succ n ih =>
    intro l h hk
    have hm := hk n (by omega)
    have p := List.perm_cons_erase hm
    have hl := p.length_eq
    simp only [List.length_cons] at hl
    obtain ⟨i1, i2⟩ := ih (l.erase (n : Int)) (by omega) (fun k hk2 => (List.mem_erase_of_ne (by omega)).2 (hk k (by omega)))
    have hnn : ¬ (n : Int) ∈ l.erase (n : Int) := fun hx => by have := i1 _ hx; omega
    refine ⟨fun x hx => ?_, p.symm.nodup (List.nodup_cons.2 ⟨hnn, i2⟩)⟩
    rcases List.mem_cons.1 (p.mem_iff.1 hx) with rfl | hx
    · omega
    · have := i1 x hx; omega
theorem places_iff (l : List Int) : PlacesP l ↔ HoldsAll l := by
  constructor
  · intro h
    obtain ⟨h1, h2⟩ := places_nodup h
    exact (pigeon l.length l h2 h1).2 rfl
  · intro h j hj
    obtain ⟨h1, h2⟩ := covers l.length l rfl h
    refine ⟨(h1 _ (List.getElem_mem hj)).1, (h1 _ (List.getElem_mem hj)).2, fun hm => ?_⟩
    obtain ⟨i, hi, e⟩ := List.mem_take_iff_getElem.1 hm
    exact List.pairwise_iff_getElem.1 h2 i j (by omega) hj (by omega) e
theorem placesB_hold {l : List Int} (h : HoldsAll l) : placesB l = true := placesB_yes ((places_iff l).2 h)
theorem placesB_lack {l : List Int} {k : Nat} (hk : k < l.length) (h : ¬ (k : Int) ∈ l) : placesB l = false := bool_no (placesB_iff l) (fun p => h ((places_iff l).1 p k hk))
theorem plOk_parts {P : Pl} (h : plOkB P = true) : okB P.a P.ps P.L = true ∧ (allOf P).length ≤ 100 ∧ RisesP P.lv ∧ PlacesP (allOf P) := by
  simp only [plOkB, Bool.and_eq_true] at h
  obtain ⟨⟨⟨h1, h2⟩, h3⟩, h4⟩ := h
  exact ⟨h1, of_decide_eq_true h2, (riseB_iff _).1 h3, (placesB_iff _).1 h4⟩
theorem plOk_no1 {P : Pl} (h : okB P.a P.ps P.L = false) : plOkB P = false := by simp [plOkB, h]
theorem plOk_no2 {P : Pl} (h : ¬ (allOf P).length ≤ 100) : plOkB P = false := by simp [plOkB, h]
theorem plOk_no3 {P : Pl} (h : riseB P.lv = false) : plOkB P = false := by simp [plOkB, h]
theorem plOk_no4 {P : Pl} (h : placesB (allOf P) = false) : plOkB P = false := by simp [plOkB, h]
theorem plOk_yes {P : Pl} (h1 : okB P.a P.ps P.L = true) (h2 : (allOf P).length ≤ 100) (h3 : riseB P.lv = true) (h4 : placesB (allOf P) = true) : plOkB P = true := by simp [plOkB, h1, h2, h3, h4]
theorem allOf_len (P : Pl) : (allOf P).length = P.fr.length + P.lv.length + P.L.length := by simp [allOf, nodesL]; omega
/- where each place is: 1 free, 2 alive, 3 in limbo -/
def stU (P : Pl) : List (Int × (Int × Int)) := P.fr.map (fun z => (z, (1, 0))) ++ (P.lv.map (fun z => (z, (2, 0))) ++ P.L.map (fun q => (q.1, (3, q.2))))
def stF (P : Pl) : Int → Option (Int × Int) := putAll (stU P) (fun _ => none)
theorem stU_keys (P : Pl) : (stU P).map (·.1) = allOf P := by simp [stU, allOf, nodesL, List.map_map, Function.comp_def]
theorem putAll_old (U : List (Int × (Int × Int))) (g : Int → Option (Int × Int)) (z : Int) (h : ¬ z ∈ U.map (·.1)) : putAll U g z = g z := by
  induction U generalizing g with
  | nil => rfl
  | cons p U ih =>
    simp only [List.map_cons, List.mem_cons, not_or] at h
    show putAll U (updF g p.1 p.2) z = g z
    rw [ih _ h.2]
    simp [updF, h.1]
theorem putAll_mem (U : List (Int × (Int × Int))) (g : Int → Option (Int × Int)) (z : Int) (h : z ∈ U.map (·.1)) : ∃ q, putAll U g z = some q ∧ (z, q) ∈ U := by
  induction U generalizing g with
  | nil => simp at h
  | cons p U ih =>
    by_cases hz : z ∈ U.map (·.1)
    · obtain ⟨q, h1, h2⟩ := ih (updF g p.1 p.2) hz
      exact ⟨q, h1, List.mem_cons_of_mem _ h2⟩
    · have hp : z = p.1 := by simpa [hz] using h
      refine ⟨p.2, ?_, by rw [hp]; exact List.mem_cons_self ..⟩
      show putAll U (updF g p.1 p.2) z = some p.2
      rw [putAll_old U _ z hz]
      simp [updF, hp]
theorem putAll_nodup (U : List (Int × (Int × Int))) (g : Int → Option (Int × Int)) (hn : (U.map (·.1)).Nodup) (z : Int) (q : Int × Int) (h : (z, q) ∈ U) : putAll U g z = some q := by
  obtain ⟨q', h1, h2⟩ := putAll_mem U g z (List.mem_map.2 ⟨_, h, rfl⟩)
  rw [h1]
  obtain ⟨i, hi, ei⟩ := List.mem_iff_getElem.1 h
  obtain ⟨j, hj, ej⟩ := List.mem_iff_getElem.1 h2
  have hp := List.pairwise_iff_getElem.1 hn
  have key : i = j := by
    rcases Nat.lt_trichotomy i j with hlt | rfl | hlt
    · exact absurd (by rw [List.getElem_map, List.getElem_map, ei, ej]) (hp i j (by simpa using hi) (by simpa using hj) hlt)
    · rfl
    · exact absurd (by rw [List.getElem_map, List.getElem_map, ei, ej]) (hp j i (by simpa using hj) (by simpa using hi) hlt)
  subst key
  rw [ei] at ej
  cases ej
  rfl
theorem stF_none (P : Pl) (z : Int) (h : ¬ z ∈ allOf P) : stF P z = none := putAll_old _ _ _ (by rw [stU_keys]; exact h)
theorem stF_some (P : Pl) (z : Int) (h : z ∈ allOf P) : ∃ q, stF P z = some q ∧ q.1 ≠ 0 := by
  obtain ⟨q, h1, h2⟩ := putAll_mem (stU P) (fun _ => none) z (by rw [stU_keys]; exact h)
  refine ⟨q, h1, ?_⟩
  simp only [stU, List.mem_append, List.mem_map] at h2
  rcases h2 with ⟨y, -, e⟩ | ⟨y, -, e⟩ | ⟨y, -, e⟩ <;> (cases e; simp)

end Go.Proofs.Ytikliofkplbdpaa
