/- Tickets of a ring: plain lemmas. -/
import Derived.Test.YtmifnemjihffkaaRows
import Derived.WalkKit
import Derived.ProofKit
import Derived.OpenShut
import Derived.ShutString
import Derived.Test.YtmifnemjihffkaaFactsPlain
namespace Go.Proofs.Ytmifnemjihffkaa
open Go.ChangeShapes Go.WideShapes Go.ChangeAt Go.RowKit
set_option linter.unusedVariables false

def tookB (kind : Int) (f : Fc) : Bool := (f.k == kind) && (f.r == 1)
def took (L : List Fc) (kind : Int) : List Fc := L.filter (tookB kind)
def onTurn (T : List Fc) (k : Int) : List Fc := T.filter (fun f => f.t == k)
def inTurns (T : List Fc) : Prop := ∀ k : Nat, k < T.length → (onTurn T (k : Int)).length = 1
def turnOf (T : List Fc) (k : Int) : Fc := (onTurn T k).getLastD factZero
theorem take_step (L : List Fc) (k : Nat) (h : k < L.length) : L.take (k + 1) = L.take k ++ [L[k]] := List.take_succ_eq_append_getElem h
theorem took_step (L : List Fc) (kind : Int) (k : Nat) (h : k < L.length) : took (L.take (k + 1)) kind = took (L.take k) kind ++ (if tookB kind L[k] = true then [L[k]] else []) := by
  unfold took
  rw [take_step L k h, List.filter_append]
  congr 1
  by_cases e : tookB kind L[k] = true <;> simp [e]
theorem took_len (L : List Fc) (kind : Int) (k : Nat) : (took (L.take k) kind).length ≤ k := by
  unfold took
  have := List.length_filter_le (tookB kind) (L.take k)
  have := List.length_take (i := k) (l := L)
  omega
theorem onTurn_app (T U : List Fc) (k : Int) : onTurn (T ++ U) k = onTurn T k ++ onTurn U k := by simp [onTurn]
theorem onTurn_len (T : List Fc) (k : Int) : (onTurn T k).length ≤ T.length := List.length_filter_le _ _
theorem turnOf_snoc (T : List Fc) (f : Fc) (k : Int) (h : f.t = k) : turnOf (T ++ [f]) k = f := by
  unfold turnOf
  rw [onTurn_app]
  simp [onTurn, h]
theorem turnOf_skip (T : List Fc) (f : Fc) (k : Int) (h : ¬ f.t = k) : turnOf (T ++ [f]) k = turnOf T k ∧ onTurn (T ++ [f]) k = onTurn T k := by
  unfold turnOf
  rw [onTurn_app]
  have : onTurn [f] k = [] := by simp [onTurn, h]
  rw [this, List.append_nil]
  exact ⟨rfl, rfl⟩
/- how many of a list lie from 0 on, below m -/
theorem below_step' (U : List Fc) (m : Nat) : (U.filter (fun f => decide (0 ≤ f.t ∧ f.t < ((m + 1 : Nat) : Int)))).length = (U.filter (fun f => decide (0 ≤ f.t ∧ f.t < (m : Int)))).length + (onTurn U (m : Int)).length := by
  induction U with
  | nil => rfl
  | cons f U ih =>
    unfold onTurn at ih ⊢
    simp only [List.filter_cons]
    by_cases h1 : 0 ≤ f.t ∧ f.t < (m : Int)
    · rw [if_pos (by simp; omega), if_pos (by simp; omega), if_neg (by simp; omega)]
      simp only [List.length_cons]
      omega
    · by_cases h2 : f.t = (m : Int)
      · rw [if_pos (by simp; omega), if_neg (by simp; omega), if_pos (by simp; omega)]
        simp only [List.length_cons]
        omega
      · rw [if_neg (by simp; omega), if_neg (by simp; omega), if_neg (by simp; omega)]
        exact ih
theorem below_all (U : List Fc) (h : inTurns U) : ∀ m, m ≤ U.length → (U.filter (fun f => decide (0 ≤ f.t ∧ f.t < (m : Int)))).length = m
  | 0, _ => by
    have : U.filter (fun f => decide (0 ≤ f.t ∧ f.t < ((0 : Nat) : Int))) = [] := List.filter_eq_nil_iff.2 (fun f _ => by simp)
    rw [this]; rfl
  | m + 1, hm => by rw [below_step', below_all U h m (by omega), h m (by omega)]
theorem filter_all {α : Type} (p : α → Bool) : ∀ (U : List α), (U.filter p).length = U.length → ∀ x ∈ U, p x = true
  | [], _ => by simp
  | y :: U, h => by
    have hle := List.length_filter_le p U
    by_cases hy : p y = true
    · rw [List.filter_cons_of_pos hy] at h
      intro x hx
      rcases List.mem_cons.1 hx with rfl | hx
      · exact hy
      · exact filter_all p U (by simpa using h) x hx
    · rw [List.filter_cons_of_neg hy] at h
      simp at h
      omega
theorem turns_low (U : List Fc) (h : inTurns U) : ∀ f ∈ U, 0 ≤ f.t ∧ f.t < (U.length : Int) := by
  have := filter_all _ U (below_all U h U.length (Nat.le_refl _))
  intro f hf
  simpa using this f hf
theorem onTurn_perm {S T : List Fc} (h : S.Perm T) (k : Int) : (onTurn S k).Perm (onTurn T k) := h.filter _
theorem inTurns_perm {S T : List Fc} (h : S.Perm T) (g : inTurns T) : inTurns S := fun k hk => by
  rw [(onTurn_perm h _).length_eq]
  exact g k (by rw [← h.length_eq]; exact hk)
/- two places of one turn -/
theorem two_on (S : List Fc) (k : Int) (i j : Nat) (hij : i < j) (hj : j < S.length) (hi : (S[i]'(by omega)).t = k) (hk : S[j].t = k) : 2 ≤ (onTurn S k).length := by
  have e : S = S.take j ++ S.drop j := (List.take_append_drop j S).symm
  have h1 : 1 ≤ (onTurn (S.take j) k).length := by
    have : S[i]'(by omega) ∈ onTurn (S.take j) k := List.mem_filter.2 ⟨List.mem_take_iff_getElem.2 ⟨i, by omega, rfl⟩, by simp [hi]⟩
    exact List.length_pos_of_mem this
  have h2 : 1 ≤ (onTurn (S.drop j) k).length := by
    have : S[j] ∈ onTurn (S.drop j) k := List.mem_filter.2 ⟨List.mem_drop_iff_getElem.2 ⟨0, by omega, by simp⟩, by simp [hk]⟩
    exact List.length_pos_of_mem this
  rw [e, onTurn_app, List.length_append]
  omega
theorem turns_sorted {S : List Fc} (g : inTurns S) (hs : ∀ i j (hij : i < j) (hj : j < S.length), (S[i]'(by omega)).t ≤ S[j].t) : ∀ k (h : k < S.length), S[k].t = (k : Int) := by
  intro k
  induction k using Nat.strongRecOn with
  | _ k ih =>
    intro hk
    have hlow := turns_low S g
    have hone := g k hk
    obtain ⟨f, hf⟩ : ∃ f, f ∈ onTurn S (k : Int) := List.exists_mem_of_length_pos (by omega)
    obtain ⟨hfS, hft⟩ := List.mem_filter.1 hf
    obtain ⟨i, hi, rfl⟩ := List.getElem_of_mem hfS
    have hit : S[i].t = (k : Int) := by simpa using hft
    have hik : k ≤ i := by
      by_cases h : i < k
      · have := ih i h hi
        omega
      · omega
    have hle : S[k].t ≤ (k : Int) := by
      by_cases e : i = k
      · subst e; omega
      · have := hs k i (by omega) hi
        omega
    have hge := (hlow S[k] (List.getElem_mem hk)).1
    by_cases e : S[k].t = (k : Int)
    · exact e
    · -- a lesser turn would stand twice
      obtain ⟨m, hm⟩ := Int.eq_ofNat_of_zero_le hge
      have hmk : m < k := by omega
      have h1 := ih m hmk (by omega)
      have := two_on S (m : Int) m k hmk hk h1 (by omega)
      have := g m (by omega)
      omega
theorem onTurn_at {S : List Fc} (h : ∀ k (hk : k < S.length), S[k].t = (k : Int)) (k : Nat) (hk : k < S.length) : onTurn S (k : Int) = [S[k]] := by
  have e : S = S.take k ++ S[k] :: S.drop (k + 1) := by
    rw [List.getElem_cons_drop]; exact (List.take_append_drop k S).symm
  have h1 : onTurn (S.take k) (k : Int) = [] := List.filter_eq_nil_iff.2 (fun f hf => by
    obtain ⟨i, hi, rfl⟩ := List.mem_take_iff_getElem.1 hf
    have := h i (by omega)
    simp; omega)
  have h2 : onTurn (S.drop (k + 1)) (k : Int) = [] := List.filter_eq_nil_iff.2 (fun f hf => by
    obtain ⟨i, hi, rfl⟩ := List.mem_drop_iff_getElem.1 hf
    have := h (i + (k + 1)) (by omega)
    simp [Nat.add_comm] at this ⊢
    omega)
  have h3 : onTurn [S[k]] (k : Int) = [S[k]] := by simp [onTurn, h k hk]
  calc onTurn S (k : Int) = onTurn (S.take k ++ ([S[k]] ++ S.drop (k + 1))) (k : Int) := by rw [List.singleton_append, ← e]
    _ = [S[k]] := by rw [onTurn_app, onTurn_app, h1, h2, h3]; rfl
theorem inTurns_of {S T : List Fc} (hp : S.Perm T) (h : ∀ k (hk : k < S.length), S[k].t = (k : Int)) : inTurns T := fun k hk => by
  have hk' : k < S.length := by rw [hp.length_eq]; exact hk
  rw [← (onTurn_perm hp _).length_eq, onTurn_at h k hk']
  rfl
theorem turnOf_of {S T : List Fc} (hp : S.Perm T) (h : ∀ k (hk : k < S.length), S[k].t = (k : Int)) (k : Nat) (hk : k < S.length) : turnOf T (k : Int) = S[k] := by
  have h1 := onTurn_perm hp (k : Int)
  rw [onTurn_at h k hk] at h1
  unfold turnOf
  rw [← List.singleton_perm.1 h1]
  rfl
/- what RingGood asks -/
def rgN (L : List Fc) (left : List Int) : Prop :=
  inTurns (took L 1) ∧ inTurns (took L 2) ∧ (took L 1).length = (took L 2).length + left.length ∧ (∀ k : Nat, k < (took L 2).length → (turnOf (took L 2) (k : Int)).v = (turnOf (took L 1) (k : Int)).a) ∧ ∀ i (hi : i < left.length), (turnOf (took L 1) (((took L 2).length + i : Nat) : Int)).a = left[i]
noncomputable def rgB (L : List Fc) (left : List Int) : Bool := @decide (rgN L left) (Classical.propDecidable _)
theorem rgB_yes {L : List Fc} {left : List Int} (h : rgN L left) : rgB L left = true := @decide_eq_true _ (Classical.propDecidable _) h
theorem rgB_no {L : List Fc} {left : List Int} (h : ¬ rgN L left) : rgB L left = false := @decide_eq_false _ (Classical.propDecidable _) h

end Go.Proofs.Ytmifnemjihffkaa
