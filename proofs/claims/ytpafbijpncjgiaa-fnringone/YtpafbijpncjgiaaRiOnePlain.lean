/- A ring of one caller: what its calls do from beginning to end, plainly. -/
import Derived.Test.YtpafbijpncjgiaaRows
import Derived.WalkKit
import Derived.ProofKit
import Derived.OpenShut
import Derived.ShutString
import Derived.Test.YtpafbijpncjgiaaRiItemsPlain
namespace Go.Proofs.Ytpafbijpncjgiaa
open Go.ChangeShapes Go.WideShapes Go.ChangeAt Go.RowKit
set_option linter.unusedVariables false

theorem wrap_small {x : Int} (h1 : -4611686018427387904 ≤ x) (h2 : x ≤ 4611686018427387904) : wrap64 x = x := by unfold wrap64; omega
def rStep (n : Int) (xs : List Int) (c : Cl) : Option (List Int × Cl) := if riStepOk n xs c = true then some (riStepL n xs c, riStepC n xs c) else none
def rSteps (n : Int) : Nat → List Int → Cl → Option (List Int × Cl)
  | 0, xs, c => if c.d = true then some (xs, c) else none
  | f + 1, xs, c => if c.d = true then some (xs, c) else (rStep n xs c).bind fun y => rSteps n f y.1 y.2
theorem rSteps_done (n : Int) (f : Nat) (xs : List Int) (c : Cl) (h : c.d = true) : rSteps n f xs c = some (xs, c) := by
  cases f <;> simp [rSteps, h]
theorem rSteps_go (n : Int) (f : Nat) (xs : List Int) (c : Cl) (y : List Int × Cl) (h : c.d = false) (hs : rStep n xs c = some y) : rSteps n (f + 1) xs c = rSteps n f y.1 y.2 := by
  simp [rSteps, h, hs]
theorem rSteps_some {n : Int} {f : Nat} {xs : List Int} {c : Cl} {y : List Int × Cl} (h : rSteps n f xs c = some y) (hd : c.d = false) : ∃ f' L co, f = f' + 1 ∧ rStep n xs c = some (L, co) ∧ rSteps n f' L co = some y := by
  cases f with
  | zero => simp [rSteps, hd] at h
  | succ f =>
    simp only [rSteps, hd, Bool.false_eq_true, if_false] at h
    cases hs : rStep n xs c with
    | none => simp [hs] at h
    | some z => exact ⟨f, z.1, z.2, rfl, rfl, by simpa [hs] using h⟩
theorem rSteps_end {n : Int} {f : Nat} {xs : List Int} {c : Cl} {y : List Int × Cl} (h : rSteps n f xs c = some y) (hd : c.d = true) : y = (xs, c) := by
  rw [rSteps_done n f xs c hd] at h; exact (Option.some.inj h).symm
theorem rStep_parts {n : Int} {xs L : List Int} {c co : Cl} (h : rStep n xs c = some (L, co)) : riStepOk n xs c = true ∧ riStepL n xs c = L ∧ riStepC n xs c = co := by
  unfold rStep at h
  by_cases hk : riStepOk n xs c = true
  · rw [if_pos hk] at h
    simp at h
    exact ⟨hk, h⟩
  · rw [if_neg hk] at h; cases h
theorem rStep_len {n : Int} {xs L : List Int} {c co : Cl} (h : rStep n xs c = some (L, co)) : L.length = xs.length := by
  obtain ⟨h1, h2, -⟩ := rStep_parts h
  rw [← h2]
  unfold riStepL
  rw [if_pos h1]
  simp [memDo]
/- one step of a call whose act is known -/
theorem rStep_of {n : Int} {xs L : List Int} {k a x pc p cc cw r v T : Int} {co : Cl} (t : Nat) (hz : 2 ≤ n ∧ n ≤ 16) (hl : (xs.length : Int) = 2 + 2 * n) (hk : 1 ≤ k ∧ k ≤ 2) (hp : 0 ≤ pc ∧ pc ≤ 4) {ak aa ab : Int}
    (hA : riAcG n k a pc p = ⟨ak, (t : Int), aa, ab⟩) (hT : actTold (xs.getD t 0) ak aa = T) (hL : xs.set t (actNew (xs.getD t 0) ak aa ab) = L) (hC : riAfter n ⟨k, a, x, pc, p, cc, cw, r, v, false⟩ T = co) :
    rStep n xs ⟨k, a, x, pc, p, cc, cw, r, v, false⟩ = some (L, co) := by
  have h1 : riOk n ⟨k, a, x, pc, p, cc, cw, r, v, false⟩ = true := by
    unfold riOk riBad rzB
    simp only [Bool.false_or, Bool.not_eq_true', Bool.or_eq_false_iff, Bool.not_eq_false', decide_eq_true_iff, decide_eq_false_iff_not]
    exact ⟨hz, by omega⟩
  have h2 : riStepOk n xs ⟨k, a, x, pc, p, cc, cw, r, v, false⟩ = true := by
    unfold riStepOk; rw [h1]; simpa using hl
  have e1 : riAc n ⟨k, a, x, pc, p, cc, cw, r, v, false⟩ = ⟨ak, (t : Int), aa, ab⟩ := by unfold riAc; rw [if_pos h1]; exact hA
  have e2 : riStepL n xs ⟨k, a, x, pc, p, cc, cw, r, v, false⟩ = L := by
    unfold riStepL; rw [if_pos h2, e1]; simpa [memDo] using hL
  have e3 : riStepC n xs ⟨k, a, x, pc, p, cc, cw, r, v, false⟩ = co := by
    unfold riStepC riTold; rw [if_pos h2, e1]
    have : actTold (xs.getD (t : Int).toNat 0) ak aa = T := by simpa using hT
    rw [this]; exact hC
  unfold rStep
  rw [if_pos h2, e2, e3]
theorem set_getD_self {xs : List Int} {j : Nat} (h : j < xs.length) : xs.set j (xs.getD j 0) = xs := by
  apply List.ext_getElem
  · simp
  · intro i h1 h2
    rw [List.getElem_set]
    split
    · next e => subst e; simp [h]
    · rfl
theorem getD_set_eq {xs : List Int} {j : Nat} {z : Int} (h : j < xs.length) : (xs.set j z).getD j 0 = z := by simp [h]
theorem getD_set_ne' {xs : List Int} {j q : Nat} {z : Int} (h : q ≠ j) : (xs.set q z).getD j 0 = xs.getD j 0 := by
  simp [h]
structure RInv (N : Nat) (xs want : List Int) (h : Nat) : Prop where
  n1 : 2 ≤ N
  n2 : N ≤ 16
  len : xs.length = 2 + 2 * N
  le : want.length ≤ N
  big : h + want.length ≤ 1000
  tl : xs.getD 0 0 = ((h + want.length : Nat) : Int)
  hd : xs.getD 1 0 = (h : Int)
  sq : ∀ j, j < N → xs.getD (2 + 2 * ((h + j) % N)) 0 = if j < want.length then ((h + j + 1 : Nat) : Int) else ((h + j : Nat) : Int)
  vl : ∀ j (hj : j < want.length), xs.getD (3 + 2 * ((h + j) % N)) 0 = want[j]
theorem mod_ne {N h i j : Nat} (hi : i < N) (hj : j < N) (hij : i ≠ j) : (h + i) % N ≠ (h + j) % N := by
  intro e
  rcases Nat.lt_or_gt_of_ne hij with hlt | hlt
  · have h1 : (h + j - (h + i)) % N = 0 := Nat.sub_mod_eq_zero_of_mod_eq e.symm
    rw [show h + j - (h + i) = j - i by omega, Nat.mod_eq_of_lt (by omega)] at h1
    omega
  · have h1 : (h + i - (h + j)) % N = 0 := Nat.sub_mod_eq_zero_of_mod_eq e
    rw [show h + i - (h + j) = i - j by omega, Nat.mod_eq_of_lt (by omega)] at h1
    omega
theorem rsq_nat (N p : Nat) : rsq N (p : Int) = ((2 + 2 * (p % N) : Nat) : Int) := by unfold rsq; omega
theorem RInv.new (N : Nat) (h1 : 2 ≤ N) (h2 : N ≤ 16) : RInv N (riRow N N) [] 0 := by
  have hg : ∀ i, i < 2 + 2 * N → (riRow N N).getD i 0 = if 2 ≤ i ∧ i % 2 = 0 ∧ (i - 2) / 2 < N then (((i - 2) / 2 : Nat) : Int) else 0 := fun i hi => by
    rw [List.getD_eq_getElem?_getD, List.getElem?_eq_getElem (by rw [riRow_len]; exact hi)]
    simp [riRow]
  refine ⟨h1, h2, riRow_len N N, by simp, by simp, ?_, ?_, fun j hj => ?_, fun j hj => by simp at hj⟩
  · rw [hg 0 (by omega)]; simp
  · rw [hg 1 (by omega)]; simp
  · rw [Nat.zero_add, Nat.mod_eq_of_lt hj, hg _ (by omega), if_pos (by omega), if_neg (by simp)]
    congr 1
    omega
theorem riGo_get (xs : List Int) (n h : Int) (m i : Nat) (hi : i < (riGo xs n h m).length) : (riGo xs n h m)[i] = xs.getD (rsq n (h + (i : Int)) + 1).toNat 0 := by simp [riGo]
theorem RInv.items {N h : Nat} {xs want : List Int} (v : RInv N xs want h) : riItems N xs = want := by
  have hz : rzB N = true ∧ (xs.length : Int) = 2 + 2 * (N : Int) := ⟨rzB_iff.2 ⟨by have := v.n1; omega, by have := v.n2; omega⟩, by have := v.len; omega⟩
  have e : riItems N xs = _ := if_pos hz
  have hb := v.big
  have hl := v.le
  rw [e, v.tl, v.hd, if_pos (by
    unfold endsB numB
    rw [Bool.and_eq_true, Bool.and_eq_true, decide_eq_true_iff, decide_eq_true_iff, decide_eq_true_iff]
    omega)]
  apply List.ext_getElem
  · rw [riGo_len]; omega
  · intro i h1 h2
    rw [riGo_get, show ((h : Int) + (i : Int)) = ((h + i : Nat) : Int) by omega, rsq_nat, show (((2 + 2 * ((h + i) % N) : Nat) : Int) + 1).toNat = 3 + 2 * ((h + i) % N) by omega]
    exact v.vl i h2
theorem put_lt {n a x p cc cw r v T : Int} (h : wrap64 (T - p) < 0) : riAfter n ⟨1, a, x, 1, p, cc, cw, r, v, false⟩ T = ⟨1, a, x, 2, p, T, cw, 3, v, true⟩ := by simp [riAfter, h]
theorem put_eq {n a x p cc cw r v T : Int} (h : wrap64 (T - p) = 0) : riAfter n ⟨1, a, x, 1, p, cc, cw, r, v, false⟩ T = ⟨1, a, x, 2, p, T, cw, r, v, false⟩ := by simp [riAfter, h]
theorem get_lt {n a x p cc cw r v T : Int} (h : wrap64 (T - wrap64 (p + 1)) < 0) : riAfter n ⟨2, a, x, 1, p, cc, cw, r, v, false⟩ T = ⟨2, a, x, 2, p, T, cw, 2, v, true⟩ := by simp [riAfter, h]
theorem get_eq {n a x p cc cw r v T : Int} (h : wrap64 (T - wrap64 (p + 1)) = 0) : riAfter n ⟨2, a, x, 1, p, cc, cw, r, v, false⟩ T = ⟨2, a, x, 2, p, T, cw, r, v, false⟩ := by simp [riAfter, h]
theorem told_load (x : Int) : actTold x 1 0 = x := by simp [actTold]
theorem new_load (x : Int) : actNew x 1 0 0 = x := by simp [actNew]
theorem RInv.z {N h : Nat} {xs want : List Int} (v : RInv N xs want h) : (2 : Int) ≤ N ∧ (N : Int) ≤ 16 ∧ (xs.length : Int) = 2 + 2 * (N : Int) := by have := v.n1; have := v.n2; have := v.len; omega
theorem ql {N p : Nat} (h : 2 ≤ N) : 2 + 2 * (p % N) + 1 < 2 + 2 * N := by have := Nat.mod_lt p (show 0 < N by omega); omega
/- a load of tail or head -/
theorem RInv.step0 {N h : Nat} {xs want : List Int} (v : RInv N xs want h) (k a : Int) (hk : k = 1 ∨ k = 2) : rStep N xs ⟨k, a, 0, 0, 0, 0, 0, 0, 0, false⟩ = some (xs, ⟨k, a, 0, 1, (if k = 1 then ((h + want.length : Nat) : Int) else (h : Int)), 0, 0, 0, 0, false⟩) := by
  obtain ⟨z1, z2, z3⟩ := v.z
  have hlen := v.len
  rcases hk with rfl | rfl
  · exact rStep_of (ak := 1) (aa := 0) (ab := 0) 0 ⟨z1, z2⟩ z3 (by omega) (by omega) (by simp [riAcG]) (by rw [told_load, v.tl]) (by rw [new_load]; exact set_getD_self (by omega)) (by simp [riAfter])
  · exact rStep_of (ak := 1) (aa := 0) (ab := 0) 1 ⟨z1, z2⟩ z3 (by omega) (by omega) (by simp [riAcG]) (by rw [told_load, v.hd]) (by rw [new_load]; exact set_getD_self (by omega)) (by simp [riAfter])
/- a load of seq -/
theorem RInv.step1 {N h : Nat} {xs want : List Int} (v : RInv N xs want h) (k a : Int) (hk : k = 1 ∨ k = 2) (p : Nat) (T : Int) (hT : xs.getD (2 + 2 * (p % N)) 0 = T) : rStep N xs ⟨k, a, 0, 1, (p : Int), 0, 0, 0, 0, false⟩ = some (xs, riAfter N ⟨k, a, 0, 1, (p : Int), 0, 0, 0, 0, false⟩ T) := by
  obtain ⟨z1, z2, z3⟩ := v.z
  have hlen := v.len
  have hq := ql (p := p) v.n1
  exact rStep_of (ak := 1) (aa := 0) (ab := 0) (2 + 2 * (p % N)) ⟨z1, z2⟩ z3 (by omega) (by omega) (by simp only [riAcG]; rw [if_neg (by omega), if_pos trivial, rsq_nat]) (by rw [told_load, hT]) (by rw [new_load]; exact set_getD_self (by omega)) rfl
theorem RInv.full {N h : Nat} {xs want : List Int} (v : RInv N xs want h) (a : Int) (hf : want.length = N) : ∃ c', rSteps N 5 xs (stCall 1 a) = some (xs, c') ∧ c'.k = 1 ∧ c'.r = 3 ∧ c'.d = true := by
  have hb := v.big
  have hn := v.n1
  have hn2 := v.n2
  have hs := v.sq 0 (by omega)
  rw [Nat.add_zero, if_pos (by omega)] at hs
  have hs2 : xs.getD (2 + 2 * ((h + want.length) % N)) 0 = ((h + 1 : Nat) : Int) := by rw [hf, Nat.add_mod_right]; exact hs
  have e1 := v.step0 1 a (.inl rfl)
  rw [if_pos rfl] at e1
  have e2 := v.step1 1 a (.inl rfl) (h + want.length) _ hs2
  rw [put_lt (by rw [wrap_small (by omega) (by omega)]; omega)] at e2
  refine ⟨⟨1, a, 0, 2, ((h + want.length : Nat) : Int), ((h + 1 : Nat) : Int), 0, 3, 0, true⟩, ?_, rfl, rfl, rfl⟩
  · show rSteps N 5 xs ⟨1, a, 0, 0, 0, 0, 0, 0, 0, false⟩ = _
    rw [rSteps_go N 4 xs _ _ rfl e1, rSteps_go N 3 _ _ _ rfl e2, rSteps_done _ _ _ _ rfl]
theorem RInv.empty {N h : Nat} {xs : List Int} (v : RInv N xs [] h) : ∃ c', rSteps N 5 xs (stCall 2 0) = some (xs, c') ∧ c'.k = 2 ∧ c'.r = 2 ∧ c'.d = true := by
  have hb := v.big
  have hn := v.n1
  have hs := v.sq 0 (by omega)
  rw [Nat.add_zero, if_neg (by simp)] at hs
  have e1 := v.step0 2 0 (.inr rfl)
  rw [if_neg (by decide)] at e1
  have e2 := v.step1 2 0 (.inr rfl) h _ hs
  have hb' : h ≤ 1000 := by simpa using hb
  rw [get_lt (by rw [wrap_small (x := (h : Int) + 1) (by omega) (by omega), wrap_small (by omega) (by omega)]; omega)] at e2
  refine ⟨⟨2, 0, 0, 2, (h : Int), (h : Int), 0, 2, 0, true⟩, ?_, rfl, rfl, rfl⟩
  · show rSteps N 5 xs ⟨2, 0, 0, 0, 0, 0, 0, 0, 0, false⟩ = _
    rw [rSteps_go N 4 xs _ _ rfl e1, rSteps_go N 3 _ _ _ rfl e2, rSteps_done _ _ _ _ rfl]
/- a put into a ring that has room -/
theorem RInv.put {N h : Nat} {xs want : List Int} (v : RInv N xs want h) (a : Int) (hf : want.length < N) (hb2 : h + want.length < 1000) : ∃ xs' c', rSteps N 5 xs (stCall 1 a) = some (xs', c') ∧ c'.k = 1 ∧ c'.r = 1 ∧ c'.d = true ∧ RInv N xs' (want ++ [a]) h := by
  obtain ⟨z1, z2, z3⟩ := v.z
  have hlen := v.len
  have hn := v.n1
  have hs := v.sq want.length hf
  rw [if_neg (by omega)] at hs
  obtain ⟨t, ht⟩ : ∃ t, t = h + want.length := ⟨_, rfl⟩
  have hq := ql (p := t) hn
  have e1 := v.step0 1 a (.inl rfl)
  rw [if_pos rfl, ← ht] at e1
  rw [← ht] at hs
  have e2 := v.step1 1 a (.inl rfl) t _ hs
  rw [put_eq (by rw [wrap_small (by omega) (by omega)]; omega)] at e2
  have tl : xs.getD 0 0 = (t : Int) := by rw [v.tl, ht]
  have e3 : rStep N xs ⟨1, a, 0, 2, (t : Int), (t : Int), 0, 0, 0, false⟩ = some (xs.set 0 ((t + 1 : Nat) : Int), ⟨1, a, 0, 3, (t : Int), (t : Int), 0, 0, 0, false⟩) :=
    rStep_of (ak := 3) (aa := (t : Int)) (ab := ((t + 1 : Nat) : Int)) (T := 1) 0 ⟨z1, z2⟩ z3 (by omega) (by omega) (by
      simp only [riAcG]
      rw [if_neg (by omega), if_neg (by omega), if_pos trivial, wrap_small (by omega) (by omega)]
      simp) (by rw [tl]; simp [actTold]) (by rw [tl]; simp [actNew]) (by simp [riAfter])
  obtain ⟨x1, hx1⟩ : ∃ x1, xs.set 0 ((t + 1 : Nat) : Int) = x1 := ⟨_, rfl⟩
  rw [hx1] at e3
  have l1 : x1.length = 2 + 2 * N := by rw [← hx1]; simpa using hlen
  have e4 : rStep N x1 ⟨1, a, 0, 3, (t : Int), (t : Int), 0, 0, 0, false⟩ = some (x1.set (2 + 2 * (t % N) + 1) a, ⟨1, a, 0, 4, (t : Int), (t : Int), 0, 0, 0, false⟩) :=
    rStep_of (ak := 2) (aa := a) (ab := 0) (T := 0) (2 + 2 * (t % N) + 1) ⟨z1, z2⟩ (by omega) (by omega) (by omega) (by
      simp only [riAcG]
      rw [if_neg (by omega), if_neg (by omega), if_neg (by omega), if_pos trivial, if_pos trivial, rsq_nat]
      simp) (by simp [actTold]) (by simp [actNew]) (by simp [riAfter])
  obtain ⟨x2, hx2⟩ : ∃ x2, x1.set (2 + 2 * (t % N) + 1) a = x2 := ⟨_, rfl⟩
  rw [hx2] at e4
  have l2 : x2.length = 2 + 2 * N := by rw [← hx2]; simpa using l1
  have e5 : rStep N x2 ⟨1, a, 0, 4, (t : Int), (t : Int), 0, 0, 0, false⟩ = some (x2.set (2 + 2 * (t % N)) ((t + 1 : Nat) : Int), ⟨1, a, 0, 5, (t : Int), (t : Int), 0, 1, 0, true⟩) :=
    rStep_of (ak := 2) (aa := ((t + 1 : Nat) : Int)) (ab := 0) (T := 0) (2 + 2 * (t % N)) ⟨z1, z2⟩ (by omega) (by omega) (by omega) (by
      simp only [riAcG]
      rw [if_neg (by omega), if_neg (by omega), if_neg (by omega), if_neg (by omega), if_pos trivial, rsq_nat, wrap_small (by omega) (by omega)]
      simp) (by simp [actTold]) (by simp [actNew]) (by simp [riAfter])
  refine ⟨x2.set (2 + 2 * (t % N)) ((t + 1 : Nat) : Int), ⟨1, a, 0, 5, (t : Int), (t : Int), 0, 1, 0, true⟩, ?_, rfl, rfl, rfl, ?_⟩
  · show rSteps N 5 xs ⟨1, a, 0, 0, 0, 0, 0, 0, 0, false⟩ = _
    rw [rSteps_go N 4 xs _ _ rfl e1, rSteps_go N 3 _ _ _ rfl e2, rSteps_go N 2 _ _ _ rfl e3, rSteps_go N 1 _ _ _ rfl e4, rSteps_go N 0 _ _ _ rfl e5, rSteps_done _ _ _ _ rfl]
  · have g : ∀ q, (x2.set (2 + 2 * (t % N)) ((t + 1 : Nat) : Int)).getD q 0 = if q = 2 + 2 * (t % N) then ((t + 1 : Nat) : Int) else if q = 2 + 2 * (t % N) + 1 then a else if q = 0 then ((t + 1 : Nat) : Int) else xs.getD q 0 := by
      intro q
      by_cases c1 : q = 2 + 2 * (t % N)
      · rw [if_pos c1, c1, getD_set_eq (by omega)]
      · rw [if_neg c1, getD_set_ne' (Ne.symm c1), ← hx2]
        by_cases c2 : q = 2 + 2 * (t % N) + 1
        · rw [if_pos c2, c2, getD_set_eq (by omega)]
        · rw [if_neg c2, getD_set_ne' (Ne.symm c2), ← hx1]
          by_cases c3 : q = 0
          · rw [if_pos c3, c3, getD_set_eq (by omega)]
          · rw [if_neg c3, getD_set_ne' (Ne.symm c3)]
    refine ⟨hn, v.n2, by simpa using l2, by simp; omega, by simp; omega, ?_, ?_, fun j hj => ?_, fun j hj => ?_⟩
    · rw [g, if_neg (by omega), if_neg (by omega), if_pos rfl, ht]; simp; omega
    · rw [g, if_neg (by omega), if_neg (by omega), if_neg (by omega)]; exact v.hd
    · rw [g]
      by_cases c : j = want.length
      · subst c
        rw [← ht, if_pos rfl, if_pos (by simp)]
      · have hm := mod_ne (h := h) hj hf c
        rw [← ht] at hm
        rw [if_neg (by omega), if_neg (by omega), if_neg (by omega), v.sq j hj]
        by_cases c2 : j < want.length
        · rw [if_pos c2, if_pos (by simp; omega)]
        · rw [if_neg c2, if_neg (by simp; omega)]
    · rw [g]
      by_cases c : j = want.length
      · subst c
        rw [← ht, if_neg (by omega), if_pos (by omega)]
        simp
      · have hj2 : j < want.length := by simp at hj; omega
        have hm := mod_ne (h := h) (show j < N by omega) hf c
        rw [← ht] at hm
        rw [if_neg (by omega), if_neg (by omega), if_neg (by omega), v.vl j hj2]
        simp [hj2]
/- a get from a ring that isn't empty -/
theorem RInv.get {N h : Nat} {xs ws : List Int} {p0 : Int} (v : RInv N xs (p0 :: ws) h) : ∃ xs' c', rSteps N 5 xs (stCall 2 0) = some (xs', c') ∧ c'.k = 2 ∧ c'.r = 1 ∧ c'.v = p0 ∧ c'.d = true ∧ RInv N xs' ws (h + 1) := by
  obtain ⟨z1, z2, z3⟩ := v.z
  have hlen := v.len
  have hn := v.n1
  have hle := v.le
  have hb := v.big
  simp only [List.length_cons] at hle hb
  have hq := ql (p := h) hn
  have hs := v.sq 0 (by omega)
  rw [if_pos (by simp), Nat.add_zero] at hs
  have hv := v.vl 0 (by simp)
  rw [Nat.add_zero] at hv
  simp only [List.getElem_cons_zero] at hv
  have e1 := v.step0 2 0 (.inr rfl)
  rw [if_neg (by decide)] at e1
  have e2 := v.step1 2 0 (.inr rfl) h _ hs
  rw [get_eq (by rw [wrap_small (x := (h : Int) + 1) (by omega) (by omega), wrap_small (by omega) (by omega)]; omega)] at e2
  have hd := v.hd
  have e3 : rStep N xs ⟨2, 0, 0, 2, (h : Int), ((h + 1 : Nat) : Int), 0, 0, 0, false⟩ = some (xs.set 1 ((h + 1 : Nat) : Int), ⟨2, 0, 0, 3, (h : Int), ((h + 1 : Nat) : Int), 0, 0, 0, false⟩) :=
    rStep_of (ak := 3) (aa := (h : Int)) (ab := ((h + 1 : Nat) : Int)) (T := 1) 1 ⟨z1, z2⟩ z3 (by omega) (by omega) (by
      simp only [riAcG]
      rw [if_neg (by omega), if_neg (by omega), if_pos trivial, wrap_small (by omega) (by omega)]
      simp) (by rw [hd]; simp [actTold]) (by rw [hd]; simp [actNew]) (by simp [riAfter])
  obtain ⟨x1, hx1⟩ : ∃ x1, xs.set 1 ((h + 1 : Nat) : Int) = x1 := ⟨_, rfl⟩
  rw [hx1] at e3
  have l1 : x1.length = 2 + 2 * N := by rw [← hx1]; simpa using hlen
  have v1 : x1.getD (2 + 2 * (h % N) + 1) 0 = p0 := by rw [← hx1, getD_set_ne' (by omega), ← hv]; congr 1; omega
  have e4 : rStep N x1 ⟨2, 0, 0, 3, (h : Int), ((h + 1 : Nat) : Int), 0, 0, 0, false⟩ = some (x1, ⟨2, 0, 0, 4, (h : Int), ((h + 1 : Nat) : Int), 0, 0, p0, false⟩) :=
    rStep_of (ak := 1) (aa := 0) (ab := 0) (T := p0) (2 + 2 * (h % N) + 1) ⟨z1, z2⟩ (by omega) (by omega) (by omega) (by
      simp only [riAcG]
      rw [if_neg (by omega), if_neg (by omega), if_neg (by omega), if_pos trivial, if_neg (by omega), rsq_nat]
      simp) (by rw [told_load, v1]) (by rw [new_load]; exact set_getD_self (by omega)) (by simp [riAfter])
  have e5 : rStep N x1 ⟨2, 0, 0, 4, (h : Int), ((h + 1 : Nat) : Int), 0, 0, p0, false⟩ = some (x1.set (2 + 2 * (h % N)) ((h + N : Nat) : Int), ⟨2, 0, 0, 5, (h : Int), ((h + 1 : Nat) : Int), 0, 1, p0, true⟩) :=
    rStep_of (ak := 2) (aa := ((h + N : Nat) : Int)) (ab := 0) (T := 0) (2 + 2 * (h % N)) ⟨z1, z2⟩ (by omega) (by omega) (by omega) (by
      simp only [riAcG]
      rw [if_neg (by omega), if_neg (by omega), if_neg (by omega), if_neg (by omega), if_neg (by omega), rsq_nat, wrap_small (by omega) (by omega)]
      simp) (by simp [actTold]) (by simp [actNew]) (by simp [riAfter])
  refine ⟨x1.set (2 + 2 * (h % N)) ((h + N : Nat) : Int), ⟨2, 0, 0, 5, (h : Int), ((h + 1 : Nat) : Int), 0, 1, p0, true⟩, ?_, rfl, rfl, rfl, rfl, ?_⟩
  · show rSteps N 5 xs ⟨2, 0, 0, 0, 0, 0, 0, 0, 0, false⟩ = _
    rw [rSteps_go N 4 xs _ _ rfl e1, rSteps_go N 3 _ _ _ rfl e2, rSteps_go N 2 _ _ _ rfl e3, rSteps_go N 1 _ _ _ rfl e4, rSteps_go N 0 _ _ _ rfl e5, rSteps_done _ _ _ _ rfl]
  · have g : ∀ q, (x1.set (2 + 2 * (h % N)) ((h + N : Nat) : Int)).getD q 0 = if q = 2 + 2 * (h % N) then ((h + N : Nat) : Int) else if q = 1 then ((h + 1 : Nat) : Int) else xs.getD q 0 := by
      intro q
      by_cases c1 : q = 2 + 2 * (h % N)
      · rw [if_pos c1, c1, getD_set_eq (by omega)]
      · rw [if_neg c1, getD_set_ne' (Ne.symm c1), ← hx1]
        by_cases c3 : q = 1
        · rw [if_pos c3, c3, getD_set_eq (by omega)]
        · rw [if_neg c3, getD_set_ne' (Ne.symm c3)]
    refine ⟨hn, v.n2, by simpa using l1, by omega, by omega, ?_, ?_, fun j hj => ?_, fun j hj => ?_⟩
    · rw [g, if_neg (by omega), if_neg (by omega), v.tl]; congr 1; simp; omega
    · rw [g, if_neg (by omega), if_pos rfl]
    · rw [g]
      by_cases c : j + 1 = N
      · rw [show h + 1 + j = h + N by omega, Nat.add_mod_right, if_pos rfl, if_neg (by omega)]
      · have hm : (h + (j + 1)) % N ≠ h % N := mod_ne (h := h) (show j + 1 < N by omega) (show 0 < N by omega) (by omega)
        have hk := v.sq (j + 1) (by omega)
        rw [show h + 1 + j = h + (j + 1) by omega, if_neg (by omega), if_neg (by omega), hk]
        simp only [List.length_cons]
        by_cases c2 : j < ws.length
        · rw [if_pos (by omega), if_pos c2]
        · rw [if_neg (by omega), if_neg c2]
    · rw [g]
      have hj2 : j + 1 < N := by omega
      have hm : (h + (j + 1)) % N ≠ h % N := mod_ne (h := h) hj2 (show 0 < N by omega) (by omega)
      have hk := v.vl (j + 1) (by simp; omega)
      rw [show h + 1 + j = h + (j + 1) by omega, if_neg (by omega), if_neg (by omega), hk]
      simp

end Go.Proofs.Ytpafbijpncjgiaa
