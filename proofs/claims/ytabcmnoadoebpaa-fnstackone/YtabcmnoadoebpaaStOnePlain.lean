/- A stack that is used by one caller: what its calls tell, plainly. -/
import Derived.Test.YtabcmnoadoebpaaRows
import Derived.WalkKit
import Derived.ProofKit
import Derived.OpenShut
import Derived.ShutString
import Derived.Test.YtabcmnoadoebpaaStToldImpl
namespace Go.Proofs.Ytabcmnoadoebpaa
open Go.ChangeShapes Go.WideShapes Go.ChangeAt Go.RowKit
set_option linter.unusedVariables false

def iStep (n : Int) (xs : List Int) (c : Cl) : Option (List Int × Cl) :=
  match iAct n c with
  | none => none
  | some ac => if stkB n xs.length = true ∧ actB xs.length ac.k ac.t ac.a ac.b = true then some (memDo xs ac.k ac.t ac.a ac.b, iAfter c (actTold (xs.getD ac.t.toNat 0) ac.k ac.a)) else none
def steps (n : Int) : Nat → List Int → Cl → Option (List Int × Cl)
  | 0, xs, c => if c.d = true then some (xs, c) else none
  | f + 1, xs, c => if c.d = true then some (xs, c) else match iStep n xs c with
    | none => none
    | some y => steps n f y.1 y.2
theorem steps_done (n : Int) (f : Nat) (xs : List Int) (c : Cl) (h : c.d = true) : steps n f xs c = some (xs, c) := by
  cases f <;> simp [steps, h]
theorem steps_go (n : Int) (f : Nat) (xs : List Int) (c : Cl) (y : List Int × Cl) (h : c.d = false) (hs : iStep n xs c = some y) : steps n (f + 1) xs c = steps n f y.1 y.2 := by
  simp [steps, h, hs]
def chain (n : Int) (xs : List Int) : List Int → Int → Prop
  | [], i => i = 0
  | p :: ps, i => i = p + 1 ∧ 0 ≤ p ∧ p < n ∧ chain n xs ps (xs.getD (p + 1).toNat 0)
structure Inv (n : Int) (xs want : List Int) : Prop where
  n1 : 1 ≤ n
  n2 : n ≤ 16
  len : (xs.length : Int) = 1 + n
  bd : ∀ z ∈ xs, 0 ≤ z ∧ z ≤ 1125899906842623
  hd : unB (xs.getD 0 0) = true
  ch : chain n xs want (unI (xs.getD 0 0))
  nd : want.Nodup
theorem chain_mem {n : Int} {xs : List Int} : ∀ {want : List Int} {i : Int}, chain n xs want i → ∀ y ∈ want, 0 ≤ y ∧ y < n := by
  intro want
  induction want with
  | nil => intro i _ y hy; cases hy
  | cons p ps ih =>
    intro i h y hy
    obtain ⟨-, h1, h2, h3⟩ := h
    rcases List.mem_cons.1 hy with rfl | hy
    · exact ⟨h1, h2⟩
    · exact ih h3 y hy
theorem chain_idx {n : Int} {xs want : List Int} {i : Int} (h : chain n xs want i) : 0 ≤ i ∧ i ≤ n ∨ want = [] ∧ i = 0 := by
  cases want with
  | nil => exact .inr ⟨rfl, h⟩
  | cons p ps => obtain ⟨h0, h1, h2, -⟩ := h; left; omega
theorem chain_set {n : Int} {xs : List Int} {q : Nat} {z : Int} : ∀ {want : List Int} {i : Int}, (∀ y ∈ want, (y + 1).toNat ≠ q) → chain n xs want i → chain n (xs.set q z) want i := by
  intro want
  induction want with
  | nil => intro i _ h; exact h
  | cons p ps ih =>
    intro i hq h
    obtain ⟨h0, h1, h2, h3⟩ := h
    refine ⟨h0, h1, h2, ?_⟩
    have hne := hq p (by simp)
    rw [List.getD_eq_getElem?_getD, List.getElem?_set_ne (by omega), ← List.getD_eq_getElem?_getD]
    exact ih (fun y hy => hq y (by simp [hy])) h3
theorem chain_go {n : Int} {xs : List Int} : ∀ (want : List Int) (i : Int) (f : Nat) (out : List Int), chain n xs want i → (out ++ want).Nodup → want.length < f → stGo xs n f i out = out ++ want := by
  intro want
  induction want with
  | nil =>
    intro i f out h _ hf
    obtain ⟨f', rfl⟩ : ∃ f', f = f' + 1 := ⟨f - 1, by simp at hf; omega⟩
    have h : i = 0 := h
    subst h
    rw [stGo_end]; simp
  | cons p ps ih =>
    intro i f out h hnd hf
    obtain ⟨h0, h1, h2, h3⟩ := h
    obtain ⟨f', rfl⟩ : ∃ f', f = f' + 1 := ⟨f - 1, by simp at hf; omega⟩
    have hp : ¬ p ∈ out := by
      rw [List.nodup_append] at hnd
      exact fun hm => hnd.2.2 p hm p (by simp) rfl
    have e : i - 1 = p := by omega
    rw [stGo_step xs n f' i out (by omega) ⟨by omega, by rw [e]; exact hp⟩, e, h0]
    rw [ih _ f' (out ++ [p]) h3 (by simpa using hnd) (by simp at hf; omega)]
    simp
theorem Inv.items {n : Int} {xs want : List Int} (h : Inv n xs want) : stItems n xs = want := by
  have hz : szB n = true := decide_eq_true ⟨h.n1, h.n2⟩
  have hf : want.length ≤ n.toNat := few n.toNat want h.nd (fun y hy => by have := chain_mem h.ch y hy; have := h.n1; omega)
  unfold stItems
  rw [if_pos ⟨hz, h.len⟩, if_pos h.hd, chain_go want _ (n.toNat + 1) [] h.ch (by simpa using h.nd) (by omega)]
  simp
theorem getD_mem {xs : List Int} {j : Nat} (h : j < xs.length) : xs.getD j 0 ∈ xs := by
  rw [List.getD_eq_getElem?_getD, List.getElem?_eq_getElem h]; exact List.getElem_mem h
theorem getD_set_same {xs : List Int} {j : Nat} {z : Int} (h : j < xs.length) : (xs.set j z).getD j 0 = z := by
  rw [List.getD_eq_getElem?_getD, List.getElem?_set_self h]; rfl
theorem getD_set_ne {xs : List Int} {j q : Nat} {z : Int} (h : q ≠ j) : (xs.set q z).getD j 0 = xs.getD j 0 := by
  rw [List.getD_eq_getElem?_getD, List.getElem?_set_ne h, ← List.getD_eq_getElem?_getD]
theorem set_self_getD {xs : List Int} {j : Nat} (h : j < xs.length) : xs.set j (xs.getD j 0) = xs := by
  rw [List.getD_eq_getElem?_getD, List.getElem?_eq_getElem h]; simp
theorem cas_word (x i : Int) (h1 : 0 ≤ i) (h2 : i ≤ 1048575) : unB (casW x i) = true ∧ unI (casW x i) = i ∧ 0 ≤ casW x i ∧ casW x i ≤ 1125899906842623 := by
  have hn := nt_bd (unT x)
  have hp : pkB (ntT (unT x)) i = true := decide_eq_true ⟨hn.1, hn.2, h1, h2⟩
  have e : casW x i = ntT (unT x) * 1048576 + i := by unfold casW pkW; rw [if_pos hp]
  rw [e]
  generalize ntT (unT x) = t at hn
  have hu : unB (t * 1048576 + i) = true := decide_eq_true (by omega)
  refine ⟨hu, ?_, by omega, by omega⟩
  unfold unI
  rw [if_pos hu]
  omega
theorem stHead_of {t : Int} (h : unB t = true) : stHead t = t := if_pos h
theorem act_load_ok {xs : List Int} {t : Nat} (h : t < xs.length) (h2 : xs.length ≤ 300) : actB xs.length 1 t 0 0 = true ∧ memDo xs 1 t 0 0 = xs ∧ actTold (xs.getD t 0) 1 0 = xs.getD t 0 := by
  refine ⟨actB_yes (by simp; omega), ?_, rfl⟩
  unfold memDo actNew
  simp only [Int.toNat_natCast]
  exact set_self_getD h
theorem iStep_of {n : Int} {xs L : List Int} {c co : Cl} {ac : Ac} {T : Int} (h1 : iAct n c = some ac) (hs : stkB n xs.length = true) (ha : actB xs.length ac.k ac.t ac.a ac.b = true) (h2 : memDo xs ac.k ac.t ac.a ac.b = L) (h3 : actTold (xs.getD ac.t.toNat 0) ac.k ac.a = T) (h4 : iAfter c T = co) : iStep n xs c = some (L, co) := by
  unfold iStep
  rw [h1]
  simp only
  rw [if_pos ⟨hs, ha⟩, h2, h3, h4]
theorem Inv.stk {n : Int} {xs want : List Int} (h : Inv n xs want) : stkB n xs.length = true ∧ szB n = true := by
  have hz : szB n = true := decide_eq_true ⟨h.n1, h.n2⟩
  have hl := h.len
  exact ⟨by unfold stkB; rw [hz]; simpa using hl, hz⟩
theorem Inv.load0 {n : Int} {xs want : List Int} (h : Inv n xs want) (c : Cl) (hc : iAct n c = some ⟨1, 0, 0, 0⟩) : iStep n xs c = some (xs, iAfter c (xs.getD 0 0)) := by
  have hl := h.len
  have hn1 := h.n1
  have hn2 := h.n2
  obtain ⟨a1, a2, a3⟩ := act_load_ok (xs := xs) (t := 0) (by omega) (by omega)
  exact iStep_of hc h.stk.1 a1 a2 a3 rfl
theorem iAct_push (n a x p cc cw r v : Int) (hz : szB n = true) (hp : plcB n a = true) :
    iAct n ⟨1, a, x, 0, p, cc, cw, r, v, false⟩ = some ⟨1, 0, 0, 0⟩ ∧ iAct n ⟨1, a, x, 1, p, cc, cw, r, v, false⟩ = some ⟨2, 1 + a, unI cw, 0⟩ ∧ iAct n ⟨1, a, x, 2, p, cc, cw, r, v, false⟩ = some ⟨3, 0, cw, casW cw (a + 1)⟩ :=
  ⟨by simp [iAct, hz, hp], by simp [iAct, hz, hp], by simp [iAct, hz, hp]⟩
theorem iAct_pop (n a x p cc cw r v : Int) (hz : szB n = true) : iAct n ⟨2, a, x, 0, p, cc, cw, r, v, false⟩ = some ⟨1, 0, 0, 0⟩ := by simp [iAct, hz]
theorem iAct_pop2 (n a x p cc cw r v : Int) (hz : szB n = true) (hp : plcB n (unI cw - 1) = true) :
    iAct n ⟨2, a, x, 1, p, cc, cw, r, v, false⟩ = some ⟨1, 1 + (unI cw - 1), 0, 0⟩ ∧ iAct n ⟨2, a, x, 2, p, cc, cw, r, v, false⟩ = some ⟨3, 0, cw, casW cw (inIx cc)⟩ :=
  ⟨by simp [iAct, hz, hp], by simp [iAct, hz, hp]⟩
theorem after_pop0 (x0 : Int) (hb : unB x0 = true) : (unI x0 = 0 → iAfter (stCall 2 0) x0 = ⟨2, 0, 0, 1, 0, 0, x0, 2, 0, true⟩) ∧ (unI x0 ≠ 0 → iAfter (stCall 2 0) x0 = ⟨2, 0, 0, 1, 0, 0, x0, 0, 0, false⟩) :=
  ⟨fun h => by simp [iAfter, stCall, clZero, stHead_of hb, h], fun h => by simp [iAfter, stCall, clZero, stHead_of hb, h]⟩
theorem cas_told {xs : List Int} {b : Int} (h : 0 < xs.length) (h2 : xs.length ≤ 300) : actB xs.length 3 0 (xs.getD 0 0) b = true ∧ memDo xs 3 0 (xs.getD 0 0) b = xs.set 0 b ∧ actTold (xs.getD (0 : Int).toNat 0) 3 (xs.getD 0 0) = 1 := by
  refine ⟨actB_yes (by simp; omega), ?_, ?_⟩
  · unfold memDo actNew; simp
  · unfold actTold; simp
theorem store_told {xs : List Int} {t : Nat} {a : Int} (h : t < xs.length) (h2 : xs.length ≤ 300) : actB xs.length 2 t a 0 = true ∧ memDo xs 2 t a 0 = xs.set t a ∧ actTold (xs.getD (t : Int).toNat 0) 2 a = 0 := by
  refine ⟨actB_yes (by simp; omega), ?_, ?_⟩
  · unfold memDo actNew; simp
  · unfold actTold; simp
theorem Inv.pop_none {n : Int} {xs : List Int} (h : Inv n xs []) : steps n 3 xs (stCall 2 0) = some (xs, ⟨2, 0, 0, 1, 0, 0, xs.getD 0 0, 2, 0, true⟩) := by
  have hc : unI (xs.getD 0 0) = 0 := h.ch
  have e2 := h.load0 (stCall 2 0) (iAct_pop n 0 0 0 0 0 0 0 h.stk.2)
  rw [(after_pop0 _ h.hd).1 hc] at e2
  rw [steps_go n 2 xs _ _ rfl e2, steps_done _ _ _ _ rfl]
theorem Inv.pop_some {n p : Int} {xs ws : List Int} (h : Inv n xs (p :: ws)) : ∃ xs' c', steps n 3 xs (stCall 2 0) = some (xs', c') ∧ c'.k = 2 ∧ c'.r = 1 ∧ c'.v = p ∧ c'.d = true ∧ Inv n xs' ws := by
  have hl := h.len
  have hn1 := h.n1
  have hn2 := h.n2
  obtain ⟨hc0, hp1, hp2, hch⟩ := h.ch
  have hne : unI (xs.getD 0 0) ≠ 0 := by omega
  have e0 := h.load0 (stCall 2 0) (iAct_pop n 0 0 0 0 0 0 0 h.stk.2)
  rw [(after_pop0 _ h.hd).2 hne] at e0
  have hpl : plcB n (unI (xs.getD 0 0) - 1) = true := decide_eq_true (by omega)
  obtain ⟨i1, -⟩ := iAct_pop2 n 0 0 0 0 (xs.getD 0 0) 0 0 h.stk.2 hpl
  obtain ⟨j, rfl⟩ : ∃ j : Nat, p = j := ⟨p.toNat, by omega⟩
  obtain ⟨a1, a2, a3⟩ := act_load_ok (xs := xs) (t := 1 + j) (by omega) (by omega)
  have ej : 1 + (unI (xs.getD 0 0) - 1) = ((1 + j : Nat) : Int) := by omega
  rw [ej] at i1
  have e1 := iStep_of i1 h.stk.1 a1 a2 a3 (c := ⟨2, 0, 0, 1, 0, 0, xs.getD 0 0, 0, 0, false⟩) (co := ⟨2, 0, 0, 2, 0, xs.getD (1 + j) 0, xs.getD 0 0, 0, 0, false⟩) (by simp [iAfter])
  obtain ⟨-, i2⟩ := iAct_pop2 n 0 0 0 (xs.getD (1 + j) 0) (xs.getD 0 0) 0 0 h.stk.2 hpl
  have hx : xs.getD ((j : Int) + 1).toNat 0 = xs.getD (1 + j) 0 := by rw [show ((j : Int) + 1).toNat = 1 + j by omega]
  rw [hx] at hch
  have hnx : 0 ≤ xs.getD (1 + j) 0 ∧ xs.getD (1 + j) 0 ≤ 1048575 := by
    rcases chain_idx hch with h | h <;> omega
  have hin : inIx (xs.getD (1 + j) 0) = xs.getD (1 + j) 0 := if_pos hnx
  rw [hin] at i2
  obtain ⟨w1, w2, w3, w4⟩ := cas_word (xs.getD 0 0) (xs.getD (1 + j) 0) hnx.1 hnx.2
  obtain ⟨b1, b2, b3⟩ := cas_told (xs := xs) (b := casW (xs.getD 0 0) (xs.getD (1 + j) 0)) (by omega) (by omega)
  have e2 := iStep_of i2 h.stk.1 b1 b2 b3 (c := ⟨2, 0, 0, 2, 0, xs.getD (1 + j) 0, xs.getD 0 0, 0, 0, false⟩) (co := ⟨2, 0, 0, 3, 0, xs.getD (1 + j) 0, xs.getD 0 0, 1, unI (xs.getD 0 0) - 1, true⟩) (by simp [iAfter])
  refine ⟨xs.set 0 (casW (xs.getD 0 0) (xs.getD (1 + j) 0)), ⟨2, 0, 0, 3, 0, xs.getD (1 + j) 0, xs.getD 0 0, 1, unI (xs.getD 0 0) - 1, true⟩, ?_, rfl, rfl, ?_, rfl, ?_⟩
  · rw [steps_go n 2 xs _ _ rfl e0, steps_go n 1 _ _ _ rfl e1, steps_go n 0 _ _ _ rfl e2, steps_done _ _ _ _ rfl]
  · show unI (xs.getD 0 0) - 1 = (j : Int); omega
  · refine ⟨hn1, hn2, by simpa using hl, ?_, ?_, ?_, (List.nodup_cons.1 h.nd).2⟩
    · intro z hz
      rcases List.mem_or_eq_of_mem_set hz with hz | rfl
      · exact h.bd z hz
      · exact ⟨w3, w4⟩
    · rw [getD_set_same (by omega)]; exact w1
    · rw [getD_set_same (by omega), w2]
      exact chain_set (fun y hy => by have := chain_mem hch y hy; omega) hch
theorem Inv.push {n a : Int} {xs ws : List Int} (h : Inv n xs ws) (ha : ¬ a ∈ ws) (h1 : 0 ≤ a) (h2 : a < n) : ∃ xs' c', steps n 3 xs (stCall 1 a) = some (xs', c') ∧ c'.k = 1 ∧ c'.a = a ∧ c'.d = true ∧ Inv n xs' (a :: ws) := by
  have hl := h.len
  have hn1 := h.n1
  have hn2 := h.n2
  have hpl : plcB n a = true := decide_eq_true (by omega)
  have e0 := h.load0 (stCall 1 a) (iAct_push n a 0 0 0 0 0 0 h.stk.2 hpl).1
  have f0 : iAfter (stCall 1 a) (xs.getD 0 0) = ⟨1, a, 0, 1, 0, 0, xs.getD 0 0, 0, 0, false⟩ := by simp only [iAfter, stCall, clZero, stHead_of h.hd]; simp
  rw [f0] at e0
  obtain ⟨-, i1, i2⟩ := iAct_push n a 0 0 0 (xs.getD 0 0) 0 0 h.stk.2 hpl
  obtain ⟨j, rfl⟩ : ∃ j : Nat, a = j := ⟨a.toNat, by omega⟩
  have ej : 1 + (j : Int) = ((1 + j : Nat) : Int) := by omega
  rw [ej] at i1
  obtain ⟨a1, a2, a3⟩ := store_told (xs := xs) (t := 1 + j) (a := unI (xs.getD 0 0)) (by omega) (by omega)
  have e1 := iStep_of i1 h.stk.1 a1 a2 a3 (c := ⟨1, j, 0, 1, 0, 0, xs.getD 0 0, 0, 0, false⟩) (co := ⟨1, j, 0, 2, 0, 0, xs.getD 0 0, 0, 0, false⟩) (by simp [iAfter])
  obtain ⟨w1, w2, w3, w4⟩ := cas_word (xs.getD 0 0) (j + 1) (by omega) (by omega)
  have hl1 : ((xs.set (1 + j) (unI (xs.getD 0 0))).length : Int) = 1 + n := by simpa using hl
  have hg0 : (xs.set (1 + j) (unI (xs.getD 0 0))).getD 0 0 = xs.getD 0 0 := getD_set_ne (by omega)
  obtain ⟨b1, b2, b3⟩ := cas_told (xs := xs.set (1 + j) (unI (xs.getD 0 0))) (b := casW (xs.getD 0 0) (j + 1)) (by omega) (by omega)
  rw [hg0] at b1 b2 b3
  have hs1 : stkB n (xs.set (1 + j) (unI (xs.getD 0 0))).length = true := by have := h.stk.1; simpa using this
  have e2 := iStep_of i2 hs1 b1 b2 b3 (c := ⟨1, j, 0, 2, 0, 0, xs.getD 0 0, 0, 0, false⟩) (co := ⟨1, j, 0, 3, 0, 0, xs.getD 0 0, 1, 0, true⟩) (by simp [iAfter])
  have hub := un_bd (xs.getD 0 0)
  refine ⟨(xs.set (1 + j) (unI (xs.getD 0 0))).set 0 (casW (xs.getD 0 0) (j + 1)), ⟨1, j, 0, 3, 0, 0, xs.getD 0 0, 1, 0, true⟩, ?_, rfl, rfl, rfl, ?_⟩
  · rw [steps_go n 2 xs _ _ rfl e0, steps_go n 1 _ _ _ rfl e1, steps_go n 0 _ _ _ rfl e2, steps_done _ _ _ _ rfl]
  · refine ⟨hn1, hn2, by simpa using hl, ?_, ?_, ?_, List.nodup_cons.2 ⟨ha, h.nd⟩⟩
    · intro z hz
      rcases List.mem_or_eq_of_mem_set hz with hz | rfl
      · rcases List.mem_or_eq_of_mem_set hz with hz | rfl
        · exact h.bd z hz
        · omega
      · exact ⟨w3, w4⟩
    · rw [getD_set_same (by simp; omega)]; exact w1
    · rw [getD_set_same (by simp; omega), w2]
      refine ⟨rfl, h1, h2, ?_⟩
      rw [show ((j : Int) + 1).toNat = 1 + j by omega, getD_set_ne (by omega), getD_set_same (by omega)]
      refine chain_set (fun y hy => by have := chain_mem h.ch y hy; omega) (chain_set (fun y hy => ?_) h.ch)
      have := chain_mem h.ch y hy
      intro e
      apply ha
      have : y = (j : Int) := by omega
      rw [← this]; exact hy
theorem chain_full (n : Nat) : ∀ (m k : Nat), k + m = n → chain n (stRow n n) ((List.range' k m).map Int.ofNat) (if k < n then (k : Int) + 1 else 0) := by
  intro m
  induction m with
  | zero => intro k hk; show (if k < n then (k : Int) + 1 else 0) = 0; rw [if_neg (by omega)]
  | succ m ih =>
    intro k hk
    rw [List.range'_succ, List.map_cons]
    refine ⟨by rw [if_pos (by omega)]; rfl, by simp, by simp; omega, ?_⟩
    have e : (stRow n n).getD ((Int.ofNat k : Int) + 1).toNat 0 = if k + 1 < n then ((k + 1 : Nat) : Int) + 1 else 0 := by
      have e1 : ((Int.ofNat k : Int) + 1).toNat = k + 1 := by simp
      rw [e1, List.getD_eq_getElem?_getD, List.getElem?_eq_getElem (by rw [stRow_len]; omega)]
      simp [stRow]
    rw [e]
    exact ih (k + 1) (by omega)
theorem Inv.full (n : Nat) (h1 : 1 ≤ n) (h2 : n ≤ 16) : Inv n (stRow n n) ((List.range n).map Int.ofNat) := by
  have hg : (stRow n n).getD 0 0 = 1 := by
    rw [List.getD_eq_getElem?_getD, List.getElem?_eq_getElem (by rw [stRow_len]; omega)]
    simp [stRow]; omega
  refine ⟨by omega, by omega, by rw [stRow_len]; omega, ?_, by rw [hg]; decide, ?_, ?_⟩
  · intro z hz
    simp only [stRow, List.mem_map, List.mem_range] at hz
    obtain ⟨j, hj, rfl⟩ := hz
    split <;> omega
  · rw [hg, show unI 1 = 1 by decide]
    have := chain_full n n 0 (by omega)
    rw [if_pos (by omega)] at this
    rw [List.range_eq_range']
    simpa using this
  · exact List.pairwise_map.2 (List.nodup_range.imp (fun h e => h (Int.ofNat.inj e)))
theorem iAct_some {n : Int} {c : Cl} {ac : Ac} (h : iAct n c = some ac) : c.d = false ∧ 0 ≤ c.pc ∧ c.pc ≤ 2 := by
  unfold iAct at h
  split at h
  · cases h
  · rename_i h0
    refine ⟨by cases hd : c.d with | false => rfl | true => exact absurd (.inl hd) h0, ?_⟩
    repeat' split at h
    all_goals first | (constructor <;> omega) | cases h
theorem told_bd {xs : List Int} {ac : Ac} (h : ∀ z ∈ xs, -9223372036854775808 ≤ z ∧ z ≤ 9223372036854775807) (hb : actB xs.length ac.k ac.t ac.a ac.b = true) : -9223372036854775808 ≤ actTold (xs.getD ac.t.toNat 0) ac.k ac.a ∧ actTold (xs.getD ac.t.toNat 0) ac.k ac.a ≤ 9223372036854775807 := by
  have hb := actB_of hb
  have := h _ (getD_mem (xs := xs) (j := ac.t.toNat) (by omega))
  unfold actTold
  unfold wrap64
  split
  · omega
  · split
    · split <;> omega
    · split
      · omega
      · exact this
theorem iAct_bd {n : Int} {c : Cl} {ac : Ac} (h : iAct n c = some ac) (l : -9223372036854775808 ≤ c.w) (u : c.w ≤ 9223372036854775807) : (-9223372036854775808 ≤ ac.a ∧ ac.a ≤ 9223372036854775807) ∧ -9223372036854775808 ≤ ac.b ∧ ac.b ≤ 9223372036854775807 := by
  have h1 := un_bd c.w
  have h2 : ∀ i, 0 ≤ casW c.w i ∧ casW c.w i ≤ 1125899906842623 := fun i => pk_bd _ _
  have h3 := h2 (c.a + 1)
  have h4 := h2 (inIx c.c)
  unfold iAct at h
  repeat' split at h
  all_goals first | (simp only [Option.some.injEq] at h; subst h; simp only; omega) | cases h
theorem iStep_bd {n : Int} {xs L : List Int} {c co : Cl} (h : iStep n xs c = some (L, co)) (hx : ∀ z ∈ xs, -9223372036854775808 ≤ z ∧ z ≤ 9223372036854775807) (l : -9223372036854775808 ≤ c.w) (u : c.w ≤ 9223372036854775807) : L.length = xs.length ∧ (∀ z ∈ L, -9223372036854775808 ≤ z ∧ z ≤ 9223372036854775807) ∧ -9223372036854775808 ≤ co.w ∧ co.w ≤ 9223372036854775807 := by
  unfold iStep at h
  cases hac : iAct n c with
  | none => rw [hac] at h; cases h
  | some ac =>
    rw [hac] at h
    simp only at h
    split at h
    · rename_i hc
      simp only [Option.some.injEq, Prod.mk.injEq] at h
      obtain ⟨rfl, rfl⟩ := h
      have hT := told_bd hx hc.2
      have hA := iAct_bd hac l u
      have hb := actB_of hc.2
      refine ⟨by simp [memDo], fun z hz => ?_, ?_⟩
      · rcases List.mem_or_eq_of_mem_set hz with hz | rfl
        · exact hx z hz
        · have := hx _ (getD_mem (xs := xs) (j := ac.t.toNat) (by omega))
          unfold actNew wrap64
          repeat' split
          all_goals omega
      · generalize actTold (xs.getD ac.t.toNat 0) ac.k ac.a = T at hT
        have := stHead_bds T hT.1 hT.2
        unfold iAfter
        repeat' split
        all_goals (simp only; omega)
    · cases h
theorem steps_some {n : Int} {f : Nat} {xs : List Int} {c : Cl} {y : List Int × Cl} (h : steps n f xs c = some y) (hd : c.d = false) : ∃ f' L co, f = f' + 1 ∧ iStep n xs c = some (L, co) ∧ steps n f' L co = some y := by
  cases f with
  | zero => simp [steps, hd] at h
  | succ f =>
    simp only [steps, hd] at h
    cases hs : iStep n xs c with
    | none => simp [hs] at h
    | some z => simp [hs] at h; exact ⟨f, z.1, z.2, rfl, rfl, h⟩
theorem steps_end {n : Int} {f : Nat} {xs : List Int} {c : Cl} {y : List Int × Cl} (h : steps n f xs c = some y) (hd : c.d = true) : y = (xs, c) := by
  rw [steps_done n f xs c hd] at h
  exact (Option.some.inj h).symm
theorem Inv.pop {n : Int} {xs want : List Int} (h : Inv n xs want) : ∃ xsF cF, steps n 3 xs (stCall 2 0) = some (xsF, cF) ∧ cF.k = 2 ∧ cF.d = true ∧ ((want = [] ∧ cF.r = 2 ∧ xsF = xs) ∨ ∃ p ws, want = p :: ws ∧ cF.r = 1 ∧ cF.v = p ∧ Inv n xsF ws) := by
  cases want with
  | nil => exact ⟨_, _, h.pop_none, rfl, rfl, .inl ⟨rfl, rfl, rfl⟩⟩
  | cons p ws =>
    obtain ⟨xs', c', e, h1, h2, h3, h4, h5⟩ := h.pop_some
    exact ⟨xs', c', e, h1, h4, .inr ⟨p, ws, rfl, h2, h3, h5⟩⟩
theorem Inv.bds {n : Int} {xs want : List Int} (h : Inv n xs want) : ∀ z ∈ xs, -9223372036854775808 ≤ z ∧ z ≤ 9223372036854775807 := fun z hz => by have := h.bd z hz; omega

end Go.Proofs.Ytabcmnoadoebpaa
