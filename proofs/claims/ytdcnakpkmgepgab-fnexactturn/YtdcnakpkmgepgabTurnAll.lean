/- Contracts of functions of the program and of its model, and plain lemmas: several texts in one. -/
import Derived.Test.YtdcnakpkmgepgabRows
import Derived.WalkKit
import Derived.ProofKit
import Derived.OpenShut
import Derived.ShutString
import Derived.Test.YtdcnakpkmgepgabTBaseA
import Derived.Test.YtdcnakpkmgepgabTBaseB
import Derived.Deep.RegionHeld3
import Derived.Deep.RegionLaw
import Derived.ChangeKeysEq
import Derived.Test.YtdcnakpkmgepgabTBaseC

namespace Go.Proofs.Ytdcnakpkmgepgab
open Go.ChangeShapes Go.WideShapes Go.ChangeAt Go.RowKit
set_option linter.unusedVariables false

def setOk (a : Int) (ps : List Int) (L : List (Int × Int)) (h : Int) (pinned : Bool) : Bool := okB a ps L && decide (0 ≤ h ∧ h < (ps.length : Int)) && ((ps.getD h.toNat 0 != -1) == pinned)
def setA (B : Bool) (a : Int) : Int := if B = true then a else 0
def setP (B : Bool) (ps : List Int) (h y : Int) : List Int := if B = true then ps.set h.toNat y else []
def setLm (B : Bool) (L : List (Int × Int)) : List (Int × Int) := if B = true then L else []
theorem AR.put {W : World} {lo hi g c : Nat} {l : Value} {ps : List Int} {L : List (Int × Int)} (h : AR lo hi (.slice (some ⟨g, 0, none⟩) ps.length c) l ps L W) (hz : hi ≤ W.heap.size) (i : Nat) (hi' : i < ps.length) (y : Int) : AR lo hi (.slice (some ⟨g, 0, none⟩) ps.length c) l (ps.set i y) L (W.setCell ⟨g, i, none⟩ (.int .i64 y)) := by
  refine ⟨h.pins.put i hi' y, h.limbo.grown hz (q := some g) ⟨rfl, rfl, rfl, by simp, fun k _ hk => Below.heap_setCell _ _ _ _ (fun e => hk (by rw [e]))⟩ (fun hx k hk e => ?_), by have := h.apart; simpa using this⟩
  cases hk
  exact h.apart (by omega) (ne_nil_pos hx) e.symm
theorem AR.set_out {W : World} {lo hi : Nat} {p l : Value} {ps : List Int} {L : List (Int × Int)} (h : AR lo hi p l ps L W) {b o : Nat} {v : Value} (hb : b < lo ∨ hi ≤ b) : AR lo hi p l ps L (W.setCell ⟨b, o, none⟩ v) :=
  AR.loc lo hi p l ps L W _ h (fun k k1 k2 => Below.heap_setCell _ _ _ _ (by show k ≠ b; omega))
theorem AR.alloc {W : World} {lo hi : Nat} {p l : Value} {ps : List Int} {L : List (Int × Int)} (h : AR lo hi p l ps L W) (hz : hi ≤ W.heap.size) (o : Obj) : AR lo hi p l ps L (W.alloc o) := h.below ((Below.refl _ _).alloc hz o)
/- what a function of epochs answers: epochs of its own, and a word -/
def AAns (A : Int) (PS : List Int) (LS : List (Int × Int)) (B : Bool) (w : World) (e : Ending) (w' : World) : Prop :=
  ∃ p' l', e = .returned (.tuple #[.agg #[.int .i64 A, p', l'], .bool B]) ∧ AR w.heap.size w'.heap.size p' l' PS LS w' ∧ Below w.heap.size w w'
theorem setOk_no1 {a : Int} {ps : List Int} {L : List (Int × Int)} {h : Int} {q : Bool} (e : okB a ps L = false) : setOk a ps L h q = false := by simp [setOk, e]
theorem setOk_no2 {a : Int} {ps : List Int} {L : List (Int × Int)} {h : Int} {q : Bool} (e : ¬ (0 ≤ h ∧ h < (ps.length : Int))) : setOk a ps L h q = false := by simp only [setOk, decide_eq_false e, Bool.and_false, Bool.false_and]
theorem setOk_in {a : Int} {ps : List Int} {L : List (Int × Int)} {i : Nat} {q : Bool} (e : okB a ps L = true) (hi : i < ps.length) : setOk a ps L (i : Int) q = ((ps[i] != -1) == q) := by
  have h1 : decide (0 ≤ (i : Int) ∧ (i : Int) < (ps.length : Int)) = true := decide_eq_true ⟨by omega, by omega⟩
  simp only [setOk, e, h1, Bool.true_and]
  simp [hi]

set_option maxHeartbeats 1600000 in
set_option maxRecDepth 100000 in
theorem spec_set_no0 (w : World) (a : Int) (p l : Value) (ps : List Int) (L : List (Int × Int)) (h y : Int) (q : Bool) (hA : AIn w p l ps L) (hk : setOk a ps L h q = false) :
    Calls Try.prog 40 #[.agg #[.int .i64 a, p, l], .int .i64 h, .bool q, .int .i64 y] w fun e w' => e = .returned (.tuple #[.agg #[.int .i64 0, .slice none 0 0, .slice none 0 0], .bool false]) ∧ Below w.heap.size w w' := by
  have H := hidIt hA
  obtain ⟨pa, pc, la, lc, rfl, rfl, -⟩ := hA.form
  clear hA
  have HK := hidIt hk
  clear hk
  go_enter Try.func40, Try.ntmps40
  go_wp2_with fail
  generalize hW : World.alloc (World.alloc w _) _ = W2
  have bW : Hid (Below w.heap.size w W2) := (by rw [← hW]; exact ((Below.refl w.heap.size w).alloc (Nat.le_refl _) _).alloc (by simp) _ : Below w.heap.size w W2)
  have zW : W2.heap.size = w.heap.size + 2 := by rw [← hW]; simp
  have c1 : W2.cell? ⟨w.heap.size, 1, none⟩ = some (.slice pa ps.length pc) := by rw [← hW]; simp [go_sem]
  have d0 : W2.cell? ⟨w.heap.size + 1, 0, none⟩ = some (.int .i64 0) := by rw [← hW]; simp [go_sem]
  have d1 : W2.cell? ⟨w.heap.size + 1, 1, none⟩ = some (.slice none 0 0) := by rw [← hW]; simp [go_sem]
  have d2 : W2.cell? ⟨w.heap.size + 1, 2, none⟩ = some (.slice none 0 0) := by rw [← hW]; simp [go_sem]
  have f0 : ∀ o, W2.frozen? ⟨w.heap.size + 1, o, none⟩ = false := by rw [← hW]; simp [go_sem]
  clear hW
  refine (spec_agesok W2 a _ _ ps L (H.out.below bW.out)).mono ?_
  rintro e w3 ⟨rfl, b3⟩
  have B3 := hidIt (bW.out.trans (b3.mono (by omega)))
  replace c1 := below_cell b3 (by omega) c1
  replace d0 := below_cell b3 (by omega) d0
  replace d1 := below_cell b3 (by omega) d1
  replace d2 := below_cell b3 (by omega) d2
  replace f0 : ∀ o, w3.frozen? ⟨w.heap.size + 1, o, none⟩ = false := fun o => below_frozen b3 (by omega) (f0 o)
  clear b3
  cases hB : okB a ps L with
  | false =>
    go_wp2
    exact bodyPost_ret (v := .tuple #[.agg #[.int .i64 0, .slice none 0 0, .slice none 0 0], .bool false]) (by simp [results, Try.results40, go_sem, d0, d1, d2]) rfl ⟨rfl, by exact ((B3.out.setCell (by simp) _).setCell (by simp) _).setCell (by simp) _⟩
  | true =>
    by_cases h0 : h < 0
    · go_wp2
      exact bodyPost_ret (v := .tuple #[.agg #[.int .i64 0, .slice none 0 0, .slice none 0 0], .bool false]) (by simp [results, Try.results40, go_sem, d0, d1, d2]) rfl ⟨rfl, by exact ((B3.out.setCell (by simp) _).setCell (by simp) _).setCell (by simp) _⟩
    · by_cases h1 : (ps.length : Int) ≤ h
      · go_wp2
        exact bodyPost_ret (v := .tuple #[.agg #[.int .i64 0, .slice none 0 0, .slice none 0 0], .bool false]) (by simp [results, Try.results40, go_sem, d0, d1, d2]) rfl ⟨rfl, by exact ((B3.out.setCell (by simp) _).setCell (by simp) _).setCell (by simp) _⟩
      · obtain ⟨i, rfl⟩ : ∃ i : Nat, h = i := ⟨h.toNat, by omega⟩
        have hi : i < ps.length := by omega
        have hi' : (i : Int) < (ps.length : Int) := by omega
        obtain ⟨pa', pc', hv, hp⟩ := H.out.pins.below B3.out
        simp at hv
        obtain ⟨rfl, rfl⟩ := hv
        rcases hp with hp | ⟨b, off, rfl, hb, hp⟩
        · rw [hp] at hi; simp at hi
        have c3 := hp i hi
        have HZ := hidIt (setOk_in (q := q) hB hi)
        have HK2 := hidIt (HZ.out.symm.trans HK.out)
        clear hp h0 h1 HZ HK
        generalize ps[i] = z at c3 HK2
        by_cases hz : z = -1
        · subst hz
          obtain rfl : q = true := by have := HK2.out; simpa using this
          go_wp2
          exact bodyPost_ret (v := .tuple #[.agg #[.int .i64 0, .slice none 0 0, .slice none 0 0], .bool false]) (by simp [results, Try.results40, go_sem, d0, d1, d2]) rfl ⟨rfl, by exact ((B3.out.setCell (by simp) _).setCell (by simp) _).setCell (by simp) _⟩
        · have hz2 : (z != -1) = true := by simpa using hz
          obtain rfl : q = false := by
            have := HK2.out
            rw [hz2] at this
            cases q with
            | false => rfl
            | true => simp at this
          clear hz
          go_wp2
          exact bodyPost_ret (v := .tuple #[.agg #[.int .i64 0, .slice none 0 0, .slice none 0 0], .bool false]) (by simp [results, Try.results40, go_sem, d0, d1, d2]) rfl ⟨rfl, by exact ((B3.out.setCell (by simp) _).setCell (by simp) _).setCell (by simp) _⟩

set_option maxHeartbeats 1600000 in
set_option maxRecDepth 100000 in
theorem spec_set_yes0 (w : World) (a : Int) (p l : Value) (ps : List Int) (L : List (Int × Int)) (i : Nat) (y : Int) (q : Bool) (hA : AIn w p l ps L) (hB : okB a ps L = true) (hi : i < ps.length) (hq : ((ps[i] != -1) == q) = true) :
    Calls Try.prog 40 #[.agg #[.int .i64 a, p, l], .int .i64 (i : Int), .bool q, .int .i64 y] w (AAns a (ps.set i y) L true w) := by
  obtain ⟨a0, a1, n1, n8, m1, -, -⟩ := okB_len hB
  have H := hidIt hA
  obtain ⟨pa, pc, la, lc, rfl, rfl, -⟩ := hA.form
  clear hA
  have hi' : (i : Int) < (ps.length : Int) := by omega
  go_enter Try.func40, Try.ntmps40
  go_wp2_with fail
  generalize hW : World.alloc (World.alloc w _) _ = W2
  have bW : Hid (Below w.heap.size w W2) := (by rw [← hW]; exact ((Below.refl w.heap.size w).alloc (Nat.le_refl _) _).alloc (by simp) _ : Below w.heap.size w W2)
  have zW : W2.heap.size = w.heap.size + 2 := by rw [← hW]; simp
  have c0 : W2.cell? ⟨w.heap.size, 0, none⟩ = some (.int .i64 a) := by rw [← hW]; simp [go_sem]
  have c1 : W2.cell? ⟨w.heap.size, 1, none⟩ = some (.slice pa ps.length pc) := by rw [← hW]; simp [go_sem]
  have c2 : W2.cell? ⟨w.heap.size, 2, none⟩ = some (.slice la L.length lc) := by rw [← hW]; simp [go_sem]
  have d0 : W2.cell? ⟨w.heap.size + 1, 0, none⟩ = some (.int .i64 0) := by rw [← hW]; simp [go_sem]
  have d1 : W2.cell? ⟨w.heap.size + 1, 1, none⟩ = some (.slice none 0 0) := by rw [← hW]; simp [go_sem]
  have d2 : W2.cell? ⟨w.heap.size + 1, 2, none⟩ = some (.slice none 0 0) := by rw [← hW]; simp [go_sem]
  have f0 : ∀ o, W2.frozen? ⟨w.heap.size + 1, o, none⟩ = false := by rw [← hW]; simp [go_sem]
  clear hW
  refine (spec_agesok W2 a _ _ ps L (H.out.below bW.out)).mono ?_
  rintro e w3 ⟨rfl, b3⟩
  have z3 := b3.size
  have B3 := hidIt (bW.out.trans (b3.mono (by omega)))
  replace c0 := below_cell b3 (by omega) c0
  replace c1 := below_cell b3 (by omega) c1
  replace c2 := below_cell b3 (by omega) c2
  replace d0 := below_cell b3 (by omega) d0
  replace d1 := below_cell b3 (by omega) d1
  replace d2 := below_cell b3 (by omega) d2
  replace f0 : ∀ o, w3.frozen? ⟨w.heap.size + 1, o, none⟩ = false := fun o => below_frozen b3 (by omega) (f0 o)
  clear b3
  rw [hB]
  obtain ⟨pa', pc', hv, hp⟩ := H.out.pins.below B3.out
  simp at hv
  obtain ⟨rfl, rfl⟩ := hv
  rcases hp with hp | ⟨b, off, rfl, hb, hp⟩
  · rw [hp] at hi; simp at hi
  have c3 := hp i hi
  have HI := hidIt hi
  have HQ := hidIt hq
  clear hp hq
  generalize ps[i] = z at c3 HQ
  have key : (z = -1 ∧ q = false) ∨ ((z != -1) = true ∧ q = true) := by
    have := HQ.out
    by_cases hz : z = -1
    · left
      refine ⟨hz, ?_⟩
      rw [hz] at this
      cases q with
      | false => rfl
      | true => simp at this
    · right
      have e : (z != -1) = true := by simpa using hz
      refine ⟨e, ?_⟩
      rw [e] at this
      cases q with
      | true => rfl
      | false => simp at this
  clear hi
  have HR := hidIt (H.out.below B3.out)
  have fin : ∀ (x : Int), z = x → True := fun _ _ => trivial
  clear fin
  rcases key with ⟨rfl, rfl⟩ | ⟨hz, rfl⟩
  all_goals
    go_wp2_with fail
    refine (spec_copyages w3 a _ _ ps L (by omega) (by omega) (by omega) HR.out).mono ?_
    rintro e w4 ⟨p4, l4, rfl, ao, b4⟩
    have z4 := b4.size
    have A4 := hidIt ao.ar
    have B4 := hidIt (B3.out.trans (b4.mono (by omega)))
    replace d0 := below_cell b4 (by omega) d0
    replace d1 := below_cell b4 (by omega) d1
    replace d2 := below_cell b4 (by omega) d2
    replace f0 : ∀ o, w4.frozen? ⟨w.heap.size + 1, o, none⟩ = false := fun o => below_frozen b4 (by omega) (f0 o)
    obtain ⟨g, k4, rfl, g1, g2, e3, e4⟩ := A4.out.pins.ofSome (by omega)
    obtain ⟨b4', k4', rfl, -⟩ := A4.out.limbo.form
    have e5 := e3 i HI.out
    have e6 := e4 i
    have hlt1 : w.heap.size + 1 < w4.heap.size := by omega
    have hne1 : g ≠ w.heap.size + 1 := by omega
    clear ao b4 c0 c1 c2 c3 e3 e4
    go_wp2
    refine bodyPost_ret (v := .tuple #[.agg #[.int .i64 a, .slice (some ⟨g, 0, none⟩) ps.length k4, .slice b4' L.length k4'], .bool true]) (by simp [results, Try.results40, go_sem, d0, d1, d2, hlt1]) rfl ⟨_, _, rfl, ?_, ?_⟩
    · exact (((((A4.out.put (Nat.le_refl _) i HI.out y).set_out (.inl (by omega))).set_out (.inl (by omega))).set_out (.inl (by omega))).alloc (by simp) _).wide (by omega) (by simp)
    · exact ((((B4.out.setCell (p := ⟨g, i, none⟩) (by show w.heap.size ≤ g; omega) _).setCell (by simp) _).setCell (by simp) _).setCell (by simp) _).alloc (by simp; omega) _

theorem setOk_true {a : Int} {ps : List Int} {L : List (Int × Int)} {h : Int} {q : Bool} (e : setOk a ps L h q = true) : okB a ps L = true ∧ ∃ (i : Nat) (hi : i < ps.length), h = i ∧ ((ps[i] != -1) == q) = true := by
  have h1 : okB a ps L = true := by
    cases hB : okB a ps L with
    | true => rfl
    | false => rw [setOk_no1 hB] at e; cases e
  have h2 : 0 ≤ h ∧ h < (ps.length : Int) := by
    by_cases hc : 0 ≤ h ∧ h < (ps.length : Int)
    · exact hc
    · rw [setOk_no2 hc] at e; cases e
  obtain ⟨i, rfl⟩ : ∃ i : Nat, h = i := ⟨h.toNat, by omega⟩
  have hi : i < ps.length := by omega
  exact ⟨h1, i, hi, rfl, by rw [← setOk_in (L := L) h1 hi]; exact e⟩
theorem AAns.none {w w' : World} {e : Ending} (h : e = .returned (.tuple #[.agg #[.int .i64 0, .slice none 0 0, .slice none 0 0], .bool false]) ∧ Below w.heap.size w w') : AAns 0 [] [] false w e w' := ⟨_, _, h.1, AR.nil _ _ _, h.2⟩
theorem spec_setf (w : World) (a : Int) (p l : Value) (ps : List Int) (L : List (Int × Int)) (h y : Int) (q : Bool) (hA : AIn w p l ps L) :
    Calls Try.prog 40 #[.agg #[.int .i64 a, p, l], .int .i64 h, .bool q, .int .i64 y] w (AAns (setA (setOk a ps L h q) a) (setP (setOk a ps L h q) ps h y) (setLm (setOk a ps L h q) L) (setOk a ps L h q) w) := by
  cases hB : setOk a ps L h q with
  | false => exact (spec_set_no0 w a p l ps L h y q hA hB).mono fun _ _ k => AAns.none k
  | true =>
    obtain ⟨h1, i, hi, rfl, h2⟩ := setOk_true hB
    exact spec_set_yes0 w a p l ps L i y q hA h1 hi h2

theorem impl_hashandle (w : World) (a : Int) (pa la : Option Addr) (n c m d : Nat) (h : Int) :
    Calls Try.prog 37 #[.agg #[.int .i64 a, .slice pa n c, .slice la m d], .int .i64 h] w fun e w' => e = .returned (.bool (decide (0 ≤ h ∧ h < (n : Int)))) ∧ Below w.heap.size w w' := by
  by_cases h0 : 0 ≤ h
  · by_cases h1 : h < (n : Int)
    · have e : decide (0 ≤ h ∧ h < (n : Int)) = true := decide_eq_true ⟨h0, h1⟩
      rw [e]
      go_enter Try.func37, Try.ntmps37
      go_wp2
      go_ret
      exact ⟨rfl, (Below.refl w.heap.size w).alloc (Nat.le_refl _) _⟩
    · have e : decide (0 ≤ h ∧ h < (n : Int)) = false := decide_eq_false (by omega)
      rw [e]
      go_enter Try.func37, Try.ntmps37
      go_wp2
      go_ret
      exact ⟨rfl, (Below.refl w.heap.size w).alloc (Nat.le_refl _) _⟩
  · have e : decide (0 ≤ h ∧ h < (n : Int)) = false := decide_eq_false (by omega)
    rw [e]
    go_enter Try.func37, Try.ntmps37
    go_wp2
    go_ret
    exact ⟨rfl, (Below.refl w.heap.size w).alloc (Nat.le_refl _) _⟩

set_option maxRecDepth 100000 in
theorem spec_unpin (w : World) (a : Int) (p l : Value) (ps : List Int) (L : List (Int × Int)) (h : Int) (hA : AIn w p l ps L) :
    Calls Try.prog 19 #[.agg #[.int .i64 a, p, l], .int .i64 h] w (AAns (setA (setOk a ps L h true) a) (setP (setOk a ps L h true) ps h (-1)) (setLm (setOk a ps L h true) L) (setOk a ps L h true) w) := by
  have H := hidIt hA
  obtain ⟨pa, pc, la, lc, rfl, rfl, -⟩ := hA.form
  clear hA
  have HS := hidIt (fun W hA => spec_setf W a (.slice pa ps.length pc) (.slice la L.length lc) ps L h (-1) true hA)
  generalize setA (setOk a ps L h true) a = A' at HS
  generalize setP (setOk a ps L h true) ps h (-1) = P' at HS
  generalize setLm (setOk a ps L h true) L = L' at HS
  generalize setOk a ps L h true = B' at HS
  go_enter Try.func19, Try.ntmps19
  go_wp2_with fail
  generalize hW : World.alloc (World.alloc w _) _ = W2
  have bW : Hid (Below w.heap.size w W2) := (by rw [← hW]; exact ((Below.refl w.heap.size w).alloc (Nat.le_refl _) _).alloc (by simp) _ : Below w.heap.size w W2)
  have zW : W2.heap.size = w.heap.size + 2 := by rw [← hW]; simp
  have c0 : W2.cell? ⟨w.heap.size, 0, none⟩ = some (.int .i64 a) := by rw [← hW]; simp [go_sem]
  have c1 : W2.cell? ⟨w.heap.size, 1, none⟩ = some (.slice pa ps.length pc) := by rw [← hW]; simp [go_sem]
  have c2 : W2.cell? ⟨w.heap.size, 2, none⟩ = some (.slice la L.length lc) := by rw [← hW]; simp [go_sem]
  have d0 : W2.cell? ⟨w.heap.size + 1, 0, none⟩ = some (.int .i64 0) := by rw [← hW]; simp [go_sem]
  have d1 : W2.cell? ⟨w.heap.size + 1, 1, none⟩ = some (.slice none 0 0) := by rw [← hW]; simp [go_sem]
  have d2 : W2.cell? ⟨w.heap.size + 1, 2, none⟩ = some (.slice none 0 0) := by rw [← hW]; simp [go_sem]
  have f0 : ∀ o, W2.frozen? ⟨w.heap.size + 1, o, none⟩ = false := by rw [← hW]; simp [go_sem]
  clear hW
  refine (HS.out W2 (H.out.below bW.out)).mono ?_
  rintro e w3 ⟨p3, l3, rfl, r3, b3⟩
  have z3 := b3.size
  have R3 := hidIt r3
  obtain ⟨x3, k3, y3, j3, rfl, rfl, -⟩ := r3.form
  have B3 := hidIt (bW.out.trans (b3.mono (by omega)))
  replace c0 := below_cell b3 (by omega) c0
  replace c1 := below_cell b3 (by omega) c1
  replace c2 := below_cell b3 (by omega) c2
  replace d0 := below_cell b3 (by omega) d0
  replace d1 := below_cell b3 (by omega) d1
  replace d2 := below_cell b3 (by omega) d2
  replace f0 : ∀ o, w3.frozen? ⟨w.heap.size + 1, o, none⟩ = false := fun o => below_frozen b3 (by omega) (f0 o)
  clear r3 b3 c0 c1 c2
  go_wp2
  refine bodyPost_ret (v := .tuple #[.agg #[.int .i64 A', .slice x3 P'.length k3, .slice y3 L'.length j3], .bool B']) (by simp [results, Try.results19, go_sem, d0, d1, d2]) rfl ⟨_, _, rfl, ?_, ?_⟩
  · exact (((R3.out.set_out (.inl (by omega))).set_out (.inl (by omega))).set_out (.inl (by omega))).wide (by omega) (by simp)
  · exact ((B3.out.setCell (by simp) _).setCell (by simp) _).setCell (by simp) _

set_option maxHeartbeats 1600000 in
set_option maxRecDepth 100000 in
theorem impl_unpin_no (w : World) (a : Int) (p l : Value) (ps : List Int) (L : List (Int × Int)) (h : Int) (hA : AIn w p l ps L) (hk : setOk a ps L h true = false) :
    Calls Try.prog 23 #[.agg #[.int .i64 a, p, l], .int .i64 h] w fun e w' => e = .returned (.tuple #[.agg #[.int .i64 0, .slice none 0 0, .slice none 0 0], .bool false]) ∧ Below w.heap.size w w' := by
  have H := hidIt hA
  obtain ⟨pa, pc, la, lc, rfl, rfl, -⟩ := hA.form
  clear hA
  have HK := hidIt hk
  clear hk
  go_enter Try.func23, Try.ntmps23
  go_wp2_with fail
  generalize hW : World.alloc (World.alloc w _) _ = W2
  have bW : Hid (Below w.heap.size w W2) := (by rw [← hW]; exact ((Below.refl w.heap.size w).alloc (Nat.le_refl _) _).alloc (by simp) _ : Below w.heap.size w W2)
  have zW : W2.heap.size = w.heap.size + 2 := by rw [← hW]; simp
  have c0 : W2.cell? ⟨w.heap.size, 0, none⟩ = some (.int .i64 a) := by rw [← hW]; simp [go_sem]
  have c1 : W2.cell? ⟨w.heap.size, 1, none⟩ = some (.slice pa ps.length pc) := by rw [← hW]; simp [go_sem]
  have c2 : W2.cell? ⟨w.heap.size, 2, none⟩ = some (.slice la L.length lc) := by rw [← hW]; simp [go_sem]
  have d0 : W2.cell? ⟨w.heap.size + 1, 0, none⟩ = some (.int .i64 0) := by rw [← hW]; simp [go_sem]
  have d1 : W2.cell? ⟨w.heap.size + 1, 1, none⟩ = some (.slice none 0 0) := by rw [← hW]; simp [go_sem]
  have d2 : W2.cell? ⟨w.heap.size + 1, 2, none⟩ = some (.slice none 0 0) := by rw [← hW]; simp [go_sem]
  have f0 : ∀ o, W2.frozen? ⟨w.heap.size + 1, o, none⟩ = false := by rw [← hW]; simp [go_sem]
  clear hW
  refine (impl_agesok W2 a _ _ ps L (H.out.below bW.out)).mono ?_
  rintro e w3 ⟨rfl, b3⟩
  have z3 := b3.size
  have B3 := hidIt (bW.out.trans (b3.mono (by omega)))
  replace c0 := below_cell b3 (by omega) c0
  replace c1 := below_cell b3 (by omega) c1
  replace c2 := below_cell b3 (by omega) c2
  replace d0 := below_cell b3 (by omega) d0
  replace d1 := below_cell b3 (by omega) d1
  replace d2 := below_cell b3 (by omega) d2
  replace f0 : ∀ o, w3.frozen? ⟨w.heap.size + 1, o, none⟩ = false := fun o => below_frozen b3 (by omega) (f0 o)
  clear b3
  cases hB : okB a ps L with
  | false =>
    go_wp2
    exact bodyPost_ret (v := .tuple #[.agg #[.int .i64 0, .slice none 0 0, .slice none 0 0], .bool false]) (by simp [results, Try.results23, go_sem, d0, d1, d2]) rfl ⟨rfl, by exact ((B3.out.setCell (by simp) _).setCell (by simp) _).setCell (by simp) _⟩
  | true =>
    go_wp2_with fail
    refine (impl_hashandle w3 a pa la ps.length pc L.length lc h).mono ?_
    rintro e w4 ⟨rfl, b4⟩
    have z4 := b4.size
    have B4 := hidIt (B3.out.trans (b4.mono (by omega)))
    replace c0 := below_cell b4 (by omega) c0
    replace c1 := below_cell b4 (by omega) c1
    replace c2 := below_cell b4 (by omega) c2
    replace d0 := below_cell b4 (by omega) d0
    replace d1 := below_cell b4 (by omega) d1
    replace d2 := below_cell b4 (by omega) d2
    replace f0 : ∀ o, w4.frozen? ⟨w.heap.size + 1, o, none⟩ = false := fun o => below_frozen b4 (by omega) (f0 o)
    clear b4
    by_cases h0 : 0 ≤ h ∧ h < (ps.length : Int)
    · rw [decide_eq_true h0]
      obtain ⟨i, rfl⟩ : ∃ i : Nat, h = i := ⟨h.toNat, by omega⟩
      have hi : i < ps.length := by omega
      have hi' : (i : Int) < (ps.length : Int) := by omega
      obtain ⟨pa', pc', hv, hp⟩ := H.out.pins.below B4.out
      simp at hv
      obtain ⟨rfl, rfl⟩ := hv
      rcases hp with hp | ⟨b, off, rfl, hb, hp⟩
      · rw [hp] at hi; simp at hi
      have c3 := hp i hi
      have HK2 := hidIt ((setOk_in (q := true) hB hi).symm.trans HK.out)
      clear hp h0 HK
      generalize ps[i] = z at c3 HK2
      obtain rfl : z = -1 := by
        by_cases e : z = -1
        · exact e
        · have e2 : (z != -1) = true := by simpa using e
          have := HK2.out
          rw [e2] at this
          simp at this
      go_wp2
      exact bodyPost_ret (v := .tuple #[.agg #[.int .i64 0, .slice none 0 0, .slice none 0 0], .bool false]) (by simp [results, Try.results23, go_sem, d0, d1, d2]) rfl ⟨rfl, by exact ((B4.out.setCell (by simp) _).setCell (by simp) _).setCell (by simp) _⟩
    · rw [decide_eq_false h0]
      clear h0
      go_wp2
      exact bodyPost_ret (v := .tuple #[.agg #[.int .i64 0, .slice none 0 0, .slice none 0 0], .bool false]) (by simp [results, Try.results23, go_sem, d0, d1, d2]) rfl ⟨rfl, by exact ((B4.out.setCell (by simp) _).setCell (by simp) _).setCell (by simp) _⟩

set_option maxHeartbeats 1600000 in
set_option maxRecDepth 100000 in
theorem impl_unpin_yes (w : World) (a : Int) (p l : Value) (ps : List Int) (L : List (Int × Int)) (i : Nat) (hA : AIn w p l ps L) (hB : okB a ps L = true) (hi : i < ps.length) (hq : ((ps[i] != -1) == true) = true) :
    Calls Try.prog 23 #[.agg #[.int .i64 a, p, l], .int .i64 (i : Int)] w (AAns a (ps.set i (-1)) L true w) := by
  obtain ⟨a0, a1, n1, n8, m1, -, -⟩ := okB_len hB
  have H := hidIt hA
  obtain ⟨pa, pc, la, lc, rfl, rfl, -⟩ := hA.form
  clear hA
  have hi' : (i : Int) < (ps.length : Int) := by omega
  have hd : decide (0 ≤ (i : Int) ∧ (i : Int) < (ps.length : Int)) = true := decide_eq_true ⟨by omega, hi'⟩
  go_enter Try.func23, Try.ntmps23
  go_wp2_with fail
  generalize hW : World.alloc (World.alloc w _) _ = W2
  have bW : Hid (Below w.heap.size w W2) := (by rw [← hW]; exact ((Below.refl w.heap.size w).alloc (Nat.le_refl _) _).alloc (by simp) _ : Below w.heap.size w W2)
  have zW : W2.heap.size = w.heap.size + 2 := by rw [← hW]; simp
  have c0 : W2.cell? ⟨w.heap.size, 0, none⟩ = some (.int .i64 a) := by rw [← hW]; simp [go_sem]
  have c1 : W2.cell? ⟨w.heap.size, 1, none⟩ = some (.slice pa ps.length pc) := by rw [← hW]; simp [go_sem]
  have c2 : W2.cell? ⟨w.heap.size, 2, none⟩ = some (.slice la L.length lc) := by rw [← hW]; simp [go_sem]
  have d0 : W2.cell? ⟨w.heap.size + 1, 0, none⟩ = some (.int .i64 0) := by rw [← hW]; simp [go_sem]
  have d1 : W2.cell? ⟨w.heap.size + 1, 1, none⟩ = some (.slice none 0 0) := by rw [← hW]; simp [go_sem]
  have d2 : W2.cell? ⟨w.heap.size + 1, 2, none⟩ = some (.slice none 0 0) := by rw [← hW]; simp [go_sem]
  have f0 : ∀ o, W2.frozen? ⟨w.heap.size + 1, o, none⟩ = false := by rw [← hW]; simp [go_sem]
  clear hW
  refine (impl_agesok W2 a _ _ ps L (H.out.below bW.out)).mono ?_
  rintro e w3 ⟨rfl, b3⟩
  have z3 := b3.size
  have B3 := hidIt (bW.out.trans (b3.mono (by omega)))
  replace c0 := below_cell b3 (by omega) c0
  replace c1 := below_cell b3 (by omega) c1
  replace c2 := below_cell b3 (by omega) c2
  replace d0 := below_cell b3 (by omega) d0
  replace d1 := below_cell b3 (by omega) d1
  replace d2 := below_cell b3 (by omega) d2
  replace f0 : ∀ o, w3.frozen? ⟨w.heap.size + 1, o, none⟩ = false := fun o => below_frozen b3 (by omega) (f0 o)
  clear b3
  rw [hB]
  go_wp2_with fail
  refine (impl_hashandle w3 a pa la ps.length pc L.length lc i).mono ?_
  rintro e w4 ⟨rfl, b4⟩
  have z4 := b4.size
  have B4 := hidIt (B3.out.trans (b4.mono (by omega)))
  replace c0 := below_cell b4 (by omega) c0
  replace c1 := below_cell b4 (by omega) c1
  replace c2 := below_cell b4 (by omega) c2
  replace d0 := below_cell b4 (by omega) d0
  replace d1 := below_cell b4 (by omega) d1
  replace d2 := below_cell b4 (by omega) d2
  replace f0 : ∀ o, w4.frozen? ⟨w.heap.size + 1, o, none⟩ = false := fun o => below_frozen b4 (by omega) (f0 o)
  clear b4
  rw [hd]
  obtain ⟨pa', pc', hv, hp⟩ := H.out.pins.below B4.out
  simp at hv
  obtain ⟨rfl, rfl⟩ := hv
  rcases hp with hp | ⟨b, off, rfl, hb, hp⟩
  · rw [hp] at hi; simp at hi
  have c3 := hp i hi
  have HI := hidIt hi
  have HQ := hidIt hq
  clear hp hq hd
  generalize ps[i] = z at c3 HQ
  have hz : ¬ z = -1 := by
    intro e
    have := HQ.out
    rw [e] at this
    simp at this
  have hz2 : (z == -1) = false := by simpa using hz
  clear hi
  have HR := hidIt (H.out.below B4.out)
  go_wp2_with fail
  refine (impl_copyages w4 a _ _ ps L (by omega) (by omega) HR.out).mono ?_
  rintro e w5 ⟨p5, l5, rfl, ao, b5⟩
  have z5 := b5.size
  have A5 := hidIt ao.ar
  have B5 := hidIt (B4.out.trans (b5.mono (by omega)))
  replace c0 := below_cell b5 (by omega) c0
  replace d0 := below_cell b5 (by omega) d0
  replace d1 := below_cell b5 (by omega) d1
  replace d2 := below_cell b5 (by omega) d2
  replace f0 : ∀ o, w5.frozen? ⟨w.heap.size + 1, o, none⟩ = false := fun o => below_frozen b5 (by omega) (f0 o)
  obtain ⟨g, k5, rfl, g1, g2, e3, e4⟩ := A5.out.pins.ofSome (by omega)
  obtain ⟨b5', k5', rfl, -⟩ := A5.out.limbo.form
  have e5 := e3 i HI.out
  have e6 := e4 i
  have hlt0 : w.heap.size < w5.heap.size := by omega
  have hlt1 : w.heap.size + 1 < w5.heap.size := by omega
  have hne1 : g ≠ w.heap.size + 1 := by omega
  clear ao b5 c1 c2 c3 e3 e4
  go_wp2
  refine bodyPost_ret (v := .tuple #[.agg #[.int .i64 a, .slice (some ⟨g, 0, none⟩) ps.length k5, .slice b5' L.length k5'], .bool true]) (by simp [results, Try.results23, go_sem, d0, d1, d2, hlt1]) rfl ⟨_, _, rfl, ?_, ?_⟩
  · exact (((((A5.out.put (Nat.le_refl _) i HI.out (-1)).set_out (.inl (by omega))).set_out (.inl (by omega))).set_out (.inl (by omega))).alloc (by simp) _).wide (by omega) (by simp)
  · exact ((((B5.out.setCell (p := ⟨g, i, none⟩) (by show w.heap.size ≤ g; omega) _).setCell (by simp) _).setCell (by simp) _).setCell (by simp) _).alloc (by simp; omega) _
theorem impl_unpin (w : World) (a : Int) (p l : Value) (ps : List Int) (L : List (Int × Int)) (h : Int) (hA : AIn w p l ps L) :
    Calls Try.prog 23 #[.agg #[.int .i64 a, p, l], .int .i64 h] w (AAns (setA (setOk a ps L h true) a) (setP (setOk a ps L h true) ps h (-1)) (setLm (setOk a ps L h true) L) (setOk a ps L h true) w) := by
  cases hB : setOk a ps L h true with
  | false => exact (impl_unpin_no w a p l ps L h hA hB).mono fun _ _ k => AAns.none k
  | true =>
    obtain ⟨h1, i, hi, rfl, h2⟩ := setOk_true hB
    exact impl_unpin_yes w a p l ps L i hA h1 hi h2

end Go.Proofs.Ytdcnakpkmgepgab

namespace Go.Proofs.Ytdcnakpkmgepgab
open Go.ChangeShapes Go.WideShapes Go.ChangeAt Go.RowKit
set_option linter.unusedVariables false

def retOk (a : Int) (ps : List Int) (L : List (Int × Int)) (x : Int) : Bool := okB a ps L && !nodeB L x && decide (L.length ≠ 100)
def retP (B : Bool) (ps : List Int) : List Int := if B = true then ps else []
def retL (B : Bool) (L : List (Int × Int)) (x a : Int) : List (Int × Int) := if B = true then L ++ [(x, a)] else []
theorem gones_snoc (L : List (Int × Int)) (x a : Int) : gones (L ++ [(x, a)]) = gones L ++ [.int .i64 x, .int .i64 a] := by rw [gones_app]; rfl
theorem AO.grow {lo : Nat} {p l : Value} {ps : List Int} {L : List (Int × Int)} {W W' : World} (h : AO lo p l ps L W) (b : Below W.heap.size W W') : AO lo p l ps L W' := ⟨own_below h.pins b, own_below h.limbo b, h.apart⟩
theorem AO.app {lo : Nat} {p l : Value} {ps : List Int} {L : List (Int × Int)} {W W' : World} {x a : Int} {g cap : Nat} (h : AO lo p l ps L W)
    (ho : W'.ownsRow lo 59 2 (.slice (some ⟨g, 0, none⟩) (L.length + 1) cap) (L.length + 1) (gones L ++ [.int .i64 x, .int .i64 a])) (hg : W.grownBy W' l.ownBlock) (hat : l.ownBlock = some g ∨ g = W.heap.size) : AO lo p (.slice (some ⟨g, 0, none⟩) (L.length + 1) cap) ps (L ++ [(x, a)]) W' := by
  refine ⟨h.pins.kept hg ?_, by rw [gones_snoc]; simpa using ho, ?_⟩
  · cases hu : p.ownBlock with
    | none => exact .inl rfl
    | some k => exact .inr fun e => h.apart k hu e.symm
  · intro k hk hk2
    simp [Value.ownBlock] at hk2
    subst hk2
    rcases hat with hat | hat
    · exact h.apart g hk hat
    · have := (h.pins.lt g hk).2; omega
theorem AO.set {lo : Nat} {p l : Value} {ps : List Int} {L : List (Int × Int)} {W : World} (h : AO lo p l ps L W) {b o : Nat} {v : Value} (hp : p.ownBlock ≠ some b) (hl : l.ownBlock ≠ some b) : AO lo p l ps L (W.setCell ⟨b, o, none⟩ v) := by
  have hg : W.grownBy (W.setCell ⟨b, o, none⟩ v) (some b) := ⟨rfl, rfl, rfl, by simp, fun k _ hk => Below.heap_setCell _ _ _ _ (fun e => hk (by rw [e]))⟩
  exact ⟨h.pins.kept hg (.inr hp), h.limbo.kept hg (.inr hl), h.apart⟩
theorem AO.low {lo : Nat} {p l : Value} {ps : List Int} {L : List (Int × Int)} {W : World} (h : AO lo p l ps L W) {b o : Nat} {v : Value} (hb : b < lo) : AO lo p l ps L (W.setCell ⟨b, o, none⟩ v) :=
  h.set (fun e => by have := (h.pins.lt b e).1; omega) (fun e => by have := (h.limbo.lt b e).1; omega)
theorem AR.ofAO {lo lo' : Nat} {p l : Value} {ps : List Int} {L : List (Int × Int)} {W : World} (h : AO lo p l ps L W) (hl : lo' ≤ lo) : AR lo' W.heap.size p l ps L W := h.ar.wide hl (Nat.le_refl _)
theorem farv {w w' : World} {v : Value} {b o : Nat} {x : Option Value} (h : w.grownBy w' v.ownBlock) (hb : b < w.heap.size) (hn : ∀ k, v.ownBlock = some k → k ≠ b) (hx : w.cell? ⟨b, o, none⟩ = x) : w'.cell? ⟨b, o, none⟩ = x := (h.cell_far ⟨b, o, none⟩ hb (fun e => hn b e.symm rfl)).trans hx
theorem farv_frozen {w w' : World} {v : Value} {b o : Nat} {x : Bool} (h : w.grownBy w' v.ownBlock) (hb : b < w.heap.size) (hn : ∀ k, v.ownBlock = some k → k ≠ b) (hx : w.frozen? ⟨b, o, none⟩ = x) : w'.frozen? ⟨b, o, none⟩ = x := (h.frozen_far ⟨b, o, none⟩ hb (fun e => hn b e.symm rfl)).trans hx
theorem retOk_no {a : Int} {ps : List Int} {L : List (Int × Int)} {x : Int} (h : okB a ps L = false ∨ nodeB L x = true ∨ L.length = 100) : retOk a ps L x = false := by
  rcases h with h | h | h <;> simp [retOk, h]
theorem retOk_yes {a : Int} {ps : List Int} {L : List (Int × Int)} {x : Int} (h : retOk a ps L x = true) : okB a ps L = true ∧ nodeB L x = false ∧ L.length ≠ 100 := by
  simp only [retOk, Bool.and_eq_true, Bool.not_eq_true', decide_eq_true_eq] at h
  exact ⟨h.1.1, h.1.2, h.2⟩
theorem retOk_cases {a : Int} {ps : List Int} {L : List (Int × Int)} {x : Int} (h : retOk a ps L x = false) : okB a ps L = false ∨ nodeB L x = true ∨ L.length = 100 := by
  cases h1 : okB a ps L with
  | false => exact .inl rfl
  | true =>
    cases h2 : nodeB L x with
    | true => exact .inr (.inl rfl)
    | false =>
      simp [retOk, h1, h2] at h
      exact .inr (.inr h)

end Go.Proofs.Ytdcnakpkmgepgab

namespace Go.Proofs.Ytdcnakpkmgepgab
open Go.ChangeShapes Go.WideShapes Go.ChangeAt Go.RowKit
set_option linter.unusedVariables false

set_option maxHeartbeats 800000 in
set_option maxRecDepth 100000 in
theorem impl_nobody (w : World) :
    Calls Try.prog 62 #[] w fun e w' => e = .returned (.agg #[.int .i64 (-1), .int .i64 (-1), .int .i64 (-1), .int .i64 (-1), .int .i64 (-1), .int .i64 (-1), .int .i64 (-1), .int .i64 (-1)]) ∧ Below w.heap.size w w' := by
  go_enter Try.func62, Try.ntmps62
  go_wp2_with fail
  generalize hW : World.alloc (World.alloc w _) _ = W2
  have bW : Below w.heap.size w W2 := by rw [← hW]; exact ((Below.refl w.heap.size w).alloc (Nat.le_refl _) _).alloc (by simp) _
  have zW : W2.heap.size = w.heap.size + 2 := by rw [← hW]; simp
  have c0 : ∀ j, j < 8 → W2.cell? ⟨w.heap.size, j, none⟩ = some (.int .i64 0) := by
    rw [← hW]
    intro j hj
    rcases (by omega : j = 0 ∨ j = 1 ∨ j = 2 ∨ j = 3 ∨ j = 4 ∨ j = 5 ∨ j = 6 ∨ j = 7) with rfl | rfl | rfl | rfl | rfl | rfl | rfl | rfl <;> simp [go_sem]
  have c1 : ∀ j, j < 8 → W2.cell? ⟨w.heap.size + 1, j, none⟩ = some (.int .i64 0) := by
    rw [← hW]
    intro j hj
    rcases (by omega : j = 0 ∨ j = 1 ∨ j = 2 ∨ j = 3 ∨ j = 4 ∨ j = 5 ∨ j = 6 ∨ j = 7) with rfl | rfl | rfl | rfl | rfl | rfl | rfl | rfl <;> simp [go_sem]
  have f0 : ∀ o, W2.frozen? ⟨w.heap.size, o, none⟩ = false := by rw [← hW]; simp [go_sem]
  have f1 : ∀ o, W2.frozen? ⟨w.heap.size + 1, o, none⟩ = false := by rw [← hW]; simp [go_sem]
  clear hW
  go_loopw [3] (fun i wr => ∃ k : Nat, k ≤ 8 ∧ i = .int .i64 k ∧ Hid (Below w.heap.size w wr ∧ wr.heap.size = w.heap.size + 2 ∧ (∀ j, j < 8 → wr.cell? ⟨w.heap.size, j, none⟩ = some (.int .i64 0)) ∧ (∀ j, j < 8 → wr.cell? ⟨w.heap.size + 1, j, none⟩ = some (.int .i64 (if j < k then -1 else 0))) ∧ (∀ o, wr.frozen? ⟨w.heap.size, o, none⟩ = false) ∧ ∀ o, wr.frozen? ⟨w.heap.size + 1, o, none⟩ = false)) (fun i _ => 8 - (intOf i).toNat)
  case atStart => exact ⟨0, by omega, rfl, ⟨bW, zW, c0, fun j hj => by simpa using c1 j hj, f0, f1⟩⟩
  case round =>
    rename World => wr
    clear c0 c1 f0 f1 bW zW
    obtain ⟨k, hk, rfl, HS⟩ := hrel
    by_cases hlt : k < 8
    · have hx := HS.out.2.2.2.1 k hlt
      have hz := HS.out.2.2.2.2.2 k
      have hlt' : (k : Int) < 8 := by omega
      go_wp2
      go_roundw
      case rel =>
        refine ⟨k + 1, by omega, by go_num, ⟨HS.out.1.setCell (by simp) _, by simpa using HS.out.2.1, fun j hj => ?_, fun j hj => ?_, fun o => ?_, fun o => ?_⟩⟩
        · rw [World.cell?_setCell_other _ _ _ _ (by simp)]; exact HS.out.2.2.1 j hj
        · by_cases ej : j = k
          · subst ej
            refine (World.cell?_setCell_same _ _ _ hx).trans ?_
            simp
          · rw [World.cell?_setCell_other _ _ _ _ (by simp <;> omega), HS.out.2.2.2.1 j hj]
            by_cases e2 : j < k
            · rw [if_pos e2, if_pos (by omega)]
            · rw [if_neg e2, if_neg (by omega)]
        · rw [World.frozen?_setCell]; exact HS.out.2.2.2.2.1 o
        · rw [World.frozen?_setCell]; exact HS.out.2.2.2.2.2 o
      case measure => simp [intOf]; omega
    · obtain rfl : k = 8 := by omega
      have q0 := HS.out.2.2.2.1 0 (by omega)
      rw [if_pos (by omega)] at q0
      have r0 := HS.out.2.2.1 0 (by omega)
      have q1 := HS.out.2.2.2.1 1 (by omega)
      rw [if_pos (by omega)] at q1
      have r1 := HS.out.2.2.1 1 (by omega)
      have q2 := HS.out.2.2.2.1 2 (by omega)
      rw [if_pos (by omega)] at q2
      have r2 := HS.out.2.2.1 2 (by omega)
      have q3 := HS.out.2.2.2.1 3 (by omega)
      rw [if_pos (by omega)] at q3
      have r3 := HS.out.2.2.1 3 (by omega)
      have q4 := HS.out.2.2.2.1 4 (by omega)
      rw [if_pos (by omega)] at q4
      have r4 := HS.out.2.2.1 4 (by omega)
      have q5 := HS.out.2.2.2.1 5 (by omega)
      rw [if_pos (by omega)] at q5
      have r5 := HS.out.2.2.1 5 (by omega)
      have q6 := HS.out.2.2.2.1 6 (by omega)
      rw [if_pos (by omega)] at q6
      have r6 := HS.out.2.2.1 6 (by omega)
      have q7 := HS.out.2.2.2.1 7 (by omega)
      rw [if_pos (by omega)] at q7
      have r7 := HS.out.2.2.1 7 (by omega)
      have fr := HS.out.2.2.2.2.1
      have HB := hidIt HS.out.1
      go_wp2
      refine bodyPost_ret (v := .agg #[.int .i64 (-1), .int .i64 (-1), .int .i64 (-1), .int .i64 (-1), .int .i64 (-1), .int .i64 (-1), .int .i64 (-1), .int .i64 (-1)]) (by simp [results, Try.results62, go_sem, r0, r1, r2, r3, r4, r5, r6, r7]) rfl ⟨rfl, ?_⟩
      have HC : Below w.heap.size w wr := HB.out
      repeat (first | (with_reducible exact HC) | (with_reducible refine Below.setCell ?_ (by simp) _))

end Go.Proofs.Ytdcnakpkmgepgab

namespace Go.Proofs.Ytdcnakpkmgepgab
open Go.ChangeShapes Go.WideShapes Go.ChangeAt Go.RowKit
set_option linter.unusedVariables false

def pinAt (ps : List Int) (j : Nat) : Int := ps.getD j (-1)
theorem row8 (ps : List Int) (hn : ps.length ≤ 8) (j : Nat) (hj : j < 8) : (ints ps ++ (#[.int .i64 (-1), .int .i64 (-1), .int .i64 (-1), .int .i64 (-1), .int .i64 (-1), .int .i64 (-1), .int .i64 (-1), .int .i64 (-1)] : Array Value).toList.drop (ints ps).length)[j]? = some (.int .i64 (pinAt ps j)) := by
  have e : (#[.int .i64 (-1), .int .i64 (-1), .int .i64 (-1), .int .i64 (-1), .int .i64 (-1), .int .i64 (-1), .int .i64 (-1), .int .i64 (-1)] : Array Value).toList = List.replicate 8 (Value.int .i64 (-1)) := rfl
  rw [e, ints_len]
  by_cases h : j < ps.length
  · rw [List.getElem?_append_left (by simpa using h)]
    simp [pinAt, h]
  · rw [List.getElem?_append_right (by simp; omega), ints_len, List.drop_replicate, List.getElem?_replicate, if_pos (by omega)]
    have e2 : ps[j]? = none := List.getElem?_eq_none (by omega)
    simp [pinAt, e2]

set_option maxHeartbeats 1600000 in
set_option maxRecDepth 100000 in
theorem impl_pinsof (w : World) (a : Int) (p l : Value) (ps : List Int) (L : List (Int × Int)) (h8 : ps.length ≤ 8) (hA : AIn w p l ps L) :
    Calls Try.prog 60 #[.agg #[.int .i64 a, p, l]] w fun e w' => e = .returned (.agg #[.int .i64 (pinAt ps 0), .int .i64 (pinAt ps 1), .int .i64 (pinAt ps 2), .int .i64 (pinAt ps 3), .int .i64 (pinAt ps 4), .int .i64 (pinAt ps 5), .int .i64 (pinAt ps 6), .int .i64 (pinAt ps 7)]) ∧ Below w.heap.size w w' := by
  obtain ⟨i1, hi1, hy0, hy1, hy2⟩ := info_parts info3
  have H := hidIt hA
  obtain ⟨pa, pc, la, lc, rfl, rfl, -⟩ := hA.form
  clear hA
  go_enter Try.func60, Try.ntmps60
  go_wp2_with fail
  generalize hW : World.alloc (World.alloc w _) _ = W2
  have bW : Below w.heap.size w W2 := by rw [← hW]; exact ((Below.refl w.heap.size w).alloc (Nat.le_refl _) _).alloc (by simp) _
  have zW : W2.heap.size = w.heap.size + 2 := by rw [← hW]; simp
  have c1 : W2.cell? ⟨w.heap.size, 1, none⟩ = some (.slice pa ps.length pc) := by rw [← hW]; simp [go_sem]
  have d0 : ∀ j, j < 8 → W2.cell? ⟨w.heap.size + 1, j, none⟩ = some (.int .i64 0) := by
    rw [← hW]
    intro j hj
    rcases (by omega : j = 0 ∨ j = 1 ∨ j = 2 ∨ j = 3 ∨ j = 4 ∨ j = 5 ∨ j = 6 ∨ j = 7) with rfl | rfl | rfl | rfl | rfl | rfl | rfl | rfl <;> simp [go_sem]
  have f0 : ∀ o, W2.frozen? ⟨w.heap.size + 1, o, none⟩ = false := by rw [← hW]; simp [go_sem]
  clear hW
  refine (impl_nobody W2).mono ?_
  rintro e w3 ⟨rfl, b3⟩
  have z3 := b3.size
  have B3 := hidIt (bW.trans (b3.mono (by omega)))
  replace c1 := below_cell b3 (by omega) c1
  have d1 : ∀ j, j < 8 → w3.cell? ⟨w.heap.size + 1, j, none⟩ = some (.int .i64 0) := fun j hj => below_cell b3 (by omega) (d0 j hj)
  replace f0 : ∀ o, w3.frozen? ⟨w.heap.size + 1, o, none⟩ = false := fun o => below_frozen b3 (by omega) (f0 o)
  have D1 := hidIt d1
  clear b3 bW d0 d1
  have hlt0 : w.heap.size < w3.heap.size := by omega
  have BX : Hid (Below w.heap.size w (w3.alloc (.cells #[.int .i64 (-1), .int .i64 (-1), .int .i64 (-1), .int .i64 (-1), .int .i64 (-1), .int .i64 (-1), .int .i64 (-1), .int .i64 (-1)] 82)).drew) := ((B3.out.alloc (by omega) _).drew : Below w.heap.size w _)
  obtain ⟨w4, hr4, h4⟩ := copy_over_ex (P := Try.prog) (w3.alloc (.cells #[.int .i64 (-1), .int .i64 (-1), .int .i64 (-1), .int .i64 (-1), .int .i64 (-1), .int .i64 (-1), .int .i64 (-1), .int .i64 (-1)] 82)).drew 22 22 3 3 w3.heap.size 8 8 pa ps.length pc #[.int .i64 (-1), .int .i64 (-1), .int .i64 (-1), .int .i64 (-1), .int .i64 (-1), .int .i64 (-1), .int .i64 (-1), .int .i64 (-1)] 82 (ints ps) 1 Try.underlying22 (by rw [hi1]; simp [hy1]) (heap_alloc_new w3 _) h8 (by simp) (inrow_src (H.out.pins.below BX.out)) (by simpa using h8) (ints_one ps) (by omega)
  have G4 := hidIt h4.out.2
  have z4 := G4.out.size
  simp at z4
  have R4 := hidIt h4.out.1
  clear h4
  have K4 : Hid (∀ j, j < 8 → w4.cell? ⟨w3.heap.size, j, none⟩ = some (.int .i64 (pinAt ps j))) := fun j hj => by
    have := row8 ps h8 j hj
    simp only [World.cell?, R4.out]
    simpa using this
  have k0 := K4.out 0 (by omega)
  have k1 := K4.out 1 (by omega)
  have k2 := K4.out 2 (by omega)
  have k3 := K4.out 3 (by omega)
  have k4 := K4.out 4 (by omega)
  have k5 := K4.out 5 (by omega)
  have k6 := K4.out 6 (by omega)
  have k7 := K4.out 7 (by omega)
  have e0 : w4.cell? ⟨w.heap.size + 1, 0, none⟩ = some (.int .i64 0) := far G4.out (by simp; omega) (by omega) (below_cell ((Below.refl _ w3).alloc (Nat.le_refl _) _).drew (by omega) (D1.out 0 (by omega)))
  have e1 : w4.cell? ⟨w.heap.size + 1, 1, none⟩ = some (.int .i64 0) := far G4.out (by simp; omega) (by omega) (below_cell ((Below.refl _ w3).alloc (Nat.le_refl _) _).drew (by omega) (D1.out 1 (by omega)))
  have e2 : w4.cell? ⟨w.heap.size + 1, 2, none⟩ = some (.int .i64 0) := far G4.out (by simp; omega) (by omega) (below_cell ((Below.refl _ w3).alloc (Nat.le_refl _) _).drew (by omega) (D1.out 2 (by omega)))
  have e3 : w4.cell? ⟨w.heap.size + 1, 3, none⟩ = some (.int .i64 0) := far G4.out (by simp; omega) (by omega) (below_cell ((Below.refl _ w3).alloc (Nat.le_refl _) _).drew (by omega) (D1.out 3 (by omega)))
  have e4 : w4.cell? ⟨w.heap.size + 1, 4, none⟩ = some (.int .i64 0) := far G4.out (by simp; omega) (by omega) (below_cell ((Below.refl _ w3).alloc (Nat.le_refl _) _).drew (by omega) (D1.out 4 (by omega)))
  have e5 : w4.cell? ⟨w.heap.size + 1, 5, none⟩ = some (.int .i64 0) := far G4.out (by simp; omega) (by omega) (below_cell ((Below.refl _ w3).alloc (Nat.le_refl _) _).drew (by omega) (D1.out 5 (by omega)))
  have e6 : w4.cell? ⟨w.heap.size + 1, 6, none⟩ = some (.int .i64 0) := far G4.out (by simp; omega) (by omega) (below_cell ((Below.refl _ w3).alloc (Nat.le_refl _) _).drew (by omega) (D1.out 6 (by omega)))
  have e7 : w4.cell? ⟨w.heap.size + 1, 7, none⟩ = some (.int .i64 0) := far G4.out (by simp; omega) (by omega) (below_cell ((Below.refl _ w3).alloc (Nat.le_refl _) _).drew (by omega) (D1.out 7 (by omega)))
  have g0 : ∀ o, w4.frozen? ⟨w.heap.size + 1, o, none⟩ = false := fun o => far_frozen G4.out (by simp; omega) (by omega) (below_frozen ((Below.refl _ w3).alloc (Nat.le_refl _) _).drew (by omega) (f0 o))
  have B4 : Below w.heap.size w w4 := far_below BX.out G4.out (by omega)
  have HB4 := hidIt B4
  clear f0 B4
  go_wp2_with fail
  go_region
  all_goals
    go_wp2
    refine bodyPost_ret (v := .agg #[.int .i64 (pinAt ps 0), .int .i64 (pinAt ps 1), .int .i64 (pinAt ps 2), .int .i64 (pinAt ps 3), .int .i64 (pinAt ps 4), .int .i64 (pinAt ps 5), .int .i64 (pinAt ps 6), .int .i64 (pinAt ps 7)]) (by simp [results, Try.results60, go_sem, e0, e1, e2, e3, e4, e5, e6, e7]) rfl ⟨rfl, ?_⟩
    have HC : Below w.heap.size w w4 := HB4.out
    repeat (first | (with_reducible exact HC) | (with_reducible refine Below.setCell ?_ (by simp) _))

end Go.Proofs.Ytdcnakpkmgepgab

namespace Go.Proofs.Ytdcnakpkmgepgab
open Go.ChangeShapes Go.WideShapes Go.ChangeAt Go.RowKit
set_option linter.unusedVariables false

def cutAt (m x : Int) : Int := if m < x then -1 else x
def cutTo8 (m : Int) (x : Nat → Int) (k j : Nat) : Int := if j < k then cutAt m (x j) else x j

theorem idx8_0 (x : Nat → Int) (w : World) : (Instr.index 82 (.agg #[.int .i64 (x 0), .int .i64 (x 1), .int .i64 (x 2), .int .i64 (x 3), .int .i64 (x 4), .int .i64 (x 5), .int .i64 (x 6), .int .i64 (x 7)]) (.int .i64 0)).run Try.prog w = .ok (.int .i64 (x 0)) w := by kernel_rfl
theorem idx8_1 (x : Nat → Int) (w : World) : (Instr.index 82 (.agg #[.int .i64 (x 0), .int .i64 (x 1), .int .i64 (x 2), .int .i64 (x 3), .int .i64 (x 4), .int .i64 (x 5), .int .i64 (x 6), .int .i64 (x 7)]) (.int .i64 1)).run Try.prog w = .ok (.int .i64 (x 1)) w := by kernel_rfl
theorem idx8_2 (x : Nat → Int) (w : World) : (Instr.index 82 (.agg #[.int .i64 (x 0), .int .i64 (x 1), .int .i64 (x 2), .int .i64 (x 3), .int .i64 (x 4), .int .i64 (x 5), .int .i64 (x 6), .int .i64 (x 7)]) (.int .i64 2)).run Try.prog w = .ok (.int .i64 (x 2)) w := by kernel_rfl
theorem idx8_3 (x : Nat → Int) (w : World) : (Instr.index 82 (.agg #[.int .i64 (x 0), .int .i64 (x 1), .int .i64 (x 2), .int .i64 (x 3), .int .i64 (x 4), .int .i64 (x 5), .int .i64 (x 6), .int .i64 (x 7)]) (.int .i64 3)).run Try.prog w = .ok (.int .i64 (x 3)) w := by kernel_rfl
theorem idx8_4 (x : Nat → Int) (w : World) : (Instr.index 82 (.agg #[.int .i64 (x 0), .int .i64 (x 1), .int .i64 (x 2), .int .i64 (x 3), .int .i64 (x 4), .int .i64 (x 5), .int .i64 (x 6), .int .i64 (x 7)]) (.int .i64 4)).run Try.prog w = .ok (.int .i64 (x 4)) w := by kernel_rfl
theorem idx8_5 (x : Nat → Int) (w : World) : (Instr.index 82 (.agg #[.int .i64 (x 0), .int .i64 (x 1), .int .i64 (x 2), .int .i64 (x 3), .int .i64 (x 4), .int .i64 (x 5), .int .i64 (x 6), .int .i64 (x 7)]) (.int .i64 5)).run Try.prog w = .ok (.int .i64 (x 5)) w := by kernel_rfl
theorem idx8_6 (x : Nat → Int) (w : World) : (Instr.index 82 (.agg #[.int .i64 (x 0), .int .i64 (x 1), .int .i64 (x 2), .int .i64 (x 3), .int .i64 (x 4), .int .i64 (x 5), .int .i64 (x 6), .int .i64 (x 7)]) (.int .i64 6)).run Try.prog w = .ok (.int .i64 (x 6)) w := by kernel_rfl
theorem idx8_7 (x : Nat → Int) (w : World) : (Instr.index 82 (.agg #[.int .i64 (x 0), .int .i64 (x 1), .int .i64 (x 2), .int .i64 (x 3), .int .i64 (x 4), .int .i64 (x 5), .int .i64 (x 6), .int .i64 (x 7)]) (.int .i64 7)).run Try.prog w = .ok (.int .i64 (x 7)) w := by kernel_rfl

set_option maxHeartbeats 3200000 in
set_option maxRecDepth 100000 in
theorem impl_upto (w : World) (x : Nat → Int) (at' : Int) :
    Calls Try.prog 61 #[.agg #[.int .i64 (x 0), .int .i64 (x 1), .int .i64 (x 2), .int .i64 (x 3), .int .i64 (x 4), .int .i64 (x 5), .int .i64 (x 6), .int .i64 (x 7)], .int .i64 at'] w fun e w' => e = .returned (.agg #[.int .i64 (cutAt at' (x 0)), .int .i64 (cutAt at' (x 1)), .int .i64 (cutAt at' (x 2)), .int .i64 (cutAt at' (x 3)), .int .i64 (cutAt at' (x 4)), .int .i64 (cutAt at' (x 5)), .int .i64 (cutAt at' (x 6)), .int .i64 (cutAt at' (x 7))]) ∧ Below w.heap.size w w' := by
  go_enter Try.func61, Try.ntmps61
  go_wp2_with fail
  generalize hW : World.alloc (World.alloc w _) _ = W2
  have bW : Below w.heap.size w W2 := by rw [← hW]; exact ((Below.refl w.heap.size w).alloc (Nat.le_refl _) _).alloc (by simp) _
  have zW : W2.heap.size = w.heap.size + 2 := by rw [← hW]; simp
  have c0 : ∀ j, j < 8 → W2.cell? ⟨w.heap.size, j, none⟩ = some (.int .i64 (x j)) := by
    rw [← hW]
    intro j hj
    rcases (by omega : j = 0 ∨ j = 1 ∨ j = 2 ∨ j = 3 ∨ j = 4 ∨ j = 5 ∨ j = 6 ∨ j = 7) with rfl | rfl | rfl | rfl | rfl | rfl | rfl | rfl <;> simp [go_sem]
  have c1 : ∀ j, j < 8 → W2.cell? ⟨w.heap.size + 1, j, none⟩ = some (.int .i64 0) := by
    rw [← hW]
    intro j hj
    rcases (by omega : j = 0 ∨ j = 1 ∨ j = 2 ∨ j = 3 ∨ j = 4 ∨ j = 5 ∨ j = 6 ∨ j = 7) with rfl | rfl | rfl | rfl | rfl | rfl | rfl | rfl <;> simp [go_sem]
  have f0 : ∀ o, W2.frozen? ⟨w.heap.size, o, none⟩ = false := by rw [← hW]; simp [go_sem]
  have f1 : ∀ o, W2.frozen? ⟨w.heap.size + 1, o, none⟩ = false := by rw [← hW]; simp [go_sem]
  clear hW
  go_loopw [8] (fun i wr => ∃ k : Nat, k ≤ 8 ∧ i = .int .i64 k ∧ Hid (Below w.heap.size w wr ∧ wr.heap.size = w.heap.size + 2 ∧ (∀ j, j < 8 → wr.cell? ⟨w.heap.size, j, none⟩ = some (.int .i64 (cutTo8 at' x k j))) ∧ (∀ j, j < 8 → wr.cell? ⟨w.heap.size + 1, j, none⟩ = some (.int .i64 0)) ∧ (∀ o, wr.frozen? ⟨w.heap.size, o, none⟩ = false) ∧ ∀ o, wr.frozen? ⟨w.heap.size + 1, o, none⟩ = false)) (fun i _ => 8 - (intOf i).toNat)
  case atStart => exact ⟨0, by omega, rfl, ⟨bW, zW, fun j hj => by simpa [cutTo8] using c0 j hj, c1, f0, f1⟩⟩
  case round =>
    rename World => wr
    clear c0 c1 f0 f1 bW zW
    obtain ⟨k, hk, rfl, HS⟩ := hrel
    by_cases hlt : k < 8
    · have KEEP : Hid (¬ at' < x k → ∀ j, j < 8 → wr.cell? ⟨w.heap.size, j, none⟩ = some (.int .i64 (cutTo8 at' x (k + 1) j))) := fun hn j hj => by
        rw [HS.out.2.2.1 j hj]
        unfold cutTo8
        by_cases ej : j = k
        · subst ej; simp [cutAt, hn]
        · by_cases e2 : j < k
          · rw [if_pos e2, if_pos (by omega)]
          · rw [if_neg e2, if_neg (by omega)]
      have PUT : Hid (at' < x k → ∀ j, j < 8 → (wr.setCell ⟨w.heap.size, k, none⟩ (.int .i64 (-1))).cell? ⟨w.heap.size, j, none⟩ = some (.int .i64 (cutTo8 at' x (k + 1) j))) := fun hn j hj => by
        by_cases ej : j = k
        · subst ej
          refine (World.cell?_setCell_same _ _ _ (HS.out.2.2.1 j hj)).trans ?_
          simp [cutTo8, cutAt, hn]
        · rw [World.cell?_setCell_other _ _ _ _ (by simp <;> omega), HS.out.2.2.1 j hj]
          unfold cutTo8
          by_cases e2 : j < k
          · rw [if_pos e2, if_pos (by omega)]
          · rw [if_neg e2, if_neg (by omega)]
      have hx := HS.out.2.2.1 k hlt
      have hz := HS.out.2.2.2.2.1 k
      generalize cutTo8 at' x k k = cur at hx
      have MEAS : 8 - (k + 1) < 8 - k := by omega
      rcases (by omega : k = 0 ∨ k = 1 ∨ k = 2 ∨ k = 3 ∨ k = 4 ∨ k = 5 ∨ k = 6 ∨ k = 7) with rfl | rfl | rfl | rfl | rfl | rfl | rfl | rfl
      · have hX := idx8_0 x
        by_cases hn : at' < x 0
        · go_wp2
          go_roundw
          case rel => exact ⟨1, by omega, by go_num, ⟨HS.out.1.setCell (by simp) _, by simpa using HS.out.2.1, PUT.out hn, fun j hj => by rw [World.cell?_setCell_other _ _ _ _ (by simp)]; exact HS.out.2.2.2.1 j hj, fun o => by rw [World.frozen?_setCell]; exact HS.out.2.2.2.2.1 o, fun o => by rw [World.frozen?_setCell]; exact HS.out.2.2.2.2.2 o⟩⟩
          case measure => simp [intOf]
        · go_wp2
          go_roundw
          case rel => exact ⟨1, by omega, by go_num, ⟨HS.out.1, HS.out.2.1, KEEP.out hn, HS.out.2.2.2.1, HS.out.2.2.2.2.1, HS.out.2.2.2.2.2⟩⟩
          case measure => simp [intOf]
      · have hX := idx8_1 x
        by_cases hn : at' < x 1
        · go_wp2
          go_roundw
          case rel => exact ⟨2, by omega, by go_num, ⟨HS.out.1.setCell (by simp) _, by simpa using HS.out.2.1, PUT.out hn, fun j hj => by rw [World.cell?_setCell_other _ _ _ _ (by simp)]; exact HS.out.2.2.2.1 j hj, fun o => by rw [World.frozen?_setCell]; exact HS.out.2.2.2.2.1 o, fun o => by rw [World.frozen?_setCell]; exact HS.out.2.2.2.2.2 o⟩⟩
          case measure => simp [intOf]
        · go_wp2
          go_roundw
          case rel => exact ⟨2, by omega, by go_num, ⟨HS.out.1, HS.out.2.1, KEEP.out hn, HS.out.2.2.2.1, HS.out.2.2.2.2.1, HS.out.2.2.2.2.2⟩⟩
          case measure => simp [intOf]
      · have hX := idx8_2 x
        by_cases hn : at' < x 2
        · go_wp2
          go_roundw
          case rel => exact ⟨3, by omega, by go_num, ⟨HS.out.1.setCell (by simp) _, by simpa using HS.out.2.1, PUT.out hn, fun j hj => by rw [World.cell?_setCell_other _ _ _ _ (by simp)]; exact HS.out.2.2.2.1 j hj, fun o => by rw [World.frozen?_setCell]; exact HS.out.2.2.2.2.1 o, fun o => by rw [World.frozen?_setCell]; exact HS.out.2.2.2.2.2 o⟩⟩
          case measure => simp [intOf]
        · go_wp2
          go_roundw
          case rel => exact ⟨3, by omega, by go_num, ⟨HS.out.1, HS.out.2.1, KEEP.out hn, HS.out.2.2.2.1, HS.out.2.2.2.2.1, HS.out.2.2.2.2.2⟩⟩
          case measure => simp [intOf]
      · have hX := idx8_3 x
        by_cases hn : at' < x 3
        · go_wp2
          go_roundw
          case rel => exact ⟨4, by omega, by go_num, ⟨HS.out.1.setCell (by simp) _, by simpa using HS.out.2.1, PUT.out hn, fun j hj => by rw [World.cell?_setCell_other _ _ _ _ (by simp)]; exact HS.out.2.2.2.1 j hj, fun o => by rw [World.frozen?_setCell]; exact HS.out.2.2.2.2.1 o, fun o => by rw [World.frozen?_setCell]; exact HS.out.2.2.2.2.2 o⟩⟩
          case measure => simp [intOf]
        · go_wp2
          go_roundw
          case rel => exact ⟨4, by omega, by go_num, ⟨HS.out.1, HS.out.2.1, KEEP.out hn, HS.out.2.2.2.1, HS.out.2.2.2.2.1, HS.out.2.2.2.2.2⟩⟩
          case measure => simp [intOf]
      · have hX := idx8_4 x
        by_cases hn : at' < x 4
        · go_wp2
          go_roundw
          case rel => exact ⟨5, by omega, by go_num, ⟨HS.out.1.setCell (by simp) _, by simpa using HS.out.2.1, PUT.out hn, fun j hj => by rw [World.cell?_setCell_other _ _ _ _ (by simp)]; exact HS.out.2.2.2.1 j hj, fun o => by rw [World.frozen?_setCell]; exact HS.out.2.2.2.2.1 o, fun o => by rw [World.frozen?_setCell]; exact HS.out.2.2.2.2.2 o⟩⟩
          case measure => simp [intOf]
        · go_wp2
          go_roundw
          case rel => exact ⟨5, by omega, by go_num, ⟨HS.out.1, HS.out.2.1, KEEP.out hn, HS.out.2.2.2.1, HS.out.2.2.2.2.1, HS.out.2.2.2.2.2⟩⟩
          case measure => simp [intOf]
      · have hX := idx8_5 x
        by_cases hn : at' < x 5
        · go_wp2
          go_roundw
          case rel => exact ⟨6, by omega, by go_num, ⟨HS.out.1.setCell (by simp) _, by simpa using HS.out.2.1, PUT.out hn, fun j hj => by rw [World.cell?_setCell_other _ _ _ _ (by simp)]; exact HS.out.2.2.2.1 j hj, fun o => by rw [World.frozen?_setCell]; exact HS.out.2.2.2.2.1 o, fun o => by rw [World.frozen?_setCell]; exact HS.out.2.2.2.2.2 o⟩⟩
          case measure => simp [intOf]
        · go_wp2
          go_roundw
          case rel => exact ⟨6, by omega, by go_num, ⟨HS.out.1, HS.out.2.1, KEEP.out hn, HS.out.2.2.2.1, HS.out.2.2.2.2.1, HS.out.2.2.2.2.2⟩⟩
          case measure => simp [intOf]
      · have hX := idx8_6 x
        by_cases hn : at' < x 6
        · go_wp2
          go_roundw
          case rel => exact ⟨7, by omega, by go_num, ⟨HS.out.1.setCell (by simp) _, by simpa using HS.out.2.1, PUT.out hn, fun j hj => by rw [World.cell?_setCell_other _ _ _ _ (by simp)]; exact HS.out.2.2.2.1 j hj, fun o => by rw [World.frozen?_setCell]; exact HS.out.2.2.2.2.1 o, fun o => by rw [World.frozen?_setCell]; exact HS.out.2.2.2.2.2 o⟩⟩
          case measure => simp [intOf]
        · go_wp2
          go_roundw
          case rel => exact ⟨7, by omega, by go_num, ⟨HS.out.1, HS.out.2.1, KEEP.out hn, HS.out.2.2.2.1, HS.out.2.2.2.2.1, HS.out.2.2.2.2.2⟩⟩
          case measure => simp [intOf]
      · have hX := idx8_7 x
        by_cases hn : at' < x 7
        · go_wp2
          go_roundw
          case rel => exact ⟨8, by omega, by go_num, ⟨HS.out.1.setCell (by simp) _, by simpa using HS.out.2.1, PUT.out hn, fun j hj => by rw [World.cell?_setCell_other _ _ _ _ (by simp)]; exact HS.out.2.2.2.1 j hj, fun o => by rw [World.frozen?_setCell]; exact HS.out.2.2.2.2.1 o, fun o => by rw [World.frozen?_setCell]; exact HS.out.2.2.2.2.2 o⟩⟩
          case measure => simp [intOf]
        · go_wp2
          go_roundw
          case rel => exact ⟨8, by omega, by go_num, ⟨HS.out.1, HS.out.2.1, KEEP.out hn, HS.out.2.2.2.1, HS.out.2.2.2.2.1, HS.out.2.2.2.2.2⟩⟩
          case measure => simp [intOf]
    · obtain rfl : k = 8 := by omega
      have q0 : wr.cell? ⟨w.heap.size, 0, none⟩ = some (.int .i64 (cutAt at' (x 0))) := by rw [HS.out.2.2.1 0 (by omega)]; simp [cutTo8]
      have r0 := HS.out.2.2.2.1 0 (by omega)
      have q1 : wr.cell? ⟨w.heap.size, 1, none⟩ = some (.int .i64 (cutAt at' (x 1))) := by rw [HS.out.2.2.1 1 (by omega)]; simp [cutTo8]
      have r1 := HS.out.2.2.2.1 1 (by omega)
      have q2 : wr.cell? ⟨w.heap.size, 2, none⟩ = some (.int .i64 (cutAt at' (x 2))) := by rw [HS.out.2.2.1 2 (by omega)]; simp [cutTo8]
      have r2 := HS.out.2.2.2.1 2 (by omega)
      have q3 : wr.cell? ⟨w.heap.size, 3, none⟩ = some (.int .i64 (cutAt at' (x 3))) := by rw [HS.out.2.2.1 3 (by omega)]; simp [cutTo8]
      have r3 := HS.out.2.2.2.1 3 (by omega)
      have q4 : wr.cell? ⟨w.heap.size, 4, none⟩ = some (.int .i64 (cutAt at' (x 4))) := by rw [HS.out.2.2.1 4 (by omega)]; simp [cutTo8]
      have r4 := HS.out.2.2.2.1 4 (by omega)
      have q5 : wr.cell? ⟨w.heap.size, 5, none⟩ = some (.int .i64 (cutAt at' (x 5))) := by rw [HS.out.2.2.1 5 (by omega)]; simp [cutTo8]
      have r5 := HS.out.2.2.2.1 5 (by omega)
      have q6 : wr.cell? ⟨w.heap.size, 6, none⟩ = some (.int .i64 (cutAt at' (x 6))) := by rw [HS.out.2.2.1 6 (by omega)]; simp [cutTo8]
      have r6 := HS.out.2.2.2.1 6 (by omega)
      have q7 : wr.cell? ⟨w.heap.size, 7, none⟩ = some (.int .i64 (cutAt at' (x 7))) := by rw [HS.out.2.2.1 7 (by omega)]; simp [cutTo8]
      have r7 := HS.out.2.2.2.1 7 (by omega)
      have fr := HS.out.2.2.2.2.2
      have HB := hidIt HS.out.1
      go_wp2
      refine bodyPost_ret (v := .agg #[.int .i64 (cutAt at' (x 0)), .int .i64 (cutAt at' (x 1)), .int .i64 (cutAt at' (x 2)), .int .i64 (cutAt at' (x 3)), .int .i64 (cutAt at' (x 4)), .int .i64 (cutAt at' (x 5)), .int .i64 (cutAt at' (x 6)), .int .i64 (cutAt at' (x 7))]) (by simp [results, Try.results61, go_sem, r0, r1, r2, r3, r4, r5, r6, r7]) rfl ⟨rfl, ?_⟩
      have HC : Below w.heap.size w wr := HB.out
      repeat (first | (with_reducible exact HC) | (with_reducible refine Below.setCell ?_ (by simp) _))

end Go.Proofs.Ytdcnakpkmgepgab

namespace Go.Proofs.Ytdcnakpkmgepgab
open Go.ChangeShapes Go.WideShapes Go.ChangeAt Go.RowKit
set_option linter.unusedVariables false

theorem if_and {α : Type} (b c : Bool) (w : World) : (if (!b) = true then Result.ok false w else Result.ok c w : Result Bool) = .ok (b && c) w := by cases b <;> rfl
def all8 (y : Nat → Int) : Bool := (y 0 == -1) && ((y 1 == -1) && ((y 2 == -1) && ((y 3 == -1) && ((y 4 == -1) && ((y 5 == -1) && ((y 6 == -1) && ((y 7 == -1) && true)))))))
theorem part8_0 (y : Nat → Int) (w : World) : (part 3 #[.int .i64 (y 0), .int .i64 (y 1), .int .i64 (y 2), .int .i64 (y 3), .int .i64 (y 4), .int .i64 (y 5), .int .i64 (y 6), .int .i64 (y 7)] (0 * 1)).run Try.prog w = .ok (.int .i64 (y 0)) w := by kernel_rfl
theorem none8_0 (w : World) : (part 3 #[.int .i64 (-1), .int .i64 (-1), .int .i64 (-1), .int .i64 (-1), .int .i64 (-1), .int .i64 (-1), .int .i64 (-1), .int .i64 (-1)] (0 * 1)).run Try.prog w = .ok (.int .i64 (-1)) w := by kernel_rfl
theorem part8_1 (y : Nat → Int) (w : World) : (part 3 #[.int .i64 (y 0), .int .i64 (y 1), .int .i64 (y 2), .int .i64 (y 3), .int .i64 (y 4), .int .i64 (y 5), .int .i64 (y 6), .int .i64 (y 7)] (1 * 1)).run Try.prog w = .ok (.int .i64 (y 1)) w := by kernel_rfl
theorem none8_1 (w : World) : (part 3 #[.int .i64 (-1), .int .i64 (-1), .int .i64 (-1), .int .i64 (-1), .int .i64 (-1), .int .i64 (-1), .int .i64 (-1), .int .i64 (-1)] (1 * 1)).run Try.prog w = .ok (.int .i64 (-1)) w := by kernel_rfl
theorem part8_2 (y : Nat → Int) (w : World) : (part 3 #[.int .i64 (y 0), .int .i64 (y 1), .int .i64 (y 2), .int .i64 (y 3), .int .i64 (y 4), .int .i64 (y 5), .int .i64 (y 6), .int .i64 (y 7)] (2 * 1)).run Try.prog w = .ok (.int .i64 (y 2)) w := by kernel_rfl
theorem none8_2 (w : World) : (part 3 #[.int .i64 (-1), .int .i64 (-1), .int .i64 (-1), .int .i64 (-1), .int .i64 (-1), .int .i64 (-1), .int .i64 (-1), .int .i64 (-1)] (2 * 1)).run Try.prog w = .ok (.int .i64 (-1)) w := by kernel_rfl
theorem part8_3 (y : Nat → Int) (w : World) : (part 3 #[.int .i64 (y 0), .int .i64 (y 1), .int .i64 (y 2), .int .i64 (y 3), .int .i64 (y 4), .int .i64 (y 5), .int .i64 (y 6), .int .i64 (y 7)] (3 * 1)).run Try.prog w = .ok (.int .i64 (y 3)) w := by kernel_rfl
theorem none8_3 (w : World) : (part 3 #[.int .i64 (-1), .int .i64 (-1), .int .i64 (-1), .int .i64 (-1), .int .i64 (-1), .int .i64 (-1), .int .i64 (-1), .int .i64 (-1)] (3 * 1)).run Try.prog w = .ok (.int .i64 (-1)) w := by kernel_rfl
theorem part8_4 (y : Nat → Int) (w : World) : (part 3 #[.int .i64 (y 0), .int .i64 (y 1), .int .i64 (y 2), .int .i64 (y 3), .int .i64 (y 4), .int .i64 (y 5), .int .i64 (y 6), .int .i64 (y 7)] (4 * 1)).run Try.prog w = .ok (.int .i64 (y 4)) w := by kernel_rfl
theorem none8_4 (w : World) : (part 3 #[.int .i64 (-1), .int .i64 (-1), .int .i64 (-1), .int .i64 (-1), .int .i64 (-1), .int .i64 (-1), .int .i64 (-1), .int .i64 (-1)] (4 * 1)).run Try.prog w = .ok (.int .i64 (-1)) w := by kernel_rfl
theorem part8_5 (y : Nat → Int) (w : World) : (part 3 #[.int .i64 (y 0), .int .i64 (y 1), .int .i64 (y 2), .int .i64 (y 3), .int .i64 (y 4), .int .i64 (y 5), .int .i64 (y 6), .int .i64 (y 7)] (5 * 1)).run Try.prog w = .ok (.int .i64 (y 5)) w := by kernel_rfl
theorem none8_5 (w : World) : (part 3 #[.int .i64 (-1), .int .i64 (-1), .int .i64 (-1), .int .i64 (-1), .int .i64 (-1), .int .i64 (-1), .int .i64 (-1), .int .i64 (-1)] (5 * 1)).run Try.prog w = .ok (.int .i64 (-1)) w := by kernel_rfl
theorem part8_6 (y : Nat → Int) (w : World) : (part 3 #[.int .i64 (y 0), .int .i64 (y 1), .int .i64 (y 2), .int .i64 (y 3), .int .i64 (y 4), .int .i64 (y 5), .int .i64 (y 6), .int .i64 (y 7)] (6 * 1)).run Try.prog w = .ok (.int .i64 (y 6)) w := by kernel_rfl
theorem none8_6 (w : World) : (part 3 #[.int .i64 (-1), .int .i64 (-1), .int .i64 (-1), .int .i64 (-1), .int .i64 (-1), .int .i64 (-1), .int .i64 (-1), .int .i64 (-1)] (6 * 1)).run Try.prog w = .ok (.int .i64 (-1)) w := by kernel_rfl
theorem part8_7 (y : Nat → Int) (w : World) : (part 3 #[.int .i64 (y 0), .int .i64 (y 1), .int .i64 (y 2), .int .i64 (y 3), .int .i64 (y 4), .int .i64 (y 5), .int .i64 (y 6), .int .i64 (y 7)] (7 * 1)).run Try.prog w = .ok (.int .i64 (y 7)) w := by kernel_rfl
theorem none8_7 (w : World) : (part 3 #[.int .i64 (-1), .int .i64 (-1), .int .i64 (-1), .int .i64 (-1), .int .i64 (-1), .int .i64 (-1), .int .i64 (-1), .int .i64 (-1)] (7 * 1)).run Try.prog w = .ok (.int .i64 (-1)) w := by kernel_rfl
theorem eq_int1 (a b : Int) (w : World) : (Op.equalIn 9999 3 (.int .i64 a) (.int .i64 b)).run Try.prog w = .ok (a == b) w := by
  first | exact run_equalIn_int w 9998 _ _ _ _ _ Try.underlying3 | exact run_equalIn_int 9998 _ _ _ _ _ Try.underlying3
theorem equal8 (y : Nat → Int) (w : World) : (Op.equalIn 10000 82 (.agg #[.int .i64 (y 0), .int .i64 (y 1), .int .i64 (y 2), .int .i64 (y 3), .int .i64 (y 4), .int .i64 (y 5), .int .i64 (y 6), .int .i64 (y 7)]) (.agg #[.int .i64 (-1), .int .i64 (-1), .int .i64 (-1), .int .i64 (-1), .int .i64 (-1), .int .i64 (-1), .int .i64 (-1), .int .i64 (-1)])).run Try.prog w = .ok (all8 y) w := by
  obtain ⟨i1, hi1, -, -, -⟩ := info_parts info3
  rw [run_equalIn_array w 9999 _ _ Try.underlying82 hi1, cells3]
  have hr : List.range 8 = [0, 1, 2, 3, 4, 5, 6, 7] := rfl
  rw [hr]
  simp only [Op.eqItems, Sem.run_bind, Result.andThen_ok, part8_0, none8_0, part8_1, none8_1, part8_2, none8_2, part8_3, none8_3, part8_4, none8_4, part8_5, none8_5, part8_6, none8_6, part8_7, none8_7, eq_int1, Sem.run_ite, Sem.run_pure]
  unfold all8
  generalize (y 0 == -1) = b0
  generalize (y 1 == -1) = b1
  generalize (y 2 == -1) = b2
  generalize (y 3 == -1) = b3
  generalize (y 4 == -1) = b4
  generalize (y 5 == -1) = b5
  generalize (y 6 == -1) = b6
  generalize (y 7 == -1) = b7
  cases b0 <;> (try rfl) <;> cases b1 <;> (try rfl) <;> cases b2 <;> (try rfl) <;> cases b3 <;> (try rfl) <;> cases b4 <;> (try rfl) <;> cases b5 <;> (try rfl) <;> cases b6 <;> (try rfl) <;> cases b7 <;> rfl

end Go.Proofs.Ytdcnakpkmgepgab

namespace Go.Proofs.Ytdcnakpkmgepgab
open Go.ChangeShapes Go.WideShapes Go.ChangeAt Go.RowKit
set_option linter.unusedVariables false

def pinnedB (ps : List Int) (m : Int) : Bool := ps.any (fun p => decide (p ≠ -1) && decide (p ≤ m))
theorem cut_one (m x : Int) : (cutAt m x = -1) ↔ ¬ (x ≠ -1 ∧ x ≤ m) := by unfold cutAt; split <;> omega
theorem pinned_none (ps : List Int) (m : Int) (h8 : ps.length ≤ 8) (h : ∀ j, j < 8 → cutAt m (pinAt ps j) = -1) : pinnedB ps m = false := by
  rw [pinnedB, List.any_eq_false]
  intro p hp
  obtain ⟨j, hj, rfl⟩ := List.mem_iff_getElem.1 hp
  have := (cut_one m (pinAt ps j)).1 (h j (by omega))
  have e : pinAt ps j = ps[j] := by simp [pinAt, hj]
  rw [e] at this
  simp only [Bool.and_eq_true, decide_eq_true_eq]
  exact this
theorem pinned_some (ps : List Int) (m : Int) (j : Nat) (h : cutAt m (pinAt ps j) ≠ -1) : pinnedB ps m = true := by
  have h1 : pinAt ps j ≠ -1 ∧ pinAt ps j ≤ m := by
    by_cases hc : pinAt ps j ≠ -1 ∧ pinAt ps j ≤ m
    · exact hc
    · exact absurd ((cut_one m _).2 hc) h
  by_cases hj : j < ps.length
  · have e : pinAt ps j = ps[j] := by simp [pinAt, hj]
    rw [e] at h1
    rw [pinnedB, List.any_eq_true]
    exact ⟨ps[j], List.getElem_mem hj, by simp [h1.1, h1.2]⟩
  · exfalso
    apply h1.1
    simp [pinAt, List.getElem?_eq_none (show ps.length ≤ j by omega)]

theorem all8_iff (y : Nat → Int) : all8 y = true ↔ ∀ j, j < 8 → y j = -1 := by
  constructor
  · intro h j hj
    simp only [all8, Bool.and_eq_true, beq_iff_eq] at h
    obtain ⟨h0, h1, h2, h3, h4, h5, h6, h7, -⟩ := h
    rcases (by omega : j = 0 ∨ j = 1 ∨ j = 2 ∨ j = 3 ∨ j = 4 ∨ j = 5 ∨ j = 6 ∨ j = 7) with rfl | rfl | rfl | rfl | rfl | rfl | rfl | rfl <;> assumption
  · intro h
    simp [all8, h 0, h 1, h 2, h 3, h 4, h 5, h 6, h 7]
theorem all8_pinned (ps : List Int) (m : Int) (h8 : ps.length ≤ 8) : all8 (fun j => cutAt m (pinAt ps j)) = !pinnedB ps m := by
  by_cases hc : ∀ j, j < 8 → cutAt m (pinAt ps j) = -1
  · rw [(all8_iff _).2 hc, pinned_none ps m h8 hc]; rfl
  · have h1 : all8 (fun j => cutAt m (pinAt ps j)) = false := by
      cases h : all8 (fun j => cutAt m (pinAt ps j)) with
      | false => rfl
      | true => exact absurd ((all8_iff _).1 h) hc
    simp only [Classical.not_forall] at hc
    obtain ⟨j, hj, hn⟩ := hc
    rw [h1, pinned_some ps m j hn]; rfl

set_option maxHeartbeats 800000 in
set_option maxRecDepth 100000 in
theorem impl_pinned (w : World) (a : Int) (p l : Value) (ps : List Int) (L : List (Int × Int)) (m : Int) (h8 : ps.length ≤ 8) (hA : AIn w p l ps L) :
    Calls Try.prog 52 #[.agg #[.int .i64 a, p, l], .int .i64 m] w fun e w' => e = .returned (.bool (pinnedB ps m)) ∧ Below w.heap.size w w' := by
  have H := hidIt (hA.below ((Below.refl w.heap.size w).alloc (Nat.le_refl _) (.cells #[.int .i64 a, p, l] 31)))
  obtain ⟨pa, pc, la, lc, rfl, rfl, -⟩ := hA.form
  clear hA
  have hE : ∀ W, (Op.equalIn 10000 82 (.agg #[.int .i64 (cutAt m (pinAt ps 0)), .int .i64 (cutAt m (pinAt ps 1)), .int .i64 (cutAt m (pinAt ps 2)), .int .i64 (cutAt m (pinAt ps 3)), .int .i64 (cutAt m (pinAt ps 4)), .int .i64 (cutAt m (pinAt ps 5)), .int .i64 (cutAt m (pinAt ps 6)), .int .i64 (cutAt m (pinAt ps 7))]) (.agg #[.int .i64 (-1), .int .i64 (-1), .int .i64 (-1), .int .i64 (-1), .int .i64 (-1), .int .i64 (-1), .int .i64 (-1), .int .i64 (-1)])).run Try.prog W = .ok (!pinnedB ps m) W := fun W => by
    rw [← all8_pinned ps m h8]
    exact equal8 (fun j => cutAt m (pinAt ps j)) W
  go_enter Try.func52, Try.ntmps52
  go_wp2_with (first | (go_at_call 60; refine (impl_pinsof _ a _ _ ps L h8 H.out).mono ?_; rintro e w3 ⟨rfl, b3⟩) | (go_at_call 61; refine (impl_upto _ (pinAt ps) m).mono ?_; rintro e w4 ⟨rfl, b4⟩) | (go_at_call 62; refine (impl_nobody _).mono ?_; rintro e w5 ⟨rfl, b5⟩))
  go_ret
  exact ⟨rfl, below_step (below_step (below_step ((Below.refl w.heap.size w).alloc (Nat.le_refl _) _) b3) b4) b5⟩

end Go.Proofs.Ytdcnakpkmgepgab

namespace Go.Proofs.Ytdcnakpkmgepgab
open Go.ChangeShapes Go.WideShapes Go.ChangeAt Go.RowKit
set_option linter.unusedVariables false

def advW (a : Int) (ps : List Int) : Bool := decide (a ≠ 4294967295) && ps.all (fun p => decide (p = -1) || decide (p = a))
def advA (a : Int) (ps : List Int) : Int := if advW a ps = true then a + 1 else a
def advOk (a : Int) (ps : List Int) (L : List (Int × Int)) : Bool := okB a ps L && advW a ps
theorem advW_max {a : Int} {ps : List Int} (h : a = 4294967295) : advW a ps = false := by simp [advW, h]
theorem advW_pin {a : Int} {ps : List Int} {k : Nat} (hk : k < ps.length) (h1 : ps[k] ≠ -1) (h2 : ps[k] ≠ a) : advW a ps = false := by
  have : ps.all (fun p => decide (p = -1) || decide (p = a)) = false := all_stop hk (by simp [h1, h2])
  rw [advW, this, Bool.and_false]
theorem advW_yes {a : Int} {ps : List Int} (h : a ≠ 4294967295) (hp : ∀ j (hj : j < ps.length), ps[j] = -1 ∨ ps[j] = a) : advW a ps = true := by
  have : ps.all (fun p => decide (p = -1) || decide (p = a)) = true := all_full (fun j hj => by simpa using hp j hj)
  rw [advW, this, decide_eq_true h]; rfl
theorem advW_pinned {a : Int} {ps : List Int} {L : List (Int × Int)} (hB : okB a ps L = true) (h : a ≠ 4294967295) : advW a ps = !pinnedB ps (a - 1) := by
  obtain ⟨-, -, -, -, -, hp, -⟩ := okB_len hB
  cases hq : pinnedB ps (a - 1) with
  | false =>
    rw [pinnedB, List.any_eq_false] at hq
    refine advW_yes h (fun j hj => ?_)
    have h1 := hq ps[j] (List.getElem_mem hj)
    have h2 := hp ps[j] (List.getElem_mem hj)
    simp at h1
    omega
  | true =>
    rw [pinnedB, List.any_eq_true] at hq
    obtain ⟨p, hm, hq⟩ := hq
    obtain ⟨j, hj, rfl⟩ := List.mem_iff_getElem.1 hm
    simp at hq
    exact advW_pin hj hq.1 (by omega)

set_option maxHeartbeats 800000 in
set_option maxRecDepth 100000 in
theorem spec_advance_no (w : World) (a : Int) (p l : Value) (ps : List Int) (L : List (Int × Int)) (hA : AIn w p l ps L) (hB : okB a ps L = false) :
    Calls Try.prog 32 #[.agg #[.int .i64 a, p, l]] w fun e w' => e = .returned (.tuple #[.agg #[.int .i64 0, .slice none 0 0, .slice none 0 0], .bool false]) ∧ Below w.heap.size w w' := by
  have H := hidIt hA
  obtain ⟨pa, pc, la, lc, rfl, rfl, -⟩ := hA.form
  clear hA
  go_enter Try.func32, Try.ntmps32
  go_wp2_with fail
  generalize hW : World.alloc (World.alloc w _) _ = W2
  have bW : Hid (Below w.heap.size w W2) := (by rw [← hW]; exact ((Below.refl w.heap.size w).alloc (Nat.le_refl _) _).alloc (by simp) _ : Below w.heap.size w W2)
  have zW : W2.heap.size = w.heap.size + 2 := by rw [← hW]; simp
  have c0 : W2.cell? ⟨w.heap.size, 0, none⟩ = some (.int .i64 a) := by rw [← hW]; simp [go_sem]
  have c1 : W2.cell? ⟨w.heap.size, 1, none⟩ = some (.slice pa ps.length pc) := by rw [← hW]; simp [go_sem]
  have c2 : W2.cell? ⟨w.heap.size, 2, none⟩ = some (.slice la L.length lc) := by rw [← hW]; simp [go_sem]
  have d0 : W2.cell? ⟨w.heap.size + 1, 0, none⟩ = some (.int .i64 0) := by rw [← hW]; simp [go_sem]
  have d1 : W2.cell? ⟨w.heap.size + 1, 1, none⟩ = some (.slice none 0 0) := by rw [← hW]; simp [go_sem]
  have d2 : W2.cell? ⟨w.heap.size + 1, 2, none⟩ = some (.slice none 0 0) := by rw [← hW]; simp [go_sem]
  have f0 : ∀ o, W2.frozen? ⟨w.heap.size + 1, o, none⟩ = false := by rw [← hW]; simp [go_sem]
  clear hW
  refine (spec_agesok W2 a _ _ ps L (H.out.below bW.out)).mono ?_
  rintro e w3 ⟨rfl, b3⟩
  have z3 := b3.size
  have B3 := hidIt (bW.out.trans (b3.mono (by omega)))
  replace c0 := below_cell b3 (by omega) c0
  replace c1 := below_cell b3 (by omega) c1
  replace c2 := below_cell b3 (by omega) c2
  replace d0 := below_cell b3 (by omega) d0
  replace d1 := below_cell b3 (by omega) d1
  replace d2 := below_cell b3 (by omega) d2
  replace f0 : ∀ o, w3.frozen? ⟨w.heap.size + 1, o, none⟩ = false := fun o => below_frozen b3 (by omega) (f0 o)
  clear b3
  rw [hB]
  go_wp2
  exact bodyPost_ret (v := .tuple #[.agg #[.int .i64 0, .slice none 0 0, .slice none 0 0], .bool false]) (by simp [results, Try.results32, go_sem, d0, d1, d2]) rfl ⟨rfl, by exact ((B3.out.setCell (by simp) _).setCell (by simp) _).setCell (by simp) _⟩

set_option maxHeartbeats 800000 in
set_option maxRecDepth 100000 in
theorem impl_advance_no (w : World) (a : Int) (p l : Value) (ps : List Int) (L : List (Int × Int)) (hA : AIn w p l ps L) (hB : okB a ps L = false) :
    Calls Try.prog 35 #[.agg #[.int .i64 a, p, l]] w fun e w' => e = .returned (.tuple #[.agg #[.int .i64 0, .slice none 0 0, .slice none 0 0], .bool false]) ∧ Below w.heap.size w w' := by
  have H := hidIt hA
  obtain ⟨pa, pc, la, lc, rfl, rfl, -⟩ := hA.form
  clear hA
  go_enter Try.func35, Try.ntmps35
  go_wp2_with fail
  generalize hW : World.alloc (World.alloc w _) _ = W2
  have bW : Hid (Below w.heap.size w W2) := (by rw [← hW]; exact ((Below.refl w.heap.size w).alloc (Nat.le_refl _) _).alloc (by simp) _ : Below w.heap.size w W2)
  have zW : W2.heap.size = w.heap.size + 2 := by rw [← hW]; simp
  have c0 : W2.cell? ⟨w.heap.size, 0, none⟩ = some (.int .i64 a) := by rw [← hW]; simp [go_sem]
  have c1 : W2.cell? ⟨w.heap.size, 1, none⟩ = some (.slice pa ps.length pc) := by rw [← hW]; simp [go_sem]
  have c2 : W2.cell? ⟨w.heap.size, 2, none⟩ = some (.slice la L.length lc) := by rw [← hW]; simp [go_sem]
  have d0 : W2.cell? ⟨w.heap.size + 1, 0, none⟩ = some (.int .i64 0) := by rw [← hW]; simp [go_sem]
  have d1 : W2.cell? ⟨w.heap.size + 1, 1, none⟩ = some (.slice none 0 0) := by rw [← hW]; simp [go_sem]
  have d2 : W2.cell? ⟨w.heap.size + 1, 2, none⟩ = some (.slice none 0 0) := by rw [← hW]; simp [go_sem]
  have f0 : ∀ o, W2.frozen? ⟨w.heap.size + 1, o, none⟩ = false := by rw [← hW]; simp [go_sem]
  clear hW
  refine (impl_agesok W2 a _ _ ps L (H.out.below bW.out)).mono ?_
  rintro e w3 ⟨rfl, b3⟩
  have z3 := b3.size
  have B3 := hidIt (bW.out.trans (b3.mono (by omega)))
  replace c0 := below_cell b3 (by omega) c0
  replace c1 := below_cell b3 (by omega) c1
  replace c2 := below_cell b3 (by omega) c2
  replace d0 := below_cell b3 (by omega) d0
  replace d1 := below_cell b3 (by omega) d1
  replace d2 := below_cell b3 (by omega) d2
  replace f0 : ∀ o, w3.frozen? ⟨w.heap.size + 1, o, none⟩ = false := fun o => below_frozen b3 (by omega) (f0 o)
  clear b3
  rw [hB]
  go_wp2
  exact bodyPost_ret (v := .tuple #[.agg #[.int .i64 0, .slice none 0 0, .slice none 0 0], .bool false]) (by simp [results, Try.results35, go_sem, d0, d1, d2]) rfl ⟨rfl, by exact ((B3.out.setCell (by simp) _).setCell (by simp) _).setCell (by simp) _⟩

set_option maxHeartbeats 1600000 in
set_option maxRecDepth 100000 in
theorem impl_advance_yes (w : World) (a : Int) (p l : Value) (ps : List Int) (L : List (Int × Int)) (hA : AIn w p l ps L) (hB : okB a ps L = true) :
    Calls Try.prog 35 #[.agg #[.int .i64 a, p, l]] w (AAns (advA a ps) ps L (advW a ps) w) := by
  obtain ⟨a0, a1, n1, n8, m1, -, -⟩ := okB_len hB
  have H := hidIt hA
  obtain ⟨pa, pc, la, lc, rfl, rfl, -⟩ := hA.form
  clear hA
  go_enter Try.func35, Try.ntmps35
  go_wp2_with fail
  generalize hW : World.alloc (World.alloc w _) _ = W2
  have bW : Hid (Below w.heap.size w W2) := (by rw [← hW]; exact ((Below.refl w.heap.size w).alloc (Nat.le_refl _) _).alloc (by simp) _ : Below w.heap.size w W2)
  have zW : W2.heap.size = w.heap.size + 2 := by rw [← hW]; simp
  have c0 : W2.cell? ⟨w.heap.size, 0, none⟩ = some (.int .i64 a) := by rw [← hW]; simp [go_sem]
  have c1 : W2.cell? ⟨w.heap.size, 1, none⟩ = some (.slice pa ps.length pc) := by rw [← hW]; simp [go_sem]
  have c2 : W2.cell? ⟨w.heap.size, 2, none⟩ = some (.slice la L.length lc) := by rw [← hW]; simp [go_sem]
  have d0 : W2.cell? ⟨w.heap.size + 1, 0, none⟩ = some (.int .i64 0) := by rw [← hW]; simp [go_sem]
  have d1 : W2.cell? ⟨w.heap.size + 1, 1, none⟩ = some (.slice none 0 0) := by rw [← hW]; simp [go_sem]
  have d2 : W2.cell? ⟨w.heap.size + 1, 2, none⟩ = some (.slice none 0 0) := by rw [← hW]; simp [go_sem]
  have f0 : ∀ o, W2.frozen? ⟨w.heap.size + 1, o, none⟩ = false := by rw [← hW]; simp [go_sem]
  clear hW
  refine (impl_agesok W2 a _ _ ps L (H.out.below bW.out)).mono ?_
  rintro e w3 ⟨rfl, b3⟩
  have z3 := b3.size
  have B3 := hidIt (bW.out.trans (b3.mono (by omega)))
  replace c0 := below_cell b3 (by omega) c0
  replace c1 := below_cell b3 (by omega) c1
  replace c2 := below_cell b3 (by omega) c2
  replace d0 := below_cell b3 (by omega) d0
  replace d1 := below_cell b3 (by omega) d1
  replace d2 := below_cell b3 (by omega) d2
  replace f0 : ∀ o, w3.frozen? ⟨w.heap.size + 1, o, none⟩ = false := fun o => below_frozen b3 (by omega) (f0 o)
  clear b3
  rw [hB]
  have HR := hidIt (H.out.below B3.out)
  go_wp2_with fail
  refine (impl_copyages w3 a _ _ ps L (by omega) (by omega) HR.out).mono ?_
  rintro e w4 ⟨p4, l4, rfl, ao, b4⟩
  have z4 := b4.size
  have A4 := hidIt ao.ar
  have B4 := hidIt (B3.out.trans (b4.mono (by omega)))
  replace c0 := below_cell b4 (by omega) c0
  replace c1 := below_cell b4 (by omega) c1
  replace c2 := below_cell b4 (by omega) c2
  replace d0 := below_cell b4 (by omega) d0
  replace d1 := below_cell b4 (by omega) d1
  replace d2 := below_cell b4 (by omega) d2
  replace f0 : ∀ o, w4.frozen? ⟨w.heap.size + 1, o, none⟩ = false := fun o => below_frozen b4 (by omega) (f0 o)
  obtain ⟨x4, k4, y4, j4, rfl, rfl, -⟩ := ao.ar.form
  have hlt0 : w.heap.size < w4.heap.size := by omega
  have hlt1 : w.heap.size + 1 < w4.heap.size := by omega
  clear ao b4
  by_cases hm : a = 4294967295
  · subst hm
    have e1 : advW 4294967295 ps = false := advW_max rfl
    have e2 : advA 4294967295 ps = 4294967295 := by rw [advA, e1]; rfl
    rw [e1, e2]
    go_wp2
    refine bodyPost_ret (v := .tuple #[.agg #[.int .i64 4294967295, .slice x4 ps.length k4, .slice y4 L.length j4], .bool false]) (by simp [results, Try.results35, go_sem, d0, d1, d2, hlt1]) rfl ⟨_, _, rfl, ?_, ?_⟩
    · exact ((((A4.out.set_out (.inl (by omega))).set_out (.inl (by omega))).set_out (.inl (by omega))).alloc (by simp) _).wide (by omega) (by simp)
    · exact (((B4.out.setCell (by simp) _).setCell (by simp) _).setCell (by simp) _).alloc (by simp; omega) _
  · have hm2 : (a == 4294967295) = false := by simpa using hm
    have e1 := hidIt (advW_pinned hB hm)
    generalize hW4 : w4.alloc (.cells #[.int .i64 a, .slice x4 ps.length k4, .slice y4 L.length j4] 31) = W4
    have zW4 : W4.heap.size = w4.heap.size + 1 := by rw [← hW4]; simp
    have BA : Hid (Below w4.heap.size w4 W4) := (by rw [← hW4]; exact (Below.refl _ _).alloc (Nat.le_refl _) _ : Below w4.heap.size w4 W4)
    have k0 : W4.cell? ⟨w4.heap.size, 0, none⟩ = some (.int .i64 a) := by rw [← hW4]; simp [go_sem]
    have k1 : W4.cell? ⟨w4.heap.size, 1, none⟩ = some (.slice x4 ps.length k4) := by rw [← hW4]; simp [go_sem]
    have k2 : W4.cell? ⟨w4.heap.size, 2, none⟩ = some (.slice y4 L.length j4) := by rw [← hW4]; simp [go_sem]
    have kf : ∀ o, W4.frozen? ⟨w4.heap.size, o, none⟩ = false := by rw [← hW4]; simp [go_sem]
    have c0x := below_cell BA.out (by omega) c0
    have c1x := below_cell BA.out (by omega) c1
    have c2x := below_cell BA.out (by omega) c2
    go_wp2_with fail
    clear hW4 c0x c1x c2x
    refine (impl_pinned W4 a _ _ ps L (a - 1) (by omega) (H.out.below (B4.out.trans (BA.out.mono (by omega))))).mono ?_
    rintro e w5 ⟨rfl, b5⟩
    have z5 := b5.size
    have B5 := hidIt (B4.out.trans ((BA.out.mono (by omega)).trans (b5.mono (by omega))))
    have A5 := hidIt ((A4.out.below BA.out).below (b5.mono (by omega)))
    have BB := hidIt (BA.out.trans (b5.mono (by omega)))
    replace k0 := below_cell b5 (by omega) k0
    replace k1 := below_cell b5 (by omega) k1
    replace k2 := below_cell b5 (by omega) k2
    replace kf : ∀ o, w5.frozen? ⟨w4.heap.size, o, none⟩ = false := fun o => below_frozen b5 (by omega) (kf o)
    replace d0 := below_cell BB.out (by omega) d0
    replace d1 := below_cell BB.out (by omega) d1
    replace d2 := below_cell BB.out (by omega) d2
    replace f0 : ∀ o, w5.frozen? ⟨w.heap.size + 1, o, none⟩ = false := fun o => below_frozen BB.out (by omega) (f0 o)
    clear b5 c0 c1 c2 hm
    cases hP : pinnedB ps (a - 1) with
    | true =>
      have e2 : Hid (advW a ps = false) := (by rw [e1.out, hP]; rfl : advW a ps = false)
      have e3 : Hid (advA a ps = a) := (by rw [advA, e2.out]; rfl : advA a ps = a)
      go_wp2
      rw [e2.out, e3.out]
      refine bodyPost_ret (v := .tuple #[.agg #[.int .i64 a, .slice x4 ps.length k4, .slice y4 L.length j4], .bool false]) (by simp [results, Try.results35, go_sem, d0, d1, d2]) rfl ⟨_, _, rfl, ?_, ?_⟩
      · exact (((A5.out.set_out (.inl (by omega))).set_out (.inl (by omega))).set_out (.inl (by omega))).wide (by omega) (by simp; omega)
      · exact ((B5.out.setCell (by simp) _).setCell (by simp) _).setCell (by simp) _
    | false =>
      have e2 : Hid (advW a ps = true) := (by rw [e1.out, hP]; rfl : advW a ps = true)
      have e3 : Hid (advA a ps = a + 1) := (by rw [advA, e2.out]; rfl : advA a ps = a + 1)
      go_wp2
      rw [e2.out, e3.out]
      refine bodyPost_ret (v := .tuple #[.agg #[.int .i64 (a + 1), .slice x4 ps.length k4, .slice y4 L.length j4], .bool true]) (by simp [results, Try.results35, go_sem, d0, d1, d2]) rfl ⟨_, _, rfl, ?_, ?_⟩
      · exact ((((A5.out.set_out (b := w4.heap.size) (.inr (Nat.le_refl _))).set_out (.inl (by omega))).set_out (.inl (by omega))).set_out (.inl (by omega))).wide (by omega) (by simp; omega)
      · exact (((B5.out.setCell (p := ⟨w4.heap.size, 0, none⟩) (by show w.heap.size ≤ w4.heap.size; omega) _).setCell (by simp) _).setCell (by simp) _).setCell (by simp) _

set_option maxHeartbeats 1600000 in
set_option maxRecDepth 100000 in
theorem spec_advance_yes (w : World) (a : Int) (p l : Value) (ps : List Int) (L : List (Int × Int)) (hA : AIn w p l ps L) (hB : okB a ps L = true) :
    Calls Try.prog 32 #[.agg #[.int .i64 a, p, l]] w (AAns (advA a ps) ps L (advW a ps) w) := by
  obtain ⟨a0, a1, n1, n8, m1, -, -⟩ := okB_len hB
  have H := hidIt hA
  obtain ⟨pa, pc, la, lc, rfl, rfl, -⟩ := hA.form
  clear hA
  go_enter Try.func32, Try.ntmps32
  go_wp2_with fail
  generalize hW : World.alloc (World.alloc w _) _ = W2
  have bW : Hid (Below w.heap.size w W2) := (by rw [← hW]; exact ((Below.refl w.heap.size w).alloc (Nat.le_refl _) _).alloc (by simp) _ : Below w.heap.size w W2)
  have zW : W2.heap.size = w.heap.size + 2 := by rw [← hW]; simp
  have c0 : W2.cell? ⟨w.heap.size, 0, none⟩ = some (.int .i64 a) := by rw [← hW]; simp [go_sem]
  have c1 : W2.cell? ⟨w.heap.size, 1, none⟩ = some (.slice pa ps.length pc) := by rw [← hW]; simp [go_sem]
  have c2 : W2.cell? ⟨w.heap.size, 2, none⟩ = some (.slice la L.length lc) := by rw [← hW]; simp [go_sem]
  have d0 : W2.cell? ⟨w.heap.size + 1, 0, none⟩ = some (.int .i64 0) := by rw [← hW]; simp [go_sem]
  have d1 : W2.cell? ⟨w.heap.size + 1, 1, none⟩ = some (.slice none 0 0) := by rw [← hW]; simp [go_sem]
  have d2 : W2.cell? ⟨w.heap.size + 1, 2, none⟩ = some (.slice none 0 0) := by rw [← hW]; simp [go_sem]
  have f0 : ∀ o, W2.frozen? ⟨w.heap.size + 1, o, none⟩ = false := by rw [← hW]; simp [go_sem]
  clear hW
  refine (spec_agesok W2 a _ _ ps L (H.out.below bW.out)).mono ?_
  rintro e w3 ⟨rfl, b3⟩
  have z3 := b3.size
  have B3 := hidIt (bW.out.trans (b3.mono (by omega)))
  replace c0 := below_cell b3 (by omega) c0
  replace c1 := below_cell b3 (by omega) c1
  replace c2 := below_cell b3 (by omega) c2
  replace d0 := below_cell b3 (by omega) d0
  replace d1 := below_cell b3 (by omega) d1
  replace d2 := below_cell b3 (by omega) d2
  replace f0 : ∀ o, w3.frozen? ⟨w.heap.size + 1, o, none⟩ = false := fun o => below_frozen b3 (by omega) (f0 o)
  clear b3
  rw [hB]
  have HR := hidIt (H.out.below B3.out)
  go_wp2_with fail
  refine (spec_copyages w3 a _ _ ps L (by omega) (by omega) (by omega) HR.out).mono ?_
  rintro e w4 ⟨p4, l4, rfl, ao, b4⟩
  have z4 := b4.size
  have A4 := hidIt ao.ar
  have B4 := hidIt (B3.out.trans (b4.mono (by omega)))
  replace c0 := below_cell b4 (by omega) c0
  replace c1 := below_cell b4 (by omega) c1
  replace c2 := below_cell b4 (by omega) c2
  replace d0 := below_cell b4 (by omega) d0
  replace d1 := below_cell b4 (by omega) d1
  replace d2 := below_cell b4 (by omega) d2
  replace f0 : ∀ o, w4.frozen? ⟨w.heap.size + 1, o, none⟩ = false := fun o => below_frozen b4 (by omega) (f0 o)
  obtain ⟨x4, k4, y4, j4, rfl, rfl, -⟩ := ao.ar.form
  have hlt0 : w.heap.size < w4.heap.size := by omega
  have hlt1 : w.heap.size + 1 < w4.heap.size := by omega
  clear ao b4
  obtain ⟨pa', pc', hv, hp⟩ := H.out.pins.below B4.out
  simp at hv
  obtain ⟨rfl, rfl⟩ := hv
  rcases hp with hp | ⟨b, off, rfl, hb, hp⟩
  · rw [hp] at n1; simp at n1
  have HP := hidIt hp
  clear hp
  have HW := hidIt (And.intro (advW_max (a := a) (ps := ps)) (And.intro (fun (k : Nat) (hk : k < ps.length) => advW_pin (a := a) (ps := ps) hk) (advW_yes (a := a) (ps := ps))))
  generalize hW4 : w4.alloc (.cells #[.int .i64 a, .slice x4 ps.length k4, .slice y4 L.length j4] 31) = W4
  have zW4 : W4.heap.size = w4.heap.size + 1 := by rw [← hW4]; simp
  have BA : Hid (Below w4.heap.size w4 W4) := (by rw [← hW4]; exact (Below.refl _ _).alloc (Nat.le_refl _) _ : Below w4.heap.size w4 W4)
  have k0 : W4.cell? ⟨w4.heap.size, 0, none⟩ = some (.int .i64 a) := by rw [← hW4]; simp [go_sem]
  have k1 : W4.cell? ⟨w4.heap.size, 1, none⟩ = some (.slice x4 ps.length k4) := by rw [← hW4]; simp [go_sem]
  have k2 : W4.cell? ⟨w4.heap.size, 2, none⟩ = some (.slice y4 L.length j4) := by rw [← hW4]; simp [go_sem]
  have kf : ∀ o, W4.frozen? ⟨w4.heap.size, o, none⟩ = false := by rw [← hW4]; simp [go_sem]
  have c0x := below_cell BA.out (by omega) c0
  have c1x := below_cell BA.out (by omega) c1
  go_wp2_with fail
  clear hW4 c0x c1x
  have B5 := hidIt (B4.out.trans (BA.out.mono (by omega)))
  have A5 := hidIt (A4.out.below BA.out)
  replace c0 := below_cell BA.out (by omega) c0
  replace d0 := below_cell BA.out (by omega) d0
  replace d1 := below_cell BA.out (by omega) d1
  replace d2 := below_cell BA.out (by omega) d2
  replace f0 : ∀ o, W4.frozen? ⟨w.heap.size + 1, o, none⟩ = false := fun o => below_frozen BA.out (by omega) (f0 o)
  clear c1 c2
  go_loop [16] (fun i => ∃ k : Nat, k ≤ ps.length ∧ i = .int .i64 k ∧ Hid (∀ j (hj : j < ps.length), j < k → ps[j] = -1 ∨ ps[j] = a)) (fun i => ps.length - (intOf i).toNat)
  case atStart => exact ⟨0, Nat.zero_le _, rfl, fun j _ hj => by omega⟩
  case round =>
    obtain ⟨k, hk, rfl, HF⟩ := hrel
    by_cases hlt : k < ps.length
    · have c3 := below_cell BA.out hb (HP.out k hlt)
      have hlt' : (k : Int) < (ps.length : Int) := by omega
      have HS := hidIt (HW.out.2.1 k hlt)
      have HG : Hid ((ps[k] = -1 ∨ ps[k] = a) → ∀ j (hj : j < ps.length), j < k + 1 → ps[j] = -1 ∨ ps[j] = a) := fun h j hj hjk => by
        by_cases e : j = k
        · subst e; exact h
        · exact HF.out j hj (by omega)
      generalize ps[k] = z at c3 HS HG
      by_cases e1 : z = -1
      · subst e1
        have hp := hidIt (HG.out (.inl rfl))
        clear HG HS
        go_wp2
        go_round
        case rel => exact ⟨k + 1, by omega, by go_num, hp.out⟩
        case measure => simp [intOf]; omega
      · by_cases e2 : z = a
        · subst e2
          have hp := hidIt (HG.out (.inr rfl))
          clear HG HS
          go_wp2
          go_round
          case rel => exact ⟨k + 1, by omega, by go_num, hp.out⟩
          case measure => simp [intOf]; omega
        · have E1 := hidIt (HS.out e1 e2)
          have E2 : Hid (advA a ps = a) := (by rw [advA, E1.out]; rfl : advA a ps = a)
          clear HG HS
          have f1 : (z != -1) = true := by simpa using e1
          have f2 : (z != a) = true := by simpa using e2
          clear e1 e2
          go_wp2
          rw [E1.out, E2.out]
          refine bodyPost_ret (v := .tuple #[.agg #[.int .i64 a, .slice x4 ps.length k4, .slice y4 L.length j4], .bool false]) (by simp [results, Try.results32, go_sem, d0, d1, d2]) rfl ⟨_, _, rfl, ?_, ?_⟩
          · exact (((A5.out.set_out (.inl (by omega))).set_out (.inl (by omega))).set_out (.inl (by omega))).wide (by omega) (by simp; omega)
          · exact ((B5.out.setCell (by simp) _).setCell (by simp) _).setCell (by simp) _
    · have HALL : Hid (∀ j (hj : j < ps.length), ps[j] = -1 ∨ ps[j] = a) := fun j hj => HF.out j hj (by omega)
      by_cases hm : a = 4294967295
      · subst hm
        have E1 := hidIt (HW.out.1 rfl)
        have E2 : Hid (advA 4294967295 ps = 4294967295) := (by rw [advA, E1.out]; rfl : advA 4294967295 ps = 4294967295)
        go_wp2
        rw [E1.out, E2.out]
        refine bodyPost_ret (v := .tuple #[.agg #[.int .i64 4294967295, .slice x4 ps.length k4, .slice y4 L.length j4], .bool false]) (by simp [results, Try.results32, go_sem, d0, d1, d2]) rfl ⟨_, _, rfl, ?_, ?_⟩
        · exact (((A5.out.set_out (.inl (by omega))).set_out (.inl (by omega))).set_out (.inl (by omega))).wide (by omega) (by simp; omega)
        · exact ((B5.out.setCell (by simp) _).setCell (by simp) _).setCell (by simp) _
      · have E1 := hidIt (HW.out.2.2 hm HALL.out)
        have E2 : Hid (advA a ps = a + 1) := (by rw [advA, E1.out]; rfl : advA a ps = a + 1)
        go_wp2
        rw [E1.out, E2.out]
        refine bodyPost_ret (v := .tuple #[.agg #[.int .i64 (a + 1), .slice x4 ps.length k4, .slice y4 L.length j4], .bool true]) (by simp [results, Try.results32, go_sem, d0, d1, d2]) rfl ⟨_, _, rfl, ?_, ?_⟩
        · exact ((((A5.out.set_out (b := w4.heap.size) (.inr (Nat.le_refl _))).set_out (.inl (by omega))).set_out (.inl (by omega))).set_out (.inl (by omega))).wide (by omega) (by simp; omega)
        · exact (((B5.out.setCell (p := ⟨w4.heap.size, 0, none⟩) (by show w.heap.size ≤ w4.heap.size; omega) _).setCell (by simp) _).setCell (by simp) _).setCell (by simp) _

theorem spec_advance (w : World) (a : Int) (p l : Value) (ps : List Int) (L : List (Int × Int)) (hA : AIn w p l ps L) :
    Calls Try.prog 32 #[.agg #[.int .i64 a, p, l]] w (AAns (setA (okB a ps L) (advA a ps)) (retP (okB a ps L) ps) (setLm (okB a ps L) L) (advOk a ps L) w) := by
  unfold advOk
  cases hB : okB a ps L with
  | false => exact (spec_advance_no w a p l ps L hA hB).mono fun _ _ k => AAns.none k
  | true => exact spec_advance_yes w a p l ps L hA hB

theorem impl_advance (w : World) (a : Int) (p l : Value) (ps : List Int) (L : List (Int × Int)) (hA : AIn w p l ps L) :
    Calls Try.prog 35 #[.agg #[.int .i64 a, p, l]] w (AAns (setA (okB a ps L) (advA a ps)) (retP (okB a ps L) ps) (setLm (okB a ps L) L) (advOk a ps L) w) := by
  unfold advOk
  cases hB : okB a ps L with
  | false => exact (impl_advance_no w a p l ps L hA hB).mono fun _ _ k => AAns.none k
  | true => exact impl_advance_yes w a p l ps L hA hB

end Go.Proofs.Ytdcnakpkmgepgab

namespace Go.Proofs.Ytdcnakpkmgepgab
open Go.ChangeShapes Go.WideShapes Go.ChangeAt Go.RowKit
set_option linter.unusedVariables false

def plTurn (P : Pl) : Pl := wP P (setA (okB P.a P.ps P.L) (advA P.a P.ps)) (retP (okB P.a P.ps P.L) P.ps) (setLm (okB P.a P.ps P.L) P.L) true
def plTurnB (P : Pl) : Bool := plOkB P && advOk P.a P.ps P.L
theorem turn_same (P : Pl) : plOkB P = true → advOk P.a P.ps P.L = false → (⟨P.fr, setA (okB P.a P.ps P.L) (advA P.a P.ps), retP (okB P.a P.ps P.L) P.ps, setLm (okB P.a P.ps P.L) P.L, P.lv⟩ : Pl) = P := by
  intro h1 h2
  have h3 := (plOk_parts h1).1
  have h4 : advW P.a P.ps = false := by simpa [advOk, h3] using h2
  rw [h3]
  simp [setA, retP, setLm, advA, h4]
theorem wP_true {P : Pl} {A : Int} {PS : List Int} {LS : List (Int × Int)} (h : plOkB P = true) : wP P A PS LS true = ⟨P.fr, A, PS, LS, P.lv⟩ := wP_yes (by simp [h])
theorem wP_false {P : Pl} {A : Int} {PS : List Int} {LS : List (Int × Int)} {B : Bool} (h : plOkB P = false) : wP P A PS LS B = plZero := wP_no (by simp [h])
theorem fit_turn (P : Pl) (hf : PlFit P) : PlFit (plTurn P) := by
  unfold plTurn
  have h1 : (retP (okB P.a P.ps P.L) P.ps).length ≤ P.ps.length := by unfold retP; split <;> simp
  have h2 : (setLm (okB P.a P.ps P.L) P.L).length ≤ P.L.length := by unfold setLm; split <;> simp
  unfold PlFit at hf ⊢
  unfold wP
  split
  · simp only
    omega
  · simp [plZero]
set_option maxHeartbeats 1600000 in
set_option maxRecDepth 100000 in
theorem spec_turn (w : World) (f p l v : Value) (P : Pl) (hf : PlFit P) (hA : PlIn w f p l v P) :
    Calls Try.prog 13 #[.agg #[f, .int .i64 P.a, p, l, v]] w (PlS1 (plTurn P) (plTurnB P) w) := by
  unfold plTurn plTurnB
  have H := hidIt hA
  have HF := hidIt hf
  obtain ⟨fa, fc, pa, pc, la, lc, va, vc, rfl, rfl, rfl, rfl⟩ := hA.form
  clear hA
  have HPIN := hidIt (fun (p l : Value) W (hA : AIn W p l P.ps P.L) => spec_advance W P.a p l P.ps P.L hA)
  have HSM := hidIt (turn_same P)
  generalize setA (okB P.a P.ps P.L) (advA P.a P.ps) = A at HPIN HSM ⊢
  generalize retP (okB P.a P.ps P.L) P.ps = PS at HPIN HSM ⊢
  generalize setLm (okB P.a P.ps P.L) P.L = LS at HPIN HSM ⊢
  generalize advOk P.a P.ps P.L = B at HPIN HSM ⊢
  go_enter Try.func13, Try.ntmps13
  go_wp2_with fail
  generalize hW : World.alloc (World.alloc w _) _ = W0
  have X := bx2 w #[.slice fa P.fr.length fc, .int .i64 P.a, .slice pa P.ps.length pc, .slice la P.L.length lc, .slice va P.lv.length vc] #[.slice none 0 0, .int .i64 0, .slice none 0 0, .slice none 0 0, .slice none 0 0] 33 33
  rw [hW] at X
  clear hW
  obtain ⟨X0, X1, bW, zW⟩ := X
  refine (HPIN.out _ _ W0 (H.out.below bW).ag).mono ?_
  rintro e w1 ⟨p1, l1, rfl, ar, b1⟩
  obtain ⟨xa, xb, xc, xd, rfl, rfl, -⟩ := ar.form
  have z1 := b1.size
  have H0 := hidIt (X0.below b1)
  have H1 := hidIt (X1.below b1)
  have B1 := hidIt (bel_two bW b1)
  have A1 := hidIt ar
  clear X0 X1 bW b1 ar
  have k0 := H0.out.2.1 0
  have k1 := H0.out.2.1 1
  have k2 := H0.out.2.1 2
  have k3 := H0.out.2.1 3
  have k4 := H0.out.2.1 4
  simp at k0 k1 k2 k3 k4
  have hl0 := H0.out.1
  go_wp2_with fail
  generalize hW : World.alloc w1 _ = W2
  have zW2 : W2.heap.size = w1.heap.size + 1 := by rw [← hW]; simp
  have Y := hidIt (show Bx W2 w1.heap.size #[.int .i64 A, .slice xa PS.length xb, .slice xc LS.length xd] from by rw [← hW]; exact Bx.new w1 _ _)
  have b2 := hidIt (show Below w1.heap.size w1 W2 from by rw [← hW]; exact (Below.refl _ _).alloc (Nat.le_refl _) _)
  clear hW k0 k1 k2 k3 k4
  have G0 := hidIt (H0.out.below b2.out)
  have G1 := hidIt (H1.out.below b2.out)
  have B2 := hidIt (bel_two B1.out b2.out)
  have A2 := hidIt (A1.out.below b2.out)
  clear H0 H1 B1 A1 b2
  refine (spec_poolok W2 _ _ _ _ P HF.out (H.out.below B2.out)).mono ?_
  rintro e w3 ⟨rfl, b3⟩
  have z3 := b3.size
  have H0 := hidIt (G0.out.below b3)
  have H1 := hidIt (G1.out.below b3)
  have Y3 := hidIt (Y.out.below b3)
  have B3 := hidIt (bel_two B2.out b3)
  have A3 := hidIt (A2.out.below (b3.mono (by omega)))
  clear b3 G0 G1 Y A2
  cases hp : plOkB P with
  | false =>
    have HP := hidIt hp
    have k0 := H0.out.2.1 0
    have k1 := H0.out.2.1 1
    have k2 := H0.out.2.1 2
    have k3 := H0.out.2.1 3
    have k4 := H0.out.2.1 4
    have y0 := Y3.out.2.1 0
    have y1 := Y3.out.2.1 1
    have y2 := Y3.out.2.1 2
    simp at k0 k1 k2 k3 k4 y0 y1 y2
    have hly := Y3.out.1
    go_wp2_with fail
    clear k0 k1 k2 k3 k4 y0 y1 y2
    refine (spec_with w3 W0.heap.size _ _ _ _ P A _ _ PS LS B HF.out (H.out.below B3.out) (A3.out.wide (Nat.le_refl _) (by omega)) (by omega)).mono ?_
    rw [hp]
    rintro e w4 ⟨f4, p4, l4, v4, rfl, rq, b4⟩
    have hw : wP P A PS LS B = wP P A PS LS true := (wP_false HP.out).trans (wP_false HP.out).symm
    have HW := hidIt hw
    obtain ⟨ya, yb, yc, yd, ye, yf, yg, yh, rfl, rfl, rfl, rfl⟩ := rq.form
    have z4 := b4.size
    have HQ := hidIt rq
    have HB := hidIt (bel_two B3.out b4)
    have hx : (plOkB P && B) = false := by rw [HP.out]; rfl
    have HXX := hidIt hx
    clear hx
    have R1 := hidIt (H1.out.below b4)
    clear rq b4 H0 H1 Y3 A3 hw
    have q0 := R1.out.2.1 0
    have q1 := R1.out.2.1 1
    have q2 := R1.out.2.1 2
    have q3 := R1.out.2.1 3
    have q4 := R1.out.2.1 4
    have qf := R1.out.2.2
    simp at q0 q1 q2 q3 q4
    have hl1 := R1.out.1
    go_wp2
    refine bodyPost_ret (v := .tuple #[.agg #[.slice ya (wP P A PS LS B).fr.length yb, .int .i64 (wP P A PS LS B).a, .slice yc (wP P A PS LS B).ps.length yd, .slice ye (wP P A PS LS B).L.length yf, .slice yg (wP P A PS LS B).lv.length yh], .bool false]) (by simp [results, Try.results13, go_sem, q0, q1, q2, q3, q4]) rfl (by
      rw [← HW.out, HP.out]
      show PlS1 (wP P A PS LS B) false _ _ _
      exact ⟨_, _, _, _, rfl, (((((HQ.out.set (by omega)).set (by omega)).set (by omega)).set (by omega)).set (by omega)).wide (by omega) (by simp), bel_set5 HB.out (by omega)⟩)
  | true =>
    have HP := hidIt hp
    have k0 := H0.out.2.1 0
    have k1 := H0.out.2.1 1
    have k2 := H0.out.2.1 2
    have k3 := H0.out.2.1 3
    have k4 := H0.out.2.1 4
    have y0 := Y3.out.2.1 0
    have y1 := Y3.out.2.1 1
    have y2 := Y3.out.2.1 2
    simp at k0 k1 k2 k3 k4 y0 y1 y2
    have hly := Y3.out.1
    cases B with
    | true =>
      go_wp2_with fail
      clear k0 k1 k2 k3 k4 y0 y1 y2
      refine (spec_with w3 W0.heap.size _ _ _ _ P A _ _ PS LS true HF.out (H.out.below B3.out) (A3.out.wide (Nat.le_refl _) (by omega)) (by omega)).mono ?_
      rw [hp]
      rintro e w4 ⟨f4, p4, l4, v4, rfl, rq, b4⟩
      have hw : wP P A PS LS true = wP P A PS LS true := rfl
      have HW := hidIt hw
      obtain ⟨ya, yb, yc, yd, ye, yf, yg, yh, rfl, rfl, rfl, rfl⟩ := rq.form
      have z4 := b4.size
      have HQ := hidIt rq
      have HB := hidIt (bel_two B3.out b4)
      have R1 := hidIt (H1.out.below b4)
      clear rq b4 H0 H1 Y3 A3 hw
      have q0 := R1.out.2.1 0
      have q1 := R1.out.2.1 1
      have q2 := R1.out.2.1 2
      have q3 := R1.out.2.1 3
      have q4 := R1.out.2.1 4
      have qf := R1.out.2.2
      simp at q0 q1 q2 q3 q4
      have hl1 := R1.out.1
      go_wp2
      refine bodyPost_ret (v := .tuple #[.agg #[.slice ya (wP P A PS LS true).fr.length yb, .int .i64 (wP P A PS LS true).a, .slice yc (wP P A PS LS true).ps.length yd, .slice ye (wP P A PS LS true).L.length yf, .slice yg (wP P A PS LS true).lv.length yh], .bool true]) (by simp [results, Try.results13, go_sem, q0, q1, q2, q3, q4]) rfl (by
        rw [HP.out]
        show PlS1 (wP P A PS LS true) true _ _ _
        exact ⟨_, _, _, _, rfl, (((((HQ.out.set (by omega)).set (by omega)).set (by omega)).set (by omega)).set (by omega)).wide (by omega) (by simp), bel_set5 HB.out (by omega)⟩)
    | false =>
      have HS2 := hidIt (HSM.out hp rfl)
      go_wp2_with fail
      clear k0 k1 k2 k3 k4 y0 y1 y2
      refine (spec_copypool w3 _ _ _ _ P HF.out (ok_pins hp) (H.out.below B3.out)).mono ?_
      rintro e w4 ⟨f4, p4, l4, v4, rfl, rq, b4⟩
      obtain ⟨ya, yb, yc, yd, ye, yf, yg, yh, rfl, rfl, rfl, rfl⟩ := rq.form
      have z4 := b4.size
      have HQ := hidIt (rq.wide (lo' := W0.heap.size) (by omega) (Nat.le_refl _))
      have HB := hidIt (bel_two B3.out b4)
      have R1 := hidIt (H1.out.below b4)
      clear rq b4 H0 H1 Y3 A3
      have q0 := R1.out.2.1 0
      have q1 := R1.out.2.1 1
      have q2 := R1.out.2.1 2
      have q3 := R1.out.2.1 3
      have q4 := R1.out.2.1 4
      have qf := R1.out.2.2
      simp at q0 q1 q2 q3 q4
      have hl1 := R1.out.1
      go_wp2
      refine bodyPost_ret (v := .tuple #[.agg #[.slice ya P.fr.length yb, .int .i64 P.a, .slice yc P.ps.length yd, .slice ye P.L.length yf, .slice yg P.lv.length yh], .bool false]) (by simp [results, Try.results13, go_sem, q0, q1, q2, q3, q4]) rfl (by
        rw [wP_true HP.out, HS2.out, HP.out]
        exact ⟨_, _, _, _, rfl, (((((HQ.out.set (by omega)).set (by omega)).set (by omega)).set (by omega)).set (by omega)).wide (by omega) (by simp), bel_set5 HB.out (by omega)⟩)
set_option maxHeartbeats 1600000 in
set_option maxRecDepth 100000 in
theorem impl_turn (w : World) (f p l v : Value) (P : Pl) (hf : PlFit P) (hwf : PlWf P) (hA : PlIn w f p l v P) :
    Calls Try.prog 14 #[.agg #[f, .int .i64 P.a, p, l, v]] w (PlI1 (plTurn P) (plTurnB P) w) := by
  unfold plTurn plTurnB
  have HWF := hidIt hwf
  have H := hidIt hA
  have HF := hidIt hf
  obtain ⟨fa, fc, pa, pc, la, lc, va, vc, rfl, rfl, rfl, rfl⟩ := hA.form
  clear hA
  have HPIN := hidIt (fun (p l : Value) W (hA : AIn W p l P.ps P.L) => impl_advance W P.a p l P.ps P.L hA)
  have HSM := hidIt (turn_same P)
  generalize setA (okB P.a P.ps P.L) (advA P.a P.ps) = A at HPIN HSM ⊢
  generalize retP (okB P.a P.ps P.L) P.ps = PS at HPIN HSM ⊢
  generalize setLm (okB P.a P.ps P.L) P.L = LS at HPIN HSM ⊢
  generalize advOk P.a P.ps P.L = B at HPIN HSM ⊢
  go_enter Try.func14, Try.ntmps14
  go_wp2_with fail
  generalize hW : World.alloc (World.alloc w _) _ = W0
  have X := bx2 w #[.slice fa P.fr.length fc, .int .i64 P.a, .slice pa P.ps.length pc, .slice la P.L.length lc, .slice va P.lv.length vc] #[.slice none 0 0, .int .i64 0, .slice none 0 0, .slice none 0 0, .slice none 0 0] 33 33
  rw [hW] at X
  clear hW
  obtain ⟨X0, X1, bW, zW⟩ := X
  refine (impl_poolok W0 _ _ _ _ P HF.out HWF.out (H.out.below bW)).mono ?_
  rintro e w1 ⟨rfl, b1⟩
  have z1 := b1.size
  have H0 := hidIt (X0.below b1)
  have H1 := hidIt (X1.below b1)
  have B1 := hidIt (bel_two bW b1)
  clear X0 X1 bW b1
  cases hp : plOkB P with
  | false =>
    have HP := hidIt hp
    have q0 := H1.out.2.1 0
    have q1 := H1.out.2.1 1
    have q2 := H1.out.2.1 2
    have q3 := H1.out.2.1 3
    have q4 := H1.out.2.1 4
    have qf := H1.out.2.2
    simp at q0 q1 q2 q3 q4
    have hl1 := H1.out.1
    go_wp2
    exact bodyPost_ret (v := .tuple #[.agg #[.slice none 0 0, .int .i64 0, .slice none 0 0, .slice none 0 0, .slice none 0 0], .bool false]) (by simp [results, Try.results14, go_sem, q0, q1, q2, q3, q4]) rfl (by rw [wP_false HP.out, HP.out]; exact PlI1.none ⟨rfl, bel_set5 B1.out (by omega)⟩)
  | true =>
    have HP := hidIt hp
    have k1 := H0.out.2.1 1
    have k2 := H0.out.2.1 2
    have k3 := H0.out.2.1 3
    simp at k1 k2 k3
    go_wp2_with fail
    clear k1 k2 k3
    refine (HPIN.out _ _ w1 (H.out.below B1.out).ag).mono ?_
    rintro e w2 ⟨p1, l1, rfl, ar, b2⟩
    obtain ⟨xa, xb, xc, xd, rfl, rfl, -⟩ := ar.form
    have z2 := b2.size
    have G0 := hidIt (H0.out.below b2)
    have G1 := hidIt (H1.out.below b2)
    have B2 := hidIt (bel_two B1.out b2)
    have A2 := hidIt ar
    clear H0 H1 b2 ar
    have k0 := G0.out.2.1 0
    have k1 := G0.out.2.1 1
    have k2 := G0.out.2.1 2
    have k3 := G0.out.2.1 3
    have k4 := G0.out.2.1 4
    simp at k0 k1 k2 k3 k4
    have hl0 := G0.out.1
    go_wp2_with fail
    generalize hW : World.alloc w2 _ = W3
    have zW3 : W3.heap.size = w2.heap.size + 1 := by rw [← hW]; simp
    have b3 := hidIt (show Below w2.heap.size w2 W3 from by rw [← hW]; exact (Below.refl _ _).alloc (Nat.le_refl _) _)
    clear hW k0 k1 k2 k3 k4
    have R0 := hidIt (G1.out.below b3.out)
    have B3 := hidIt (bel_two B2.out b3.out)
    have A3 := hidIt (A2.out.below b3.out)
    clear G0 G1 A2 b3
    refine (impl_withages W3 _ _ _ _ P A xa xc PS.length xb LS.length xd HF.out (H.out.below B3.out)).mono ?_
    rintro e w4 ⟨f4, v4, rfl, wa, b4⟩
    have z4 := b4.size
    have HR := hidIt (wa.pl (a := A) (lo := W0.heap.size) ((A3.out.below (b4.mono (by omega))).wide (by omega) (by omega)) (by omega) (by omega))
    obtain ⟨ya, yb, yc, yd, ye, yf, yg, yh, rfl, hx1, hx2, rfl⟩ := HR.out.form
    clear hx1 hx2
    have HB := hidIt (bel_two B3.out b4)
    have R1 := hidIt (R0.out.below b4)
    clear wa b4 R0 A3
    have q0 := R1.out.2.1 0
    have q1 := R1.out.2.1 1
    have q2 := R1.out.2.1 2
    have q3 := R1.out.2.1 3
    have q4 := R1.out.2.1 4
    have qf := R1.out.2.2
    simp at q0 q1 q2 q3 q4
    have hl2 := R1.out.1
    go_wp2
    refine bodyPost_ret (v := .tuple #[.agg #[.slice ya P.fr.length yb, .int .i64 A, .slice xa PS.length xb, .slice xc LS.length xd, .slice yg P.lv.length yh], .bool B]) (by simp [results, Try.results14, go_sem, q0, q1, q2, q3, q4]) rfl (by
      rw [wP_true HP.out, HP.out]
      exact ⟨_, _, _, _, rfl, (((((HR.out.set_low (by omega)).set_low (by omega)).set_low (by omega)).set_low (by omega)).set_low (by omega)).wide (by omega) (by simp), bel_set5 HB.out (by omega)⟩)

end Go.Proofs.Ytdcnakpkmgepgab

namespace Go.Proofs.Ytdcnakpkmgepgab
open Go.ChangeShapes Go.WideShapes Go.ChangeAt Go.RowKit
set_option linter.unusedVariables false

set_option maxHeartbeats 3200000 in
set_option maxRecDepth 100000 in
theorem walk_Turn (P : Pl) (f p l v : Value) (w : World) (r0 : PlIn w f p l v P) (n0 : P.fr.length ≤ maxLen) (n1 : P.ps.length ≤ maxLen) (n2 : P.L.length ≤ maxLen) (n3 : P.lv.length ≤ maxLen) (hwf : PlWf P) :
    Calls Try.prog 4 #[.agg #[f, .int .i64 P.a, p, l, v]] w fun e w' => e = .returned (.bool true) ∧ Below w.heap.size w w' := by
  have RI := hidIt r0
  obtain ⟨xaa, xka, xba, xla, xca, xma, xda, xna, rfl, rfl, rfl, rfl⟩ := r0.form
  clear r0
  unfold maxLen at n0 n1 n2 n3
  by_cases hs : P.fr.length + P.ps.length + P.L.length + P.lv.length ≤ 1048576
  · have HF : Hid (PlFit P) := hidIt (show PlFit P from hs)
    have HS := hidIt (fun f p l v W (hA : PlIn W f p l v P) => spec_turn W f p l v P  hs hA)
    have HI := hidIt (fun f p l v W (hA : PlIn W f p l v P) => impl_turn W f p l v P  hs hwf hA)
    have HG : Hid (PlFit (plTurn P)) := hidIt (fit_turn P  hs)
    generalize plTurn P = P' at HS HI HG
    generalize plTurnB P = S1 at HS HI
    have s0 := hidIt ((Sv.start w).box5 (.slice xaa P.fr.length xka) (.int .i64 P.a) (.slice xba P.ps.length xla) (.slice xca P.L.length xma) (.slice xda P.lv.length xna) 27)
    go_enter Try.func4, Try.ntmps4
    go_wp2_with fail
    refine (sz_pool P.a _ _ _ _ P.fr.length _ P.ps.length _ P.L.length _ P.lv.length _ _ (by omega) (by omega) (by omega) (by omega)).mono ?_
    rintro e w1 ⟨⟨z, rfl, hz, -⟩, b1⟩
    have hz0 := hz hs
    clear hz
    have s1 := hidIt (s0.out.grow b1)
    have z1 := b1.size
    (try simp at z1)
    obtain ⟨c10, c11, c12, c13, c14⟩ := s1.out.get5 (b := w.heap.size) (x0 := (.slice xaa P.fr.length xka)) (x1 := (.int .i64 P.a)) (x2 := (.slice xba P.ps.length xla)) (x3 := (.slice xca P.L.length xma)) (x4 := (.slice xda P.lv.length xna)) (by simp) (by simp) (by simp) (by simp) (by simp)
    clear b1 s0
    go_wp2_with fail
    clear hz0 c10 c11 c12 c13 c14
    refine (to_pool _ _ _ _ _ P HF.out (RI.out.below s1.out.below)).mono ?_
    rintro e w2 ⟨f2, p2, l2, v2, rfl, r2, b2⟩
    have s2 := hidIt (s1.out.grow b2)
    have z2 := b2.size
    have R2 := hidIt (r2.toQ.pin (Nat.le_refl _))
    obtain ⟨xa2, xk2, xb2, xl2, xc2, xm2, xd2, xn2, rfl, rfl, rfl, rfl⟩ := r2.form
    clear r2 b2 s1
    go_wp2_with fail
    refine (HS.out _ _ _ _ _ R2.out).mono ?_
    rintro e w3 ⟨f3, p3, l3, v3, rfl, r3, b3⟩
    have s3 := hidIt ((s2.out.grow b3).row (Nat.le_refl _) (PlQ.loc _ _ _ _ _ _ _) r3)
    obtain ⟨xa3, xk3, xb3, xl3, xc3, xm3, xd3, xn3, rfl, rfl, rfl, rfl⟩ := r3.form
    have z3 := b3.size
    clear r3 b3 s2 R2
    have t3 := hidIt (s3.out.box5 (.slice xa3 P'.fr.length xk3) (.int .i64 P'.a) (.slice xb3 P'.ps.length xl3) (.slice xc3 P'.L.length xm3) (.slice xd3 P'.lv.length xn3) 33)
    obtain ⟨c30, c31, c32, c33, c34⟩ := t3.out.get5 (b := w.heap.size) (x0 := (.slice xaa P.fr.length xka)) (x1 := (.int .i64 P.a)) (x2 := (.slice xba P.ps.length xla)) (x3 := (.slice xca P.L.length xma)) (x4 := (.slice xda P.lv.length xna)) (by simp) (by simp) (by simp) (by simp) (by simp)
    go_wp2_with fail
    clear c30 c31 c32 c33 c34
    refine (to_pool _ _ _ _ _ P HF.out (RI.out.below t3.out.below)).mono ?_
    rintro e w4 ⟨f4, p4, l4, v4, rfl, r4, b4⟩
    have s4 := hidIt ((t3.out.grow b4).row (Nat.le_refl _) (PlR.loc _ _ _ _ _ _ _) r4)
    obtain ⟨xa4, xk4, xb4, xl4, xc4, xm4, xd4, xn4, rfl, rfl, rfl, rfl⟩ := r4.form
    have z4 := b4.size
    (try simp at z4)
    clear r4 b4 t3 s3
    have t4 := hidIt (s4.out.box5 (.slice xa4 P.fr.length xk4) (.int .i64 P.a) (.slice xb4 P.ps.length xl4) (.slice xc4 P.L.length xm4) (.slice xd4 P.lv.length xn4) 33)
    go_wp2_with fail
    refine (HI.out _ _ _ _ _ ((t4.out.at (.head _)).2.toQ.pin (t4.out.at (.head _)).1)).mono ?_
    rintro e w5 ⟨f5, p5, l5, v5, rfl, r5, b5⟩
    have s5 := hidIt ((t4.out.grow b5).row (Nat.le_refl _) (PlR.loc _ _ _ _ _ _ _) r5)
    obtain ⟨xa5, xk5, xb5, xl5, xc5, xm5, xd5, xn5, rfl, rfl, rfl, rfl⟩ := r5.form
    have z5 := b5.size
    (try simp at z5)
    clear r5 b5 t4 s4
    have t5 := hidIt (s5.out.box5 (.slice xa5 P'.fr.length xk5) (.int .i64 P'.a) (.slice xb5 P'.ps.length xl5) (.slice xc5 P'.L.length xm5) (.slice xd5 P'.lv.length xn5) 33)
    obtain ⟨c50, c51, c52, c53, c54⟩ := t5.out.get5 (b := w3.heap.size) (x0 := (.slice xa3 P'.fr.length xk3)) (x1 := (.int .i64 P'.a)) (x2 := (.slice xb3 P'.ps.length xl3)) (x3 := (.slice xc3 P'.L.length xm3)) (x4 := (.slice xd3 P'.lv.length xn3)) (by simp) (by simp) (by simp) (by simp) (by simp)
    go_wp2_with fail
    clear c50 c51 c52 c53 c54 s5
    refine (eq_pool _ _ _ _ _ _ _ _ _ _ _ _ _ P' HG.out (t5.out.at (.head _)).1 (t5.out.at (.tail _ (.tail _ (.head _)))).1 (t5.out.at (.head _)).2.toQ (t5.out.at (.tail _ (.tail _ (.head _)))).2).mono ?_
    rintro e w6 ⟨rfl, b6⟩
    have s6 := hidIt (t5.out.grow b6)
    have z6 := b6.size
    (try simp at z6)
    clear b6 t5
    go_wp2_with fail
    obtain ⟨PP, p0, pd, pg, ps'⟩ := s6.out.pack
    have PD := hidIt pd
    have PG := hidIt pg
    have PS := hidIt ps'
    have PC := hidIt (fun W (h : PP W) => (⟨(ps' W h).get (by simp), (ps' W h).get (by simp), (ps' W h).get (by simp), (ps' W h).get (by simp), (ps' W h).get (by simp), (ps' W h).get (by simp), (ps' W h).get (by simp), (ps' W h).get (by simp), (ps' W h).get (by simp), (ps' W h).get (by simp)⟩ : W.cell? ⟨w.heap.size, 0, none⟩ = some (.slice xaa P.fr.length xka) ∧ W.cell? ⟨w.heap.size, 1, none⟩ = some (.int .i64 P.a) ∧ W.cell? ⟨w.heap.size, 2, none⟩ = some (.slice xba P.ps.length xla) ∧ W.cell? ⟨w.heap.size, 3, none⟩ = some (.slice xca P.L.length xma) ∧ W.cell? ⟨w.heap.size, 4, none⟩ = some (.slice xda P.lv.length xna) ∧ W.cell? ⟨w4.heap.size, 0, none⟩ = some (.slice xa4 P.fr.length xk4) ∧ W.cell? ⟨w4.heap.size, 1, none⟩ = some (.int .i64 P.a) ∧ W.cell? ⟨w4.heap.size, 2, none⟩ = some (.slice xb4 P.ps.length xl4) ∧ W.cell? ⟨w4.heap.size, 3, none⟩ = some (.slice xc4 P.L.length xm4) ∧ W.cell? ⟨w4.heap.size, 4, none⟩ = some (.slice xd4 P.lv.length xn4)))
    have h6 := and_mk PC.out p0
    clear pd pg ps' p0 s6
    go_region_held3 (fun W => PP W ∧ W.cell? ⟨w.heap.size, 0, none⟩ = some (.slice xaa P.fr.length xka) ∧ W.cell? ⟨w.heap.size, 1, none⟩ = some (.int .i64 P.a) ∧ W.cell? ⟨w.heap.size, 2, none⟩ = some (.slice xba P.ps.length xla) ∧ W.cell? ⟨w.heap.size, 3, none⟩ = some (.slice xca P.L.length xma) ∧ W.cell? ⟨w.heap.size, 4, none⟩ = some (.slice xda P.lv.length xna) ∧ W.cell? ⟨w4.heap.size, 0, none⟩ = some (.slice xa4 P.fr.length xk4) ∧ W.cell? ⟨w4.heap.size, 1, none⟩ = some (.int .i64 P.a) ∧ W.cell? ⟨w4.heap.size, 2, none⟩ = some (.slice xb4 P.ps.length xl4) ∧ W.cell? ⟨w4.heap.size, 3, none⟩ = some (.slice xc4 P.L.length xm4) ∧ W.cell? ⟨w4.heap.size, 4, none⟩ = some (.slice xd4 P.lv.length xn4))
      (first | exact and_mk PC.out (PD.out _ (And.left (by assumption))) | exact and_mk PC.out (PG.out _ _ (And.left (by assumption)) (by assumption)))
      (first | (go_at_call 8; refine (to_pool _ _ _ _ _ P HF.out (RI.out.below (PS.out _ (And.left (by assumption))).below)).mono ?_; rintro e wa ⟨fa', pa', la', va', rfl, ra, ba⟩; obtain ⟨xa7, xk7, xb7, xl7, xc7, xm7, xd7, xn7, rfl, rfl, rfl, rfl⟩ := ra.form) | (go_at_call 10; refine (eq_pool _ _ _ _ _ _ _ _ _ _ _ _ _ P HF.out ((PS.out _ (And.left (by assumption))).at (.tail _ (.head _))).1 (Nat.le_refl _) ((PS.out _ (And.left (by assumption))).at (.tail _ (.head _))).2.toQ ra.toQ).mono ?_; rintro e w7 ⟨rfl, b7⟩))
    rename_i h7
    have s7 := hidIt ((PS.out _ h7.1).front1)
    have z7 : w6.heap.size ≤ w7.heap.size := by have := b7.size; have := ba.size; simp at *; omega
    clear PD PG PC PS h6 h7 ra ba b7
    obtain ⟨c70, c71, c72, c73, c74⟩ := s7.out.get5 (b := w4.heap.size) (x0 := (.slice xa4 P.fr.length xk4)) (x1 := (.int .i64 P.a)) (x2 := (.slice xb4 P.ps.length xl4)) (x3 := (.slice xc4 P.L.length xm4)) (x4 := (.slice xd4 P.lv.length xn4)) (by simp) (by simp) (by simp) (by simp) (by simp)
    go_wp2_with fail
    clear c70 c71 c72 c73 c74
    refine (mark_pool _ _ _ _ _ _ _ P 1 HF.out (by omega) (s7.out.at (.head _)).1 (s7.out.at (.head _)).2).mono ?_
    rintro e w8 ⟨rfl, r8, o8⟩
    have s8 := hidIt (s7.out.mark1 o8 (PlM.loc _ _ _ _ _ _ _ _ _ _ _) r8 (by first | omega | (simp; done) | (simp; omega)) (by first | omega | (simp; done) | (simp; omega)) (by first | omega | (simp; done) | (simp; omega)))
    have z8 := o8.size
    clear r8 o8 s7
    obtain ⟨c80, c81, c82, c83, c84⟩ := s8.out.get5 (b := w5.heap.size) (x0 := (.slice xa5 P'.fr.length xk5)) (x1 := (.int .i64 P'.a)) (x2 := (.slice xb5 P'.ps.length xl5)) (x3 := (.slice xc5 P'.L.length xm5)) (x4 := (.slice xd5 P'.lv.length xn5)) (by simp) (by simp) (by simp) (by simp) (by simp)
    obtain ⟨d80, d81, d82, d83, d84⟩ := s8.out.get5 (b := w3.heap.size) (x0 := (.slice xa3 P'.fr.length xk3)) (x1 := (.int .i64 P'.a)) (x2 := (.slice xb3 P'.ps.length xl3)) (x3 := (.slice xc3 P'.L.length xm3)) (x4 := (.slice xd3 P'.lv.length xn3)) (by simp) (by simp) (by simp) (by simp) (by simp)
    go_wp2_with fail
    clear c80 c81 c82 c83 c84 d80 d81 d82 d83 d84
    refine (eq_pool _ _ _ _ _ _ _ _ _ _ _ _ _ P' HG.out (s8.out.at (.tail _ (.head _))).1 (s8.out.at (.tail _ (.tail _ (.head _)))).1 (s8.out.at (.tail _ (.head _))).2.toQ (s8.out.at (.tail _ (.tail _ (.head _)))).2).mono ?_
    rintro e w9x ⟨rfl, b9x⟩
    have s9x := hidIt (s8.out.grow b9x)
    have z9x := b9x.size
    (try simp at z9x)
    clear b9x s8
    have s9 := hidIt s9x.out.front1
    have z9 := z9x
    clear s9x
    obtain ⟨c90, c91, c92, c93, c94⟩ := s9.out.get5 (b := w5.heap.size) (x0 := (.slice xa5 P'.fr.length xk5)) (x1 := (.int .i64 P'.a)) (x2 := (.slice xb5 P'.ps.length xl5)) (x3 := (.slice xc5 P'.L.length xm5)) (x4 := (.slice xd5 P'.lv.length xn5)) (by simp) (by simp) (by simp) (by simp) (by simp)
    go_wp2_with fail
    clear c90 c91 c92 c93 c94
    refine (mark_pool _ _ _ _ _ _ _ P' 1 HG.out (by omega) (s9.out.at (.head _)).1 (s9.out.at (.head _)).2).mono ?_
    rintro e w10 ⟨rfl, r10, o10⟩
    have s10 := hidIt (s9.out.mark1 o10 (PlM.loc _ _ _ _ _ _ _ _ _ _ _) r10 (by first | omega | (simp; done) | (simp; omega)) (by first | omega | (simp; done) | (simp; omega)) (by first | omega | (simp; done) | (simp; omega)))
    have z10 := o10.size
    clear r10 o10 s9
    obtain ⟨e10, e11, e12, e13, e14⟩ := s10.out.get5 (b := w5.heap.size) (x0 := (.slice xa5 P'.fr.length xk5)) (x1 := (.int .i64 P'.a)) (x2 := (.slice xb5 P'.ps.length xl5)) (x3 := (.slice xc5 P'.L.length xm5)) (x4 := (.slice xd5 P'.lv.length xn5)) (by simp) (by simp) (by simp) (by simp) (by simp)
    go_wp2_with fail
    clear e10 e11 e12 e13 e14
    refine (held_pool _ _ _ P'.a _ _ _ _ P'.fr.length P'.ps.length P'.L.length P'.lv.length 1 HG.out (by omega) (s10.out.at (.head _)).1 (s10.out.at (.head _)).2).mono ?_
    rintro e w11 ⟨rfl, b11⟩
    have s11 := hidIt (s10.out.grow b11)
    have z11 := b11.size
    clear b11 s10
    obtain ⟨e20, e21, e22, e23, e24⟩ := s11.out.get5 (b := w.heap.size) (x0 := (.slice xaa P.fr.length xka)) (x1 := (.int .i64 P.a)) (x2 := (.slice xba P.ps.length xla)) (x3 := (.slice xca P.L.length xma)) (x4 := (.slice xda P.lv.length xna)) (by simp) (by simp) (by simp) (by simp) (by simp)
    go_wp2_with fail
    clear e20 e21 e22 e23 e24
    refine (to_pool _ _ _ _ _ P HF.out (RI.out.below s11.out.below)).mono ?_
    rintro e w12 ⟨f12, p12, l12, v12, rfl, r12, b12⟩
    have s12 := hidIt (s11.out.grow b12)
    have R12 := hidIt (r12.toQ.pin (Nat.le_refl _))
    obtain ⟨xa12, xk12, xb12, xl12, xc12, xm12, xd12, xn12, rfl, rfl, rfl, rfl⟩ := r12.form
    have z12 := b12.size
    clear r12 b12 s11
    go_wp2_with fail
    refine (HI.out _ _ _ _ _ R12.out).mono ?_
    rintro e w13 ⟨f13, p13, l13, v13, rfl, r13, b13⟩
    have s13 := hidIt ((s12.out.grow b13).row (Nat.le_refl _) (PlR.loc _ _ _ _ _ _ _) r13)
    obtain ⟨xa13, xk13, xb13, xl13, xc13, xm13, xd13, xn13, rfl, rfl, rfl, rfl⟩ := r13.form
    have z13 := b13.size
    clear r13 b13 s12 R12
    have t13 := hidIt (s13.out.box5 (.slice xa13 P'.fr.length xk13) (.int .i64 P'.a) (.slice xb13 P'.ps.length xl13) (.slice xc13 P'.L.length xm13) (.slice xd13 P'.lv.length xn13) 33)
    obtain ⟨e30, e31, e32, e33, e34⟩ := t13.out.get5 (b := w3.heap.size) (x0 := (.slice xa3 P'.fr.length xk3)) (x1 := (.int .i64 P'.a)) (x2 := (.slice xb3 P'.ps.length xl3)) (x3 := (.slice xc3 P'.L.length xm3)) (x4 := (.slice xd3 P'.lv.length xn3)) (by simp) (by simp) (by simp) (by simp) (by simp)
    go_wp2_with fail
    clear e30 e31 e32 e33 e34 s13
    refine (eq_pool _ _ _ _ _ _ _ _ _ _ _ _ _ P' HG.out (t13.out.at (.head _)).1 (t13.out.at (.tail _ (.tail _ (.tail _ (.head _))))).1 (t13.out.at (.head _)).2.toQ (t13.out.at (.tail _ (.tail _ (.tail _ (.head _))))).2).mono ?_
    rintro e w14 ⟨rfl, b14⟩
    have s14 := hidIt (t13.out.grow b14)
    have z14 := b14.size
    (try simp at z14)
    clear b14 t13
    obtain ⟨e40, e41, e42, e43, e44⟩ := s14.out.get5 (b := w5.heap.size) (x0 := (.slice xa5 P'.fr.length xk5)) (x1 := (.int .i64 P'.a)) (x2 := (.slice xb5 P'.ps.length xl5)) (x3 := (.slice xc5 P'.L.length xm5)) (x4 := (.slice xd5 P'.lv.length xn5)) (by simp) (by simp) (by simp) (by simp) (by simp)
    go_wp2_with fail
    clear e40 e41 e42 e43 e44
    refine (held_pool _ _ _ P'.a _ _ _ _ P'.fr.length P'.ps.length P'.L.length P'.lv.length 1 HG.out (by omega) (s14.out.at (.tail _ (.head _))).1 (s14.out.at (.tail _ (.head _))).2).mono ?_
    rintro e w15 ⟨rfl, b15⟩
    go_wp2
    go_ret
    exact ⟨rfl, (s14.out.grow b15).below⟩
  · go_enter Try.func4, Try.ntmps4
    go_wp2_with fail
    refine (sz_pool P.a _ _ _ _ P.fr.length _ P.ps.length _ P.L.length _ P.lv.length _ _ (by omega) (by omega) (by omega) (by omega)).mono ?_
    rintro e w1 ⟨⟨z, rfl, -, hz⟩, b1⟩
    obtain rfl := hz hs
    go_wp2
    go_ret
    exact ⟨rfl, ((Below.refl _ _).alloc (Nat.le_refl _) _).trans (b1.mono (by simp <;> omega))⟩

end Go.Proofs.Ytdcnakpkmgepgab
