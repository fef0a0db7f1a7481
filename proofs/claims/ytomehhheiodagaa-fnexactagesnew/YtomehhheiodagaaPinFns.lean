/- A handle pinned, a handle that isn't any more: the model's and the program's. -/
import Derived.Test.YtomehhheiodagaaRows
import Derived.WalkKit
import Derived.ProofKit
import Derived.OpenShut
import Derived.ShutString
import Derived.Test.YtomehhheiodagaaSpecAgesOk
import Derived.Test.YtomehhheiodagaaSpecCopy
import Derived.Test.YtomehhheiodagaaCellRow
import Derived.Test.YtomehhheiodagaaAgesFns
namespace Go.Proofs.Ytomehhheiodagaa
open Go.ChangeShapes Go.WideShapes Go.ChangeAt Go.RowKit
set_option linter.unusedVariables false

def setOk (a : Int) (ps : List Int) (L : List (Int × Int)) (h : Int) (pinned : Bool) : Bool := okB a ps L && decide (0 ≤ h ∧ h < (ps.length : Int)) && ((ps.getD h.toNat 0 != -1) == pinned)
def setA (B : Bool) (a : Int) : Int := if B = true then a else 0
def setP (B : Bool) (ps : List Int) (h y : Int) : List Int := if B = true then ps.set h.toNat y else []
def setLm (B : Bool) (L : List (Int × Int)) : List (Int × Int) := if B = true then L else []
theorem AR.put {W : World} {lo hi g c : Nat} {l : Value} {ps : List Int} {L : List (Int × Int)} (h : AR lo hi (.slice (some ⟨g, 0, none⟩) ps.length c) l ps L W) (hz : hi ≤ W.heap.size) (i : Nat) (hi' : i < ps.length) (y : Int) : AR lo hi (.slice (some ⟨g, 0, none⟩) ps.length c) l (ps.set i y) L (W.setCell ⟨g, i, none⟩ (.int .i64 y)) := by
  refine ⟨h.pins.put i hi' y, h.limbo.grown hz (q := some g) ⟨rfl, rfl, rfl, by simp, fun k _ hk => Below.heap_setCell _ _ _ _ (fun e => hk (by rw [e]))⟩ (fun hx k hk e => ?_), by have := h.apart; simpa using this⟩
  cases hk
  exact h.apart (by omega) (ne_nil_pos hx) e.symm
theorem AR.set_out {W : World} {lo hi : Nat} {p l : Value} {ps : List Int} {L : List (Int × Int)} (h : AR lo hi p l ps L W) {b o : Nat} {v : Value} (hb : b < lo ∨ hi ≤ b) : AR lo hi p l ps L (W.setCell ⟨b, o, none⟩ v) :=
  AR.loc lo hi p l ps L W _ h (fun k k1 k2 => Below.heap_setCell _ _ _ _ (by show k ≠ b; omega))
theorem AR.alloc {W : World} {lo hi : Nat} {p l : Value} {ps : List Int} {L : List (Int × Int)} (h : AR lo hi p l ps L W) (hz : hi ≤ W.heap.size) (o : Obj) : AR lo hi p l ps L (W.alloc o) := h.below ((Below.refl _ _).alloc hz o)
/- what a function of epochs answers: epochs of its own, and a word -/
def AAns (A : Int) (PS : List Int) (LS : List (Int × Int)) (B : Bool) (w : World) (e : Ending) (w' : World) : Prop :=
  ∃ p' l', e = .returned (.tuple #[.agg #[.int .i64 A, p', l'], .bool B]) ∧ AR w.heap.size w'.heap.size p' l' PS LS w' ∧ Below w.heap.size w w'
theorem setOk_no1 {a : Int} {ps : List Int} {L : List (Int × Int)} {h : Int} {q : Bool} (e : okB a ps L = false) : setOk a ps L h q = false := by simp [setOk, e]
theorem setOk_no2 {a : Int} {ps : List Int} {L : List (Int × Int)} {h : Int} {q : Bool} (e : ¬ (0 ≤ h ∧ h < (ps.length : Int))) : setOk a ps L h q = false := by simp only [setOk, decide_eq_false e, Bool.and_false, Bool.false_and]
theorem setOk_in {a : Int} {ps : List Int} {L : List (Int × Int)} {i : Nat} {q : Bool} (e : okB a ps L = true) (hi : i < ps.length) : setOk a ps L (i : Int) q = ((ps[i] != -1) == q) := by
  have h1 : decide (0 ≤ (i : Int) ∧ (i : Int) < (ps.length : Int)) = true := decide_eq_true ⟨by omega, by omega⟩
  simp only [setOk, e, h1, Bool.true_and]
  simp [hi]

set_option maxHeartbeats 1600000 in
set_option maxRecDepth 100000 in
theorem spec_set_no0 (w : World) (a : Int) (p l : Value) (ps : List Int) (L : List (Int × Int)) (h y : Int) (q : Bool) (hA : AIn w p l ps L) (hk : setOk a ps L h q = false) :
    Calls Try.prog 43 #[.agg #[.int .i64 a, p, l], .int .i64 h, .bool q, .int .i64 y] w fun e w' => e = .returned (.tuple #[.agg #[.int .i64 0, .slice none 0 0, .slice none 0 0], .bool false]) ∧ Below w.heap.size w w' := by
  have H := hidIt hA
  obtain ⟨pa, pc, la, lc, rfl, rfl, -⟩ := hA.form
  clear hA
  have HK := hidIt hk
  clear hk
  go_enter Try.func43, Try.ntmps43
  go_wp2_with fail
  generalize hW : World.alloc (World.alloc w _) _ = W2
  have bW : Hid (Below w.heap.size w W2) := (by rw [← hW]; exact ((Below.refl w.heap.size w).alloc (Nat.le_refl _) _).alloc (by simp) _ : Below w.heap.size w W2)
  have zW : W2.heap.size = w.heap.size + 2 := by rw [← hW]; simp
  have c1 : W2.cell? ⟨w.heap.size, 1, none⟩ = some (.slice pa ps.length pc) := by rw [← hW]; simp [go_sem]
  have d0 : W2.cell? ⟨w.heap.size + 1, 0, none⟩ = some (.int .i64 0) := by rw [← hW]; simp [go_sem]
  have d1 : W2.cell? ⟨w.heap.size + 1, 1, none⟩ = some (.slice none 0 0) := by rw [← hW]; simp [go_sem]
  have d2 : W2.cell? ⟨w.heap.size + 1, 2, none⟩ = some (.slice none 0 0) := by rw [← hW]; simp [go_sem]
  have f0 : ∀ o, W2.frozen? ⟨w.heap.size + 1, o, none⟩ = false := by rw [← hW]; simp [go_sem]
  clear hW
  refine (spec_agesok W2 a _ _ ps L (H.out.below bW.out)).mono ?_
  rintro e w3 ⟨rfl, b3⟩
  have B3 := hidIt (bW.out.trans (b3.mono (by omega)))
  replace c1 := below_cell b3 (by omega) c1
  replace d0 := below_cell b3 (by omega) d0
  replace d1 := below_cell b3 (by omega) d1
  replace d2 := below_cell b3 (by omega) d2
  replace f0 : ∀ o, w3.frozen? ⟨w.heap.size + 1, o, none⟩ = false := fun o => below_frozen b3 (by omega) (f0 o)
  clear b3
  cases hB : okB a ps L with
  | false =>
    go_wp2
    exact bodyPost_ret (v := .tuple #[.agg #[.int .i64 0, .slice none 0 0, .slice none 0 0], .bool false]) (by simp [results, Try.results43, go_sem, d0, d1, d2]) rfl ⟨rfl, by exact ((B3.out.setCell (by simp) _).setCell (by simp) _).setCell (by simp) _⟩
  | true =>
    by_cases h0 : h < 0
    · go_wp2
      exact bodyPost_ret (v := .tuple #[.agg #[.int .i64 0, .slice none 0 0, .slice none 0 0], .bool false]) (by simp [results, Try.results43, go_sem, d0, d1, d2]) rfl ⟨rfl, by exact ((B3.out.setCell (by simp) _).setCell (by simp) _).setCell (by simp) _⟩
    · by_cases h1 : (ps.length : Int) ≤ h
      · go_wp2
        exact bodyPost_ret (v := .tuple #[.agg #[.int .i64 0, .slice none 0 0, .slice none 0 0], .bool false]) (by simp [results, Try.results43, go_sem, d0, d1, d2]) rfl ⟨rfl, by exact ((B3.out.setCell (by simp) _).setCell (by simp) _).setCell (by simp) _⟩
      · obtain ⟨i, rfl⟩ : ∃ i : Nat, h = i := ⟨h.toNat, by omega⟩
        have hi : i < ps.length := by omega
        have hi' : (i : Int) < (ps.length : Int) := by omega
        obtain ⟨pa', pc', hv, hp⟩ := H.out.pins.below B3.out
        simp at hv
        obtain ⟨rfl, rfl⟩ := hv
        rcases hp with hp | ⟨b, off, rfl, hb, hp⟩
        · rw [hp] at hi; simp at hi
        have c3 := hp i hi
        have HZ := hidIt (setOk_in (q := q) hB hi)
        have HK2 := hidIt (HZ.out.symm.trans HK.out)
        clear hp h0 h1 HZ HK
        generalize ps[i] = z at c3 HK2
        by_cases hz : z = -1
        · subst hz
          obtain rfl : q = true := by have := HK2.out; simpa using this
          go_wp2
          exact bodyPost_ret (v := .tuple #[.agg #[.int .i64 0, .slice none 0 0, .slice none 0 0], .bool false]) (by simp [results, Try.results43, go_sem, d0, d1, d2]) rfl ⟨rfl, by exact ((B3.out.setCell (by simp) _).setCell (by simp) _).setCell (by simp) _⟩
        · have hz2 : (z != -1) = true := by simpa using hz
          obtain rfl : q = false := by
            have := HK2.out
            rw [hz2] at this
            cases q with
            | false => rfl
            | true => simp at this
          clear hz
          go_wp2
          exact bodyPost_ret (v := .tuple #[.agg #[.int .i64 0, .slice none 0 0, .slice none 0 0], .bool false]) (by simp [results, Try.results43, go_sem, d0, d1, d2]) rfl ⟨rfl, by exact ((B3.out.setCell (by simp) _).setCell (by simp) _).setCell (by simp) _⟩

set_option maxHeartbeats 1600000 in
set_option maxRecDepth 100000 in
theorem spec_set_yes0 (w : World) (a : Int) (p l : Value) (ps : List Int) (L : List (Int × Int)) (i : Nat) (y : Int) (q : Bool) (hA : AIn w p l ps L) (hB : okB a ps L = true) (hi : i < ps.length) (hq : ((ps[i] != -1) == q) = true) :
    Calls Try.prog 43 #[.agg #[.int .i64 a, p, l], .int .i64 (i : Int), .bool q, .int .i64 y] w (AAns a (ps.set i y) L true w) := by
  obtain ⟨a0, a1, n1, n8, m1, -, -⟩ := okB_len hB
  have H := hidIt hA
  obtain ⟨pa, pc, la, lc, rfl, rfl, -⟩ := hA.form
  clear hA
  have hi' : (i : Int) < (ps.length : Int) := by omega
  go_enter Try.func43, Try.ntmps43
  go_wp2_with fail
  generalize hW : World.alloc (World.alloc w _) _ = W2
  have bW : Hid (Below w.heap.size w W2) := (by rw [← hW]; exact ((Below.refl w.heap.size w).alloc (Nat.le_refl _) _).alloc (by simp) _ : Below w.heap.size w W2)
  have zW : W2.heap.size = w.heap.size + 2 := by rw [← hW]; simp
  have c0 : W2.cell? ⟨w.heap.size, 0, none⟩ = some (.int .i64 a) := by rw [← hW]; simp [go_sem]
  have c1 : W2.cell? ⟨w.heap.size, 1, none⟩ = some (.slice pa ps.length pc) := by rw [← hW]; simp [go_sem]
  have c2 : W2.cell? ⟨w.heap.size, 2, none⟩ = some (.slice la L.length lc) := by rw [← hW]; simp [go_sem]
  have d0 : W2.cell? ⟨w.heap.size + 1, 0, none⟩ = some (.int .i64 0) := by rw [← hW]; simp [go_sem]
  have d1 : W2.cell? ⟨w.heap.size + 1, 1, none⟩ = some (.slice none 0 0) := by rw [← hW]; simp [go_sem]
  have d2 : W2.cell? ⟨w.heap.size + 1, 2, none⟩ = some (.slice none 0 0) := by rw [← hW]; simp [go_sem]
  have f0 : ∀ o, W2.frozen? ⟨w.heap.size + 1, o, none⟩ = false := by rw [← hW]; simp [go_sem]
  clear hW
  refine (spec_agesok W2 a _ _ ps L (H.out.below bW.out)).mono ?_
  rintro e w3 ⟨rfl, b3⟩
  have z3 := b3.size
  have B3 := hidIt (bW.out.trans (b3.mono (by omega)))
  replace c0 := below_cell b3 (by omega) c0
  replace c1 := below_cell b3 (by omega) c1
  replace c2 := below_cell b3 (by omega) c2
  replace d0 := below_cell b3 (by omega) d0
  replace d1 := below_cell b3 (by omega) d1
  replace d2 := below_cell b3 (by omega) d2
  replace f0 : ∀ o, w3.frozen? ⟨w.heap.size + 1, o, none⟩ = false := fun o => below_frozen b3 (by omega) (f0 o)
  clear b3
  rw [hB]
  obtain ⟨pa', pc', hv, hp⟩ := H.out.pins.below B3.out
  simp at hv
  obtain ⟨rfl, rfl⟩ := hv
  rcases hp with hp | ⟨b, off, rfl, hb, hp⟩
  · rw [hp] at hi; simp at hi
  have c3 := hp i hi
  have HI := hidIt hi
  have HQ := hidIt hq
  clear hp hq
  generalize ps[i] = z at c3 HQ
  have key : (z = -1 ∧ q = false) ∨ ((z != -1) = true ∧ q = true) := by
    have := HQ.out
    by_cases hz : z = -1
    · left
      refine ⟨hz, ?_⟩
      rw [hz] at this
      cases q with
      | false => rfl
      | true => simp at this
    · right
      have e : (z != -1) = true := by simpa using hz
      refine ⟨e, ?_⟩
      rw [e] at this
      cases q with
      | true => rfl
      | false => simp at this
  clear hi
  have HR := hidIt (H.out.below B3.out)
  have fin : ∀ (x : Int), z = x → True := fun _ _ => trivial
  clear fin
  rcases key with ⟨rfl, rfl⟩ | ⟨hz, rfl⟩
  all_goals
    go_wp2_with fail
    refine (spec_copyages w3 a _ _ ps L (by omega) (by omega) (by omega) HR.out).mono ?_
    rintro e w4 ⟨p4, l4, rfl, ao, b4⟩
    have z4 := b4.size
    have A4 := hidIt ao.ar
    have B4 := hidIt (B3.out.trans (b4.mono (by omega)))
    replace d0 := below_cell b4 (by omega) d0
    replace d1 := below_cell b4 (by omega) d1
    replace d2 := below_cell b4 (by omega) d2
    replace f0 : ∀ o, w4.frozen? ⟨w.heap.size + 1, o, none⟩ = false := fun o => below_frozen b4 (by omega) (f0 o)
    obtain ⟨g, k4, rfl, g1, g2, e3, e4⟩ := A4.out.pins.ofSome (by omega)
    obtain ⟨b4', k4', rfl, -⟩ := A4.out.limbo.form
    have e5 := e3 i HI.out
    have e6 := e4 i
    have hlt1 : w.heap.size + 1 < w4.heap.size := by omega
    have hne1 : g ≠ w.heap.size + 1 := by omega
    clear ao b4 c0 c1 c2 c3 e3 e4
    go_wp2
    refine bodyPost_ret (v := .tuple #[.agg #[.int .i64 a, .slice (some ⟨g, 0, none⟩) ps.length k4, .slice b4' L.length k4'], .bool true]) (by simp [results, Try.results43, go_sem, d0, d1, d2, hlt1]) rfl ⟨_, _, rfl, ?_, ?_⟩
    · exact (((((A4.out.put (Nat.le_refl _) i HI.out y).set_out (.inl (by omega))).set_out (.inl (by omega))).set_out (.inl (by omega))).alloc (by simp) _).wide (by omega) (by simp)
    · exact ((((B4.out.setCell (p := ⟨g, i, none⟩) (by show w.heap.size ≤ g; omega) _).setCell (by simp) _).setCell (by simp) _).setCell (by simp) _).alloc (by simp; omega) _

theorem setOk_true {a : Int} {ps : List Int} {L : List (Int × Int)} {h : Int} {q : Bool} (e : setOk a ps L h q = true) : okB a ps L = true ∧ ∃ (i : Nat) (hi : i < ps.length), h = i ∧ ((ps[i] != -1) == q) = true := by
  have h1 : okB a ps L = true := by
    cases hB : okB a ps L with
    | true => rfl
    | false => rw [setOk_no1 hB] at e; cases e
  have h2 : 0 ≤ h ∧ h < (ps.length : Int) := by
    by_cases hc : 0 ≤ h ∧ h < (ps.length : Int)
    · exact hc
    · rw [setOk_no2 hc] at e; cases e
  obtain ⟨i, rfl⟩ : ∃ i : Nat, h = i := ⟨h.toNat, by omega⟩
  have hi : i < ps.length := by omega
  exact ⟨h1, i, hi, rfl, by rw [← setOk_in (L := L) h1 hi]; exact e⟩
theorem AAns.none {w w' : World} {e : Ending} (h : e = .returned (.tuple #[.agg #[.int .i64 0, .slice none 0 0, .slice none 0 0], .bool false]) ∧ Below w.heap.size w w') : AAns 0 [] [] false w e w' := ⟨_, _, h.1, AR.nil _ _ _, h.2⟩
theorem spec_setf (w : World) (a : Int) (p l : Value) (ps : List Int) (L : List (Int × Int)) (h y : Int) (q : Bool) (hA : AIn w p l ps L) :
    Calls Try.prog 43 #[.agg #[.int .i64 a, p, l], .int .i64 h, .bool q, .int .i64 y] w (AAns (setA (setOk a ps L h q) a) (setP (setOk a ps L h q) ps h y) (setLm (setOk a ps L h q) L) (setOk a ps L h q) w) := by
  cases hB : setOk a ps L h q with
  | false => exact (spec_set_no0 w a p l ps L h y q hA hB).mono fun _ _ k => AAns.none k
  | true =>
    obtain ⟨h1, i, hi, rfl, h2⟩ := setOk_true hB
    exact spec_set_yes0 w a p l ps L i y q hA h1 hi h2

theorem impl_hashandle (w : World) (a : Int) (pa la : Option Addr) (n c m d : Nat) (h : Int) :
    Calls Try.prog 44 #[.agg #[.int .i64 a, .slice pa n c, .slice la m d], .int .i64 h] w fun e w' => e = .returned (.bool (decide (0 ≤ h ∧ h < (n : Int)))) ∧ Below w.heap.size w w' := by
  by_cases h0 : 0 ≤ h
  · by_cases h1 : h < (n : Int)
    · have e : decide (0 ≤ h ∧ h < (n : Int)) = true := decide_eq_true ⟨h0, h1⟩
      rw [e]
      go_enter Try.func44, Try.ntmps44
      go_wp2
      go_ret
      exact ⟨rfl, (Below.refl w.heap.size w).alloc (Nat.le_refl _) _⟩
    · have e : decide (0 ≤ h ∧ h < (n : Int)) = false := decide_eq_false (by omega)
      rw [e]
      go_enter Try.func44, Try.ntmps44
      go_wp2
      go_ret
      exact ⟨rfl, (Below.refl w.heap.size w).alloc (Nat.le_refl _) _⟩
  · have e : decide (0 ≤ h ∧ h < (n : Int)) = false := decide_eq_false (by omega)
    rw [e]
    go_enter Try.func44, Try.ntmps44
    go_wp2
    go_ret
    exact ⟨rfl, (Below.refl w.heap.size w).alloc (Nat.le_refl _) _⟩

set_option maxRecDepth 100000 in
theorem spec_pin (w : World) (a : Int) (p l : Value) (ps : List Int) (L : List (Int × Int)) (h : Int) (hA : AIn w p l ps L) :
    Calls Try.prog 18 #[.agg #[.int .i64 a, p, l], .int .i64 h] w (AAns (setA (setOk a ps L h false) a) (setP (setOk a ps L h false) ps h a) (setLm (setOk a ps L h false) L) (setOk a ps L h false) w) := by
  have H := hidIt hA
  obtain ⟨pa, pc, la, lc, rfl, rfl, -⟩ := hA.form
  clear hA
  have HS := hidIt (fun W hA => spec_setf W a (.slice pa ps.length pc) (.slice la L.length lc) ps L h a false hA)
  generalize setA (setOk a ps L h false) a = A' at HS
  generalize setP (setOk a ps L h false) ps h a = P' at HS
  generalize setLm (setOk a ps L h false) L = L' at HS
  generalize setOk a ps L h false = B' at HS
  go_enter Try.func18, Try.ntmps18
  go_wp2_with fail
  generalize hW : World.alloc (World.alloc w _) _ = W2
  have bW : Hid (Below w.heap.size w W2) := (by rw [← hW]; exact ((Below.refl w.heap.size w).alloc (Nat.le_refl _) _).alloc (by simp) _ : Below w.heap.size w W2)
  have zW : W2.heap.size = w.heap.size + 2 := by rw [← hW]; simp
  have c0 : W2.cell? ⟨w.heap.size, 0, none⟩ = some (.int .i64 a) := by rw [← hW]; simp [go_sem]
  have c1 : W2.cell? ⟨w.heap.size, 1, none⟩ = some (.slice pa ps.length pc) := by rw [← hW]; simp [go_sem]
  have c2 : W2.cell? ⟨w.heap.size, 2, none⟩ = some (.slice la L.length lc) := by rw [← hW]; simp [go_sem]
  have d0 : W2.cell? ⟨w.heap.size + 1, 0, none⟩ = some (.int .i64 0) := by rw [← hW]; simp [go_sem]
  have d1 : W2.cell? ⟨w.heap.size + 1, 1, none⟩ = some (.slice none 0 0) := by rw [← hW]; simp [go_sem]
  have d2 : W2.cell? ⟨w.heap.size + 1, 2, none⟩ = some (.slice none 0 0) := by rw [← hW]; simp [go_sem]
  have f0 : ∀ o, W2.frozen? ⟨w.heap.size + 1, o, none⟩ = false := by rw [← hW]; simp [go_sem]
  clear hW
  refine (HS.out W2 (H.out.below bW.out)).mono ?_
  rintro e w3 ⟨p3, l3, rfl, r3, b3⟩
  have z3 := b3.size
  have R3 := hidIt r3
  obtain ⟨x3, k3, y3, j3, rfl, rfl, -⟩ := r3.form
  have B3 := hidIt (bW.out.trans (b3.mono (by omega)))
  replace c0 := below_cell b3 (by omega) c0
  replace c1 := below_cell b3 (by omega) c1
  replace c2 := below_cell b3 (by omega) c2
  replace d0 := below_cell b3 (by omega) d0
  replace d1 := below_cell b3 (by omega) d1
  replace d2 := below_cell b3 (by omega) d2
  replace f0 : ∀ o, w3.frozen? ⟨w.heap.size + 1, o, none⟩ = false := fun o => below_frozen b3 (by omega) (f0 o)
  clear r3 b3 c0 c1 c2
  go_wp2
  refine bodyPost_ret (v := .tuple #[.agg #[.int .i64 A', .slice x3 P'.length k3, .slice y3 L'.length j3], .bool B']) (by simp [results, Try.results18, go_sem, d0, d1, d2]) rfl ⟨_, _, rfl, ?_, ?_⟩
  · exact (((R3.out.set_out (.inl (by omega))).set_out (.inl (by omega))).set_out (.inl (by omega))).wide (by omega) (by simp)
  · exact ((B3.out.setCell (by simp) _).setCell (by simp) _).setCell (by simp) _

set_option maxRecDepth 100000 in
theorem spec_unpin (w : World) (a : Int) (p l : Value) (ps : List Int) (L : List (Int × Int)) (h : Int) (hA : AIn w p l ps L) :
    Calls Try.prog 20 #[.agg #[.int .i64 a, p, l], .int .i64 h] w (AAns (setA (setOk a ps L h true) a) (setP (setOk a ps L h true) ps h (-1)) (setLm (setOk a ps L h true) L) (setOk a ps L h true) w) := by
  have H := hidIt hA
  obtain ⟨pa, pc, la, lc, rfl, rfl, -⟩ := hA.form
  clear hA
  have HS := hidIt (fun W hA => spec_setf W a (.slice pa ps.length pc) (.slice la L.length lc) ps L h (-1) true hA)
  generalize setA (setOk a ps L h true) a = A' at HS
  generalize setP (setOk a ps L h true) ps h (-1) = P' at HS
  generalize setLm (setOk a ps L h true) L = L' at HS
  generalize setOk a ps L h true = B' at HS
  go_enter Try.func20, Try.ntmps20
  go_wp2_with fail
  generalize hW : World.alloc (World.alloc w _) _ = W2
  have bW : Hid (Below w.heap.size w W2) := (by rw [← hW]; exact ((Below.refl w.heap.size w).alloc (Nat.le_refl _) _).alloc (by simp) _ : Below w.heap.size w W2)
  have zW : W2.heap.size = w.heap.size + 2 := by rw [← hW]; simp
  have c0 : W2.cell? ⟨w.heap.size, 0, none⟩ = some (.int .i64 a) := by rw [← hW]; simp [go_sem]
  have c1 : W2.cell? ⟨w.heap.size, 1, none⟩ = some (.slice pa ps.length pc) := by rw [← hW]; simp [go_sem]
  have c2 : W2.cell? ⟨w.heap.size, 2, none⟩ = some (.slice la L.length lc) := by rw [← hW]; simp [go_sem]
  have d0 : W2.cell? ⟨w.heap.size + 1, 0, none⟩ = some (.int .i64 0) := by rw [← hW]; simp [go_sem]
  have d1 : W2.cell? ⟨w.heap.size + 1, 1, none⟩ = some (.slice none 0 0) := by rw [← hW]; simp [go_sem]
  have d2 : W2.cell? ⟨w.heap.size + 1, 2, none⟩ = some (.slice none 0 0) := by rw [← hW]; simp [go_sem]
  have f0 : ∀ o, W2.frozen? ⟨w.heap.size + 1, o, none⟩ = false := by rw [← hW]; simp [go_sem]
  clear hW
  refine (HS.out W2 (H.out.below bW.out)).mono ?_
  rintro e w3 ⟨p3, l3, rfl, r3, b3⟩
  have z3 := b3.size
  have R3 := hidIt r3
  obtain ⟨x3, k3, y3, j3, rfl, rfl, -⟩ := r3.form
  have B3 := hidIt (bW.out.trans (b3.mono (by omega)))
  replace c0 := below_cell b3 (by omega) c0
  replace c1 := below_cell b3 (by omega) c1
  replace c2 := below_cell b3 (by omega) c2
  replace d0 := below_cell b3 (by omega) d0
  replace d1 := below_cell b3 (by omega) d1
  replace d2 := below_cell b3 (by omega) d2
  replace f0 : ∀ o, w3.frozen? ⟨w.heap.size + 1, o, none⟩ = false := fun o => below_frozen b3 (by omega) (f0 o)
  clear r3 b3 c0 c1 c2
  go_wp2
  refine bodyPost_ret (v := .tuple #[.agg #[.int .i64 A', .slice x3 P'.length k3, .slice y3 L'.length j3], .bool B']) (by simp [results, Try.results20, go_sem, d0, d1, d2]) rfl ⟨_, _, rfl, ?_, ?_⟩
  · exact (((R3.out.set_out (.inl (by omega))).set_out (.inl (by omega))).set_out (.inl (by omega))).wide (by omega) (by simp)
  · exact ((B3.out.setCell (by simp) _).setCell (by simp) _).setCell (by simp) _

set_option maxHeartbeats 1600000 in
set_option maxRecDepth 100000 in
theorem impl_pin_no (w : World) (a : Int) (p l : Value) (ps : List Int) (L : List (Int × Int)) (h : Int) (hA : AIn w p l ps L) (hk : setOk a ps L h false = false) :
    Calls Try.prog 19 #[.agg #[.int .i64 a, p, l], .int .i64 h] w fun e w' => e = .returned (.tuple #[.agg #[.int .i64 0, .slice none 0 0, .slice none 0 0], .bool false]) ∧ Below w.heap.size w w' := by
  have H := hidIt hA
  obtain ⟨pa, pc, la, lc, rfl, rfl, -⟩ := hA.form
  clear hA
  have HK := hidIt hk
  clear hk
  go_enter Try.func19, Try.ntmps19
  go_wp2_with fail
  generalize hW : World.alloc (World.alloc w _) _ = W2
  have bW : Hid (Below w.heap.size w W2) := (by rw [← hW]; exact ((Below.refl w.heap.size w).alloc (Nat.le_refl _) _).alloc (by simp) _ : Below w.heap.size w W2)
  have zW : W2.heap.size = w.heap.size + 2 := by rw [← hW]; simp
  have c0 : W2.cell? ⟨w.heap.size, 0, none⟩ = some (.int .i64 a) := by rw [← hW]; simp [go_sem]
  have c1 : W2.cell? ⟨w.heap.size, 1, none⟩ = some (.slice pa ps.length pc) := by rw [← hW]; simp [go_sem]
  have c2 : W2.cell? ⟨w.heap.size, 2, none⟩ = some (.slice la L.length lc) := by rw [← hW]; simp [go_sem]
  have d0 : W2.cell? ⟨w.heap.size + 1, 0, none⟩ = some (.int .i64 0) := by rw [← hW]; simp [go_sem]
  have d1 : W2.cell? ⟨w.heap.size + 1, 1, none⟩ = some (.slice none 0 0) := by rw [← hW]; simp [go_sem]
  have d2 : W2.cell? ⟨w.heap.size + 1, 2, none⟩ = some (.slice none 0 0) := by rw [← hW]; simp [go_sem]
  have f0 : ∀ o, W2.frozen? ⟨w.heap.size + 1, o, none⟩ = false := by rw [← hW]; simp [go_sem]
  clear hW
  refine (impl_agesok W2 a _ _ ps L (H.out.below bW.out)).mono ?_
  rintro e w3 ⟨rfl, b3⟩
  have z3 := b3.size
  have B3 := hidIt (bW.out.trans (b3.mono (by omega)))
  replace c0 := below_cell b3 (by omega) c0
  replace c1 := below_cell b3 (by omega) c1
  replace c2 := below_cell b3 (by omega) c2
  replace d0 := below_cell b3 (by omega) d0
  replace d1 := below_cell b3 (by omega) d1
  replace d2 := below_cell b3 (by omega) d2
  replace f0 : ∀ o, w3.frozen? ⟨w.heap.size + 1, o, none⟩ = false := fun o => below_frozen b3 (by omega) (f0 o)
  clear b3
  cases hB : okB a ps L with
  | false =>
    go_wp2
    exact bodyPost_ret (v := .tuple #[.agg #[.int .i64 0, .slice none 0 0, .slice none 0 0], .bool false]) (by simp [results, Try.results19, go_sem, d0, d1, d2]) rfl ⟨rfl, by exact ((B3.out.setCell (by simp) _).setCell (by simp) _).setCell (by simp) _⟩
  | true =>
    go_wp2_with fail
    refine (impl_hashandle w3 a pa la ps.length pc L.length lc h).mono ?_
    rintro e w4 ⟨rfl, b4⟩
    have z4 := b4.size
    have B4 := hidIt (B3.out.trans (b4.mono (by omega)))
    replace c0 := below_cell b4 (by omega) c0
    replace c1 := below_cell b4 (by omega) c1
    replace c2 := below_cell b4 (by omega) c2
    replace d0 := below_cell b4 (by omega) d0
    replace d1 := below_cell b4 (by omega) d1
    replace d2 := below_cell b4 (by omega) d2
    replace f0 : ∀ o, w4.frozen? ⟨w.heap.size + 1, o, none⟩ = false := fun o => below_frozen b4 (by omega) (f0 o)
    clear b4
    by_cases h0 : 0 ≤ h ∧ h < (ps.length : Int)
    · rw [decide_eq_true h0]
      obtain ⟨i, rfl⟩ : ∃ i : Nat, h = i := ⟨h.toNat, by omega⟩
      have hi : i < ps.length := by omega
      have hi' : (i : Int) < (ps.length : Int) := by omega
      obtain ⟨pa', pc', hv, hp⟩ := H.out.pins.below B4.out
      simp at hv
      obtain ⟨rfl, rfl⟩ := hv
      rcases hp with hp | ⟨b, off, rfl, hb, hp⟩
      · rw [hp] at hi; simp at hi
      have c3 := hp i hi
      have HK2 := hidIt ((setOk_in (q := false) hB hi).symm.trans HK.out)
      clear hp h0 HK
      generalize ps[i] = z at c3 HK2
      have hz : ¬ z = -1 := by
        intro e
        have := HK2.out
        rw [e] at this
        simp at this
      have hz2 : (z != -1) = true := by simpa using hz
      clear hz
      go_wp2
      exact bodyPost_ret (v := .tuple #[.agg #[.int .i64 0, .slice none 0 0, .slice none 0 0], .bool false]) (by simp [results, Try.results19, go_sem, d0, d1, d2]) rfl ⟨rfl, by exact ((B4.out.setCell (by simp) _).setCell (by simp) _).setCell (by simp) _⟩
    · rw [decide_eq_false h0]
      clear h0
      go_wp2
      exact bodyPost_ret (v := .tuple #[.agg #[.int .i64 0, .slice none 0 0, .slice none 0 0], .bool false]) (by simp [results, Try.results19, go_sem, d0, d1, d2]) rfl ⟨rfl, by exact ((B4.out.setCell (by simp) _).setCell (by simp) _).setCell (by simp) _⟩

set_option maxHeartbeats 1600000 in
set_option maxRecDepth 100000 in
theorem impl_pin_yes (w : World) (a : Int) (p l : Value) (ps : List Int) (L : List (Int × Int)) (i : Nat) (hA : AIn w p l ps L) (hB : okB a ps L = true) (hi : i < ps.length) (hq : ((ps[i] != -1) == false) = true) :
    Calls Try.prog 19 #[.agg #[.int .i64 a, p, l], .int .i64 (i : Int)] w (AAns a (ps.set i a) L true w) := by
  obtain ⟨a0, a1, n1, n8, m1, -, -⟩ := okB_len hB
  have H := hidIt hA
  obtain ⟨pa, pc, la, lc, rfl, rfl, -⟩ := hA.form
  clear hA
  have hi' : (i : Int) < (ps.length : Int) := by omega
  have hd : decide (0 ≤ (i : Int) ∧ (i : Int) < (ps.length : Int)) = true := decide_eq_true ⟨by omega, hi'⟩
  go_enter Try.func19, Try.ntmps19
  go_wp2_with fail
  generalize hW : World.alloc (World.alloc w _) _ = W2
  have bW : Hid (Below w.heap.size w W2) := (by rw [← hW]; exact ((Below.refl w.heap.size w).alloc (Nat.le_refl _) _).alloc (by simp) _ : Below w.heap.size w W2)
  have zW : W2.heap.size = w.heap.size + 2 := by rw [← hW]; simp
  have c0 : W2.cell? ⟨w.heap.size, 0, none⟩ = some (.int .i64 a) := by rw [← hW]; simp [go_sem]
  have c1 : W2.cell? ⟨w.heap.size, 1, none⟩ = some (.slice pa ps.length pc) := by rw [← hW]; simp [go_sem]
  have c2 : W2.cell? ⟨w.heap.size, 2, none⟩ = some (.slice la L.length lc) := by rw [← hW]; simp [go_sem]
  have d0 : W2.cell? ⟨w.heap.size + 1, 0, none⟩ = some (.int .i64 0) := by rw [← hW]; simp [go_sem]
  have d1 : W2.cell? ⟨w.heap.size + 1, 1, none⟩ = some (.slice none 0 0) := by rw [← hW]; simp [go_sem]
  have d2 : W2.cell? ⟨w.heap.size + 1, 2, none⟩ = some (.slice none 0 0) := by rw [← hW]; simp [go_sem]
  have f0 : ∀ o, W2.frozen? ⟨w.heap.size + 1, o, none⟩ = false := by rw [← hW]; simp [go_sem]
  clear hW
  refine (impl_agesok W2 a _ _ ps L (H.out.below bW.out)).mono ?_
  rintro e w3 ⟨rfl, b3⟩
  have z3 := b3.size
  have B3 := hidIt (bW.out.trans (b3.mono (by omega)))
  replace c0 := below_cell b3 (by omega) c0
  replace c1 := below_cell b3 (by omega) c1
  replace c2 := below_cell b3 (by omega) c2
  replace d0 := below_cell b3 (by omega) d0
  replace d1 := below_cell b3 (by omega) d1
  replace d2 := below_cell b3 (by omega) d2
  replace f0 : ∀ o, w3.frozen? ⟨w.heap.size + 1, o, none⟩ = false := fun o => below_frozen b3 (by omega) (f0 o)
  clear b3
  rw [hB]
  go_wp2_with fail
  refine (impl_hashandle w3 a pa la ps.length pc L.length lc i).mono ?_
  rintro e w4 ⟨rfl, b4⟩
  have z4 := b4.size
  have B4 := hidIt (B3.out.trans (b4.mono (by omega)))
  replace c0 := below_cell b4 (by omega) c0
  replace c1 := below_cell b4 (by omega) c1
  replace c2 := below_cell b4 (by omega) c2
  replace d0 := below_cell b4 (by omega) d0
  replace d1 := below_cell b4 (by omega) d1
  replace d2 := below_cell b4 (by omega) d2
  replace f0 : ∀ o, w4.frozen? ⟨w.heap.size + 1, o, none⟩ = false := fun o => below_frozen b4 (by omega) (f0 o)
  clear b4
  rw [hd]
  obtain ⟨pa', pc', hv, hp⟩ := H.out.pins.below B4.out
  simp at hv
  obtain ⟨rfl, rfl⟩ := hv
  rcases hp with hp | ⟨b, off, rfl, hb, hp⟩
  · rw [hp] at hi; simp at hi
  have c3 := hp i hi
  have HI := hidIt hi
  have HQ := hidIt hq
  clear hp hq hd
  generalize ps[i] = z at c3 HQ
  obtain rfl : z = -1 := by
    by_cases e : z = -1
    · exact e
    · have e2 : (z != -1) = true := by simpa using e
      have := HQ.out
      rw [e2] at this
      simp at this
  clear hi
  have HR := hidIt (H.out.below B4.out)
  go_wp2_with fail
  refine (impl_copyages w4 a _ _ ps L (by omega) (by omega) HR.out).mono ?_
  rintro e w5 ⟨p5, l5, rfl, ao, b5⟩
  have z5 := b5.size
  have A5 := hidIt ao.ar
  have B5 := hidIt (B4.out.trans (b5.mono (by omega)))
  replace c0 := below_cell b5 (by omega) c0
  replace d0 := below_cell b5 (by omega) d0
  replace d1 := below_cell b5 (by omega) d1
  replace d2 := below_cell b5 (by omega) d2
  replace f0 : ∀ o, w5.frozen? ⟨w.heap.size + 1, o, none⟩ = false := fun o => below_frozen b5 (by omega) (f0 o)
  obtain ⟨g, k5, rfl, g1, g2, e3, e4⟩ := A5.out.pins.ofSome (by omega)
  obtain ⟨b5', k5', rfl, -⟩ := A5.out.limbo.form
  have e5 := e3 i HI.out
  have e6 := e4 i
  have hlt0 : w.heap.size < w5.heap.size := by omega
  have hlt1 : w.heap.size + 1 < w5.heap.size := by omega
  have hne1 : g ≠ w.heap.size + 1 := by omega
  clear ao b5 c1 c2 c3 e3 e4
  go_wp2
  refine bodyPost_ret (v := .tuple #[.agg #[.int .i64 a, .slice (some ⟨g, 0, none⟩) ps.length k5, .slice b5' L.length k5'], .bool true]) (by simp [results, Try.results19, go_sem, d0, d1, d2, hlt1]) rfl ⟨_, _, rfl, ?_, ?_⟩
  · exact (((((A5.out.put (Nat.le_refl _) i HI.out a).set_out (.inl (by omega))).set_out (.inl (by omega))).set_out (.inl (by omega))).alloc (by simp) _).wide (by omega) (by simp)
  · exact ((((B5.out.setCell (p := ⟨g, i, none⟩) (by show w.heap.size ≤ g; omega) _).setCell (by simp) _).setCell (by simp) _).setCell (by simp) _).alloc (by simp; omega) _
theorem impl_pin (w : World) (a : Int) (p l : Value) (ps : List Int) (L : List (Int × Int)) (h : Int) (hA : AIn w p l ps L) :
    Calls Try.prog 19 #[.agg #[.int .i64 a, p, l], .int .i64 h] w (AAns (setA (setOk a ps L h false) a) (setP (setOk a ps L h false) ps h a) (setLm (setOk a ps L h false) L) (setOk a ps L h false) w) := by
  cases hB : setOk a ps L h false with
  | false => exact (impl_pin_no w a p l ps L h hA hB).mono fun _ _ k => AAns.none k
  | true =>
    obtain ⟨h1, i, hi, rfl, h2⟩ := setOk_true hB
    exact impl_pin_yes w a p l ps L i hA h1 hi h2

set_option maxHeartbeats 1600000 in
set_option maxRecDepth 100000 in
theorem impl_unpin_no (w : World) (a : Int) (p l : Value) (ps : List Int) (L : List (Int × Int)) (h : Int) (hA : AIn w p l ps L) (hk : setOk a ps L h true = false) :
    Calls Try.prog 21 #[.agg #[.int .i64 a, p, l], .int .i64 h] w fun e w' => e = .returned (.tuple #[.agg #[.int .i64 0, .slice none 0 0, .slice none 0 0], .bool false]) ∧ Below w.heap.size w w' := by
  have H := hidIt hA
  obtain ⟨pa, pc, la, lc, rfl, rfl, -⟩ := hA.form
  clear hA
  have HK := hidIt hk
  clear hk
  go_enter Try.func21, Try.ntmps21
  go_wp2_with fail
  generalize hW : World.alloc (World.alloc w _) _ = W2
  have bW : Hid (Below w.heap.size w W2) := (by rw [← hW]; exact ((Below.refl w.heap.size w).alloc (Nat.le_refl _) _).alloc (by simp) _ : Below w.heap.size w W2)
  have zW : W2.heap.size = w.heap.size + 2 := by rw [← hW]; simp
  have c0 : W2.cell? ⟨w.heap.size, 0, none⟩ = some (.int .i64 a) := by rw [← hW]; simp [go_sem]
  have c1 : W2.cell? ⟨w.heap.size, 1, none⟩ = some (.slice pa ps.length pc) := by rw [← hW]; simp [go_sem]
  have c2 : W2.cell? ⟨w.heap.size, 2, none⟩ = some (.slice la L.length lc) := by rw [← hW]; simp [go_sem]
  have d0 : W2.cell? ⟨w.heap.size + 1, 0, none⟩ = some (.int .i64 0) := by rw [← hW]; simp [go_sem]
  have d1 : W2.cell? ⟨w.heap.size + 1, 1, none⟩ = some (.slice none 0 0) := by rw [← hW]; simp [go_sem]
  have d2 : W2.cell? ⟨w.heap.size + 1, 2, none⟩ = some (.slice none 0 0) := by rw [← hW]; simp [go_sem]
  have f0 : ∀ o, W2.frozen? ⟨w.heap.size + 1, o, none⟩ = false := by rw [← hW]; simp [go_sem]
  clear hW
  refine (impl_agesok W2 a _ _ ps L (H.out.below bW.out)).mono ?_
  rintro e w3 ⟨rfl, b3⟩
  have z3 := b3.size
  have B3 := hidIt (bW.out.trans (b3.mono (by omega)))
  replace c0 := below_cell b3 (by omega) c0
  replace c1 := below_cell b3 (by omega) c1
  replace c2 := below_cell b3 (by omega) c2
  replace d0 := below_cell b3 (by omega) d0
  replace d1 := below_cell b3 (by omega) d1
  replace d2 := below_cell b3 (by omega) d2
  replace f0 : ∀ o, w3.frozen? ⟨w.heap.size + 1, o, none⟩ = false := fun o => below_frozen b3 (by omega) (f0 o)
  clear b3
  cases hB : okB a ps L with
  | false =>
    go_wp2
    exact bodyPost_ret (v := .tuple #[.agg #[.int .i64 0, .slice none 0 0, .slice none 0 0], .bool false]) (by simp [results, Try.results21, go_sem, d0, d1, d2]) rfl ⟨rfl, by exact ((B3.out.setCell (by simp) _).setCell (by simp) _).setCell (by simp) _⟩
  | true =>
    go_wp2_with fail
    refine (impl_hashandle w3 a pa la ps.length pc L.length lc h).mono ?_
    rintro e w4 ⟨rfl, b4⟩
    have z4 := b4.size
    have B4 := hidIt (B3.out.trans (b4.mono (by omega)))
    replace c0 := below_cell b4 (by omega) c0
    replace c1 := below_cell b4 (by omega) c1
    replace c2 := below_cell b4 (by omega) c2
    replace d0 := below_cell b4 (by omega) d0
    replace d1 := below_cell b4 (by omega) d1
    replace d2 := below_cell b4 (by omega) d2
    replace f0 : ∀ o, w4.frozen? ⟨w.heap.size + 1, o, none⟩ = false := fun o => below_frozen b4 (by omega) (f0 o)
    clear b4
    by_cases h0 : 0 ≤ h ∧ h < (ps.length : Int)
    · rw [decide_eq_true h0]
      obtain ⟨i, rfl⟩ : ∃ i : Nat, h = i := ⟨h.toNat, by omega⟩
      have hi : i < ps.length := by omega
      have hi' : (i : Int) < (ps.length : Int) := by omega
      obtain ⟨pa', pc', hv, hp⟩ := H.out.pins.below B4.out
      simp at hv
      obtain ⟨rfl, rfl⟩ := hv
      rcases hp with hp | ⟨b, off, rfl, hb, hp⟩
      · rw [hp] at hi; simp at hi
      have c3 := hp i hi
      have HK2 := hidIt ((setOk_in (q := true) hB hi).symm.trans HK.out)
      clear hp h0 HK
      generalize ps[i] = z at c3 HK2
      obtain rfl : z = -1 := by
        by_cases e : z = -1
        · exact e
        · have e2 : (z != -1) = true := by simpa using e
          have := HK2.out
          rw [e2] at this
          simp at this
      go_wp2
      exact bodyPost_ret (v := .tuple #[.agg #[.int .i64 0, .slice none 0 0, .slice none 0 0], .bool false]) (by simp [results, Try.results21, go_sem, d0, d1, d2]) rfl ⟨rfl, by exact ((B4.out.setCell (by simp) _).setCell (by simp) _).setCell (by simp) _⟩
    · rw [decide_eq_false h0]
      clear h0
      go_wp2
      exact bodyPost_ret (v := .tuple #[.agg #[.int .i64 0, .slice none 0 0, .slice none 0 0], .bool false]) (by simp [results, Try.results21, go_sem, d0, d1, d2]) rfl ⟨rfl, by exact ((B4.out.setCell (by simp) _).setCell (by simp) _).setCell (by simp) _⟩

set_option maxHeartbeats 1600000 in
set_option maxRecDepth 100000 in
theorem impl_unpin_yes (w : World) (a : Int) (p l : Value) (ps : List Int) (L : List (Int × Int)) (i : Nat) (hA : AIn w p l ps L) (hB : okB a ps L = true) (hi : i < ps.length) (hq : ((ps[i] != -1) == true) = true) :
    Calls Try.prog 21 #[.agg #[.int .i64 a, p, l], .int .i64 (i : Int)] w (AAns a (ps.set i (-1)) L true w) := by
  obtain ⟨a0, a1, n1, n8, m1, -, -⟩ := okB_len hB
  have H := hidIt hA
  obtain ⟨pa, pc, la, lc, rfl, rfl, -⟩ := hA.form
  clear hA
  have hi' : (i : Int) < (ps.length : Int) := by omega
  have hd : decide (0 ≤ (i : Int) ∧ (i : Int) < (ps.length : Int)) = true := decide_eq_true ⟨by omega, hi'⟩
  go_enter Try.func21, Try.ntmps21
  go_wp2_with fail
  generalize hW : World.alloc (World.alloc w _) _ = W2
  have bW : Hid (Below w.heap.size w W2) := (by rw [← hW]; exact ((Below.refl w.heap.size w).alloc (Nat.le_refl _) _).alloc (by simp) _ : Below w.heap.size w W2)
  have zW : W2.heap.size = w.heap.size + 2 := by rw [← hW]; simp
  have c0 : W2.cell? ⟨w.heap.size, 0, none⟩ = some (.int .i64 a) := by rw [← hW]; simp [go_sem]
  have c1 : W2.cell? ⟨w.heap.size, 1, none⟩ = some (.slice pa ps.length pc) := by rw [← hW]; simp [go_sem]
  have c2 : W2.cell? ⟨w.heap.size, 2, none⟩ = some (.slice la L.length lc) := by rw [← hW]; simp [go_sem]
  have d0 : W2.cell? ⟨w.heap.size + 1, 0, none⟩ = some (.int .i64 0) := by rw [← hW]; simp [go_sem]
  have d1 : W2.cell? ⟨w.heap.size + 1, 1, none⟩ = some (.slice none 0 0) := by rw [← hW]; simp [go_sem]
  have d2 : W2.cell? ⟨w.heap.size + 1, 2, none⟩ = some (.slice none 0 0) := by rw [← hW]; simp [go_sem]
  have f0 : ∀ o, W2.frozen? ⟨w.heap.size + 1, o, none⟩ = false := by rw [← hW]; simp [go_sem]
  clear hW
  refine (impl_agesok W2 a _ _ ps L (H.out.below bW.out)).mono ?_
  rintro e w3 ⟨rfl, b3⟩
  have z3 := b3.size
  have B3 := hidIt (bW.out.trans (b3.mono (by omega)))
  replace c0 := below_cell b3 (by omega) c0
  replace c1 := below_cell b3 (by omega) c1
  replace c2 := below_cell b3 (by omega) c2
  replace d0 := below_cell b3 (by omega) d0
  replace d1 := below_cell b3 (by omega) d1
  replace d2 := below_cell b3 (by omega) d2
  replace f0 : ∀ o, w3.frozen? ⟨w.heap.size + 1, o, none⟩ = false := fun o => below_frozen b3 (by omega) (f0 o)
  clear b3
  rw [hB]
  go_wp2_with fail
  refine (impl_hashandle w3 a pa la ps.length pc L.length lc i).mono ?_
  rintro e w4 ⟨rfl, b4⟩
  have z4 := b4.size
  have B4 := hidIt (B3.out.trans (b4.mono (by omega)))
  replace c0 := below_cell b4 (by omega) c0
  replace c1 := below_cell b4 (by omega) c1
  replace c2 := below_cell b4 (by omega) c2
  replace d0 := below_cell b4 (by omega) d0
  replace d1 := below_cell b4 (by omega) d1
  replace d2 := below_cell b4 (by omega) d2
  replace f0 : ∀ o, w4.frozen? ⟨w.heap.size + 1, o, none⟩ = false := fun o => below_frozen b4 (by omega) (f0 o)
  clear b4
  rw [hd]
  obtain ⟨pa', pc', hv, hp⟩ := H.out.pins.below B4.out
  simp at hv
  obtain ⟨rfl, rfl⟩ := hv
  rcases hp with hp | ⟨b, off, rfl, hb, hp⟩
  · rw [hp] at hi; simp at hi
  have c3 := hp i hi
  have HI := hidIt hi
  have HQ := hidIt hq
  clear hp hq hd
  generalize ps[i] = z at c3 HQ
  have hz : ¬ z = -1 := by
    intro e
    have := HQ.out
    rw [e] at this
    simp at this
  have hz2 : (z == -1) = false := by simpa using hz
  clear hi
  have HR := hidIt (H.out.below B4.out)
  go_wp2_with fail
  refine (impl_copyages w4 a _ _ ps L (by omega) (by omega) HR.out).mono ?_
  rintro e w5 ⟨p5, l5, rfl, ao, b5⟩
  have z5 := b5.size
  have A5 := hidIt ao.ar
  have B5 := hidIt (B4.out.trans (b5.mono (by omega)))
  replace c0 := below_cell b5 (by omega) c0
  replace d0 := below_cell b5 (by omega) d0
  replace d1 := below_cell b5 (by omega) d1
  replace d2 := below_cell b5 (by omega) d2
  replace f0 : ∀ o, w5.frozen? ⟨w.heap.size + 1, o, none⟩ = false := fun o => below_frozen b5 (by omega) (f0 o)
  obtain ⟨g, k5, rfl, g1, g2, e3, e4⟩ := A5.out.pins.ofSome (by omega)
  obtain ⟨b5', k5', rfl, -⟩ := A5.out.limbo.form
  have e5 := e3 i HI.out
  have e6 := e4 i
  have hlt0 : w.heap.size < w5.heap.size := by omega
  have hlt1 : w.heap.size + 1 < w5.heap.size := by omega
  have hne1 : g ≠ w.heap.size + 1 := by omega
  clear ao b5 c1 c2 c3 e3 e4
  go_wp2
  refine bodyPost_ret (v := .tuple #[.agg #[.int .i64 a, .slice (some ⟨g, 0, none⟩) ps.length k5, .slice b5' L.length k5'], .bool true]) (by simp [results, Try.results21, go_sem, d0, d1, d2, hlt1]) rfl ⟨_, _, rfl, ?_, ?_⟩
  · exact (((((A5.out.put (Nat.le_refl _) i HI.out (-1)).set_out (.inl (by omega))).set_out (.inl (by omega))).set_out (.inl (by omega))).alloc (by simp) _).wide (by omega) (by simp)
  · exact ((((B5.out.setCell (p := ⟨g, i, none⟩) (by show w.heap.size ≤ g; omega) _).setCell (by simp) _).setCell (by simp) _).setCell (by simp) _).alloc (by simp; omega) _
theorem impl_unpin (w : World) (a : Int) (p l : Value) (ps : List Int) (L : List (Int × Int)) (h : Int) (hA : AIn w p l ps L) :
    Calls Try.prog 21 #[.agg #[.int .i64 a, p, l], .int .i64 h] w (AAns (setA (setOk a ps L h true) a) (setP (setOk a ps L h true) ps h (-1)) (setLm (setOk a ps L h true) L) (setOk a ps L h true) w) := by
  cases hB : setOk a ps L h true with
  | false => exact (impl_unpin_no w a p l ps L h hA hB).mono fun _ _ k => AAns.none k
  | true =>
    obtain ⟨h1, i, hi, rfl, h2⟩ := setOk_true hB
    exact impl_unpin_yes w a p l ps L i hA h1 hi h2

end Go.Proofs.Ytomehhheiodagaa
