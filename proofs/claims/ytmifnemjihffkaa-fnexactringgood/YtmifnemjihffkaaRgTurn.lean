/- The fact of a turn, by the model. -/
import Derived.Test.YtmifnemjihffkaaRows
import Derived.WalkKit
import Derived.ProofKit
import Derived.OpenShut
import Derived.ShutString
import Derived.Test.YtmifnemjihffkaaRgPlain
import Derived.Test.YtmifnemjihffkaaThCopy
import Derived.Deep.LoopGhost
namespace Go.Proofs.Ytmifnemjihffkaa
open Go.ChangeShapes Go.WideShapes Go.ChangeAt Go.RowKit
set_option linter.unusedVariables false

def fx (c : Fc) : Array Value := #[.int .i64 c.th, .int .i64 c.k, .int .i64 c.a, .int .i64 c.r, .int .i64 c.v, .int .i64 c.t, .int .i64 c.b, .int .i64 c.e]
theorem Bx.fact {W : World} {b : Nat} {c : Fc} (h : Bx W b (fx c)) : W.cell? ⟨b, 0, none⟩ = some (.int .i64 c.th) ∧ W.cell? ⟨b, 1, none⟩ = some (.int .i64 c.k) ∧ W.cell? ⟨b, 2, none⟩ = some (.int .i64 c.a) ∧ W.cell? ⟨b, 3, none⟩ = some (.int .i64 c.r) ∧ W.cell? ⟨b, 4, none⟩ = some (.int .i64 c.v) ∧ W.cell? ⟨b, 5, none⟩ = some (.int .i64 c.t) ∧ W.cell? ⟨b, 6, none⟩ = some (.int .i64 c.b) ∧ W.cell? ⟨b, 7, none⟩ = some (.int .i64 c.e) :=
  ⟨h.2.1 0, h.2.1 1, h.2.1 2, h.2.1 3, h.2.1 4, h.2.1 5, h.2.1 6, h.2.1 7⟩
theorem Bx.whole {W : World} {b : Nat} {c' : Fc} (h : Bx W b (fx c')) (c : Fc) : Bx (putFact W b 0 c) b (fx c) := by
  have h7 := (((((((h.set (i := 0) (.int .i64 c.th) (by simp [fx])).set (i := 1) (.int .i64 c.k) (by simp [fx])).set (i := 2) (.int .i64 c.a) (by simp [fx])).set (i := 3) (.int .i64 c.r) (by simp [fx])).set (i := 4) (.int .i64 c.v) (by simp [fx])).set (i := 5) (.int .i64 c.t) (by simp [fx])).set (i := 6) (.int .i64 c.b) (by simp [fx])).set (i := 7) (.int .i64 c.e) (by simp [fx])
  have e : ((((((((fx c').setIfInBounds 0 (.int .i64 c.th)).setIfInBounds 1 (.int .i64 c.k)).setIfInBounds 2 (.int .i64 c.a)).setIfInBounds 3 (.int .i64 c.r)).setIfInBounds 4 (.int .i64 c.v)).setIfInBounds 5 (.int .i64 c.t)).setIfInBounds 6 (.int .i64 c.b)).setIfInBounds 7 (.int .i64 c.e) = fx c := by simp [fx]
  rw [e] at h7
  exact h7
theorem Bx.aside {W : World} {b p : Nat} {xs : Array Value} (h : Bx W b xs) (c : Fc) (hp : b ≠ p) : Bx (putFact W p 0 c) b xs :=
  h.block (by rw [putFact_size]; exact Nat.le_refl _) (putFact_block W p 0 c b hp)
theorem tookB_no {kind : Int} {f : Fc} (h : ¬ (f.k = kind ∧ f.r = 1)) : tookB kind f = false := by
  unfold tookB
  by_cases h1 : f.k = kind
  · have h2 : ¬ f.r = 1 := fun e => h ⟨h1, e⟩
    simp [h2]
  · simp [h1]
theorem tookB_yes {kind : Int} {f : Fc} (h1 : f.k = kind) (h2 : f.r = 1) : tookB kind f = true := by
  unfold tookB; simp [h1, h2]
theorem fact_cell {w : World} {a : Option Addr} {n c : Nat} {L : List Fc} (h : FactsIn w (.slice a n c) L) (j : Nat) (hj : j < L.length) : ∃ b off, a = some ⟨b, off, none⟩ ∧ b < w.heap.size ∧ FactAt w b (off + j * 8) L[j] := by
  obtain ⟨a', c', hv, -, h⟩ := h
  simp at hv
  obtain ⟨rfl, rfl, rfl⟩ := hv
  rcases h with h | ⟨b, off, ha, hb, hc⟩
  · subst h; exact absurd hj (by simp)
  · exact ⟨b, off, ha, hb, hc j hj⟩
def tkF (L : List Fc) (kind turn : Int) : Fc := turnOf (took L kind) turn
set_option maxHeartbeats 1600000 in
set_option maxRecDepth 100000 in
theorem spec_turn (v : Value) (L : List Fc) (kind turn : Int) (w : World) (hn : L.length ≤ 4194304) (h : FactsIn w v L) :
    Calls Try.prog 47 #[v, .int .i64 kind, .int .i64 turn] w fun e w' => e = .returned (.tuple #[.agg #[.int .i64 (tkF L kind turn).th, .int .i64 (tkF L kind turn).k, .int .i64 (tkF L kind turn).a, .int .i64 (tkF L kind turn).r, .int .i64 (tkF L kind turn).v, .int .i64 (tkF L kind turn).t, .int .i64 (tkF L kind turn).b, .int .i64 (tkF L kind turn).e], .int .i64 ((onTurn (took L kind) turn).length : Nat)]) ∧ Below w.heap.size w w' := by
  have H := hidIt h
  obtain ⟨a, c, rfl, -⟩ := h.form
  clear h
  unfold tkF
  go_enter Try.func47, Try.ntmps47
  go_wp2
  have X := bx2 w (fx factZero) (fx factZero) 46 46
  have XX := hidIt X
  clear X
  go_loopg [9, 15] L.length (fun gk s9 s15 wr => ∃ k : Nat, k ≤ L.length ∧ gk = L.length - k ∧ s15 = .int .i64 k ∧ s9 = .int .i64 (((onTurn (took (L.take k) kind) turn).length : Nat) : Int) ∧ Below w.heap.size w wr ∧ Hid (Bx wr w.heap.size (fx factZero)) ∧ Hid (Bx wr (w.heap.size + 1) (fx (turnOf (took (L.take k) kind) turn))))
  case atStart => exact ⟨0, Nat.zero_le _, rfl, rfl, rfl, XX.out.2.2.1, hidIt XX.out.1, hidIt XX.out.2.1⟩
  case round =>
    clear XX
    rename World => wr
    obtain ⟨k, hk, hgk, rfl, rfl, hbw, B6, B8⟩ := hrel
    have HG := hidIt hgk
    clear hgk
    have hl6 := B6.out.1
    have hl8 := B8.out.1
    by_cases hlt : k < L.length
    · have hlt' : (k : Int) < (L.length : Int) := by omega
      obtain ⟨b, off, rfl, hb, hc⟩ := fact_cell H.out k hlt
      obtain ⟨m0, m1, m2, m3, m4, m5, m6, m7⟩ := hc.of (fun q => hbw.cell (p := ⟨b, q, none⟩) hb)
      clear hc
      have HT := hidIt (took_step L kind k hlt)
      have hle := Nat.le_trans (onTurn_len (took (L.take k) kind) turn) (took_len L kind k)
      generalize L[k] = f at *
      generalize took (L.take k) kind = T at *
      obtain ⟨fth, fk, fa, fr, fv, ft, fb, fe⟩ := f
      simp only at m0 m1 m2 m3 m4 m5 m6 m7
      by_cases hkr : fk = kind ∧ fr = 1
      · obtain ⟨hk1, hr1⟩ := hkr
        subst hk1
        subst hr1
        have HT2 := hidIt (show took (L.take (k + 1)) fk = T ++ [⟨fth, fk, fa, 1, fv, ft, fb, fe⟩] by rw [HT.out, tookB_yes (f := ⟨fth, fk, fa, 1, fv, ft, fb, fe⟩) rfl rfl]; simp)
        by_cases ht : ft = turn
        · subst ht
          obtain ⟨q0, q1, q2, q3, q4, q5, q6, q7⟩ := B8.out.fact
          have hz := B8.out.2.2
          have HN := hidIt (show ((onTurn (T ++ [⟨fth, fk, fa, 1, fv, ft, fb, fe⟩]) ft).length : Int) = ((onTurn T ft).length : Int) + 1 by rw [onTurn_app]; simp [onTurn])
          generalize onTurn T ft = U at *
          have hU : (U.length : Int) + 1 ≤ 4194305 := by omega
          go_wp2
          go_roundg (L.length - (k + 1))
          case measure => rw [HG.out]; omega
          case rel =>
            refine ⟨k + 1, by omega, rfl, by go_num, by rw [HT2.out, HN.out], ?_, ?_, ?_⟩
            · exact (putFact_below w.heap.size w wr (w.heap.size + 1) 0 ⟨fth, fk, fa, 1, fv, ft, fb, fe⟩ hbw (Nat.le_succ _)).alloc (by rw [putFact_size]; omega) _
            · exact hidIt ((B6.out.aside ⟨fth, fk, fa, 1, fv, ft, fb, fe⟩ (by omega)).alloc _)
            · rw [HT2.out, turnOf_snoc T ⟨fth, fk, fa, 1, fv, ft, fb, fe⟩ ft rfl]
              exact hidIt ((B8.out.whole ⟨fth, fk, fa, 1, fv, ft, fb, fe⟩).alloc _)
        · have HN := hidIt (turnOf_skip T ⟨fth, fk, fa, 1, fv, ft, fb, fe⟩ turn ht)
          go_wp2
          go_roundg (L.length - (k + 1))
          case measure => rw [HG.out]; omega
          case rel => exact ⟨k + 1, by omega, rfl, by go_num, by rw [HT2.out, HN.out.2], hbw.alloc hbw.size _, hidIt (B6.out.alloc _), hidIt (by rw [HT2.out, HN.out.1]; exact B8.out.alloc _)⟩
      · have HT2 := hidIt (show took (L.take (k + 1)) kind = T by rw [HT.out, tookB_no (f := ⟨fth, fk, fa, fr, fv, ft, fb, fe⟩) hkr]; simp)
        by_cases hk1 : fk = kind
        · have hr1 : ¬ fr = 1 := fun e => hkr ⟨hk1, e⟩
          subst hk1
          clear hkr
          go_wp2
          go_roundg (L.length - (k + 1))
          case measure => rw [HG.out]; omega
          case rel => exact ⟨k + 1, by omega, rfl, by go_num, by rw [HT2.out], hbw.alloc hbw.size _, hidIt (B6.out.alloc _), hidIt (by rw [HT2.out]; exact B8.out.alloc _)⟩
        · clear hkr
          go_wp2
          go_roundg (L.length - (k + 1))
          case measure => rw [HG.out]; omega
          case rel => exact ⟨k + 1, by omega, rfl, by go_num, by rw [HT2.out], hbw.alloc hbw.size _, hidIt (B6.out.alloc _), hidIt (by rw [HT2.out]; exact B8.out.alloc _)⟩
    · have hke : k = L.length := by omega
      subst hke
      have HE := hidIt (show L.take L.length = L from List.take_length)
      rw [HE.out] at B8 ⊢
      have B8 : Hid (Bx wr (w.heap.size + 1) (fx (tkF L kind turn))) := B8
      have hle := Nat.le_trans (onTurn_len (took L kind) turn) (show (took L kind).length ≤ L.length from List.length_filter_le _ _)
      obtain ⟨q0, q1, q2, q3, q4, q5, q6, q7⟩ := B8.out.fact
      obtain ⟨p0, p1, p2, p3, p4, p5, p6, p7⟩ := B6.out.fact
      have hz := B6.out.2.2
      go_wp2
      change bodyPost Try.prog _ _ _ _ (putFact wr w.heap.size 0 (tkF L kind turn))
      have XE := B6.out.whole (tkF L kind turn)
      have hbE := putFact_below w.heap.size w wr w.heap.size 0 (tkF L kind turn) hbw (Nat.le_refl _)
      clear q0 q1 q2 q3 q4 q5 q6 q7 p0 p1 p2 p3 p4 p5 p6 p7
      generalize putFact wr w.heap.size 0 (tkF L kind turn) = WE at XE hbE ⊢
      obtain ⟨e0, e1, e2, e3, e4, e5, e6, e7⟩ := XE.fact
      refine bodyPost_ret (v := .tuple #[.agg #[.int .i64 (tkF L kind turn).th, .int .i64 (tkF L kind turn).k, .int .i64 (tkF L kind turn).a, .int .i64 (tkF L kind turn).r, .int .i64 (tkF L kind turn).v, .int .i64 (tkF L kind turn).t, .int .i64 (tkF L kind turn).b, .int .i64 (tkF L kind turn).e], .int .i64 ((onTurn (took L kind) turn).length : Int)]) (by simp [results, Try.results47, go_sem, e0, e1, e2, e3, e4, e5, e6, e7]) rfl ⟨rfl, hbE⟩

end Go.Proofs.Ytmifnemjihffkaa
