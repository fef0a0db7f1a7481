/- Rows of facts: read, owned, measured, copied, held against one another, marked. -/
import Derived.Test.YtmifnemjihffkaaRows
import Derived.WalkKit
import Derived.ProofKit
import Derived.OpenShut
import Derived.ShutString
import Derived.Test.YtmifnemjihffkaaCallRows
import Derived.Test.YtmifnemjihffkaaCrewMark
import Derived.Test.YtmifnemjihffkaaCrewHeld
import Derived.Deep.RegionHeld3
namespace Go.Proofs.Ytmifnemjihffkaa
open Go.ChangeShapes Go.WideShapes Go.ChangeAt Go.RowKit
set_option linter.unusedVariables false

structure Fc where
  th : Int
  k : Int
  a : Int
  r : Int
  v : Int
  t : Int
  b : Int
  e : Int
def factZero : Fc := ⟨0, 0, 0, 0, 0, 0, 0, 0⟩
instance : Inhabited Fc := ⟨factZero⟩
def FactAt (w : World) (b o : Nat) (c : Fc) : Prop := w.cell? ⟨b, o, none⟩ = some (.int .i64 c.th) ∧ w.cell? ⟨b, o + 1, none⟩ = some (.int .i64 c.k) ∧ w.cell? ⟨b, o + 2, none⟩ = some (.int .i64 c.a) ∧ w.cell? ⟨b, o + 3, none⟩ = some (.int .i64 c.r) ∧ w.cell? ⟨b, o + 4, none⟩ = some (.int .i64 c.v) ∧ w.cell? ⟨b, o + 5, none⟩ = some (.int .i64 c.t) ∧ w.cell? ⟨b, o + 6, none⟩ = some (.int .i64 c.b) ∧ w.cell? ⟨b, o + 7, none⟩ = some (.int .i64 c.e)
theorem FactAt.of {w w' : World} {b o : Nat} {c : Fc} (h : FactAt w b o c) (hb : ∀ q, w'.cell? ⟨b, q, none⟩ = w.cell? ⟨b, q, none⟩) : FactAt w' b o c := by
  obtain ⟨h0, h1, h2, h3, h4, h5, h6, h7⟩ := h
  exact ⟨(hb _).trans h0, (hb _).trans h1, (hb _).trans h2, (hb _).trans h3, (hb _).trans h4, (hb _).trans h5, (hb _).trans h6, (hb _).trans h7⟩
theorem FactAt.keep {w w' : World} {b o : Nat} {c : Fc} (h : FactAt w b o c) (hz : b < w.heap.size) (hb : Below w.heap.size w w') : FactAt w' b o c := h.of (cells_of_block (hb.block b hz))
theorem FactAt.eqv {W : World} {b o : Nat} {c c' : Fc} (h : FactAt W b o c) (e : c = c') : FactAt W b o c' := e ▸ h
def FactsIn (w : World) (v : Value) (cs : List Fc) : Prop :=
  ∃ a cap, v = .slice a cs.length cap ∧ cs.length ≤ cap ∧ (cs = [] ∨ ∃ b off, a = some ⟨b, off, none⟩ ∧ b < w.heap.size ∧ ∀ j (hj : j < cs.length), FactAt w b (off + j * 8) cs[j])
theorem FactsIn.below {w w' : World} {v : Value} {cs : List Fc} (h : FactsIn w v cs) (hb : Below w.heap.size w w') : FactsIn w' v cs := by
  obtain ⟨a, cap, hv, hc, h⟩ := h
  refine ⟨a, cap, hv, hc, ?_⟩
  rcases h with h | ⟨b, off, ha, h1, h2⟩
  · exact .inl h
  · exact .inr ⟨b, off, ha, Nat.lt_of_lt_of_le h1 hb.size, fun j hj => (h2 j hj).of (cells_of_block (hb.block b h1))⟩
theorem FactsIn.form {w : World} {v : Value} {cs : List Fc} (h : FactsIn w v cs) : ∃ a c, v = .slice a cs.length c ∧ cs.length ≤ c := by
  obtain ⟨a, c, h1, h2, _⟩ := h
  exact ⟨a, c, h1, h2⟩
def FactsO (w : World) (v : Value) (cs : List Fc) (fp : List Nat) : Prop :=
  ∃ a cap, v = .slice a cs.length cap ∧ cs.length ≤ cap ∧ ((cs = [] ∧ fp = []) ∨ ∃ g, a = some ⟨g, 0, none⟩ ∧ fp = [g] ∧ g < w.heap.size ∧ (∀ j (hj : j < cs.length), FactAt w g (j * 8) cs[j]) ∧ ∀ j, w.frozen? ⟨g, j, none⟩ = false)
theorem FactsO.loc' {w w' : World} {v : Value} {xs : List Fc} {fp : List Nat} (h : FactsO w v xs fp) (hb : ∀ g ∈ fp, w'.heap[g]? = w.heap[g]?) : FactsO w' v xs fp := by
  obtain ⟨a, cap, hv, hc, h⟩ := h
  refine ⟨a, cap, hv, hc, ?_⟩
  rcases h with h | ⟨g, ha, hf, h1, h2, h3⟩
  · exact .inl h
  · have e := hb g (by rw [hf]; exact List.mem_singleton.2 rfl)
    exact .inr ⟨g, ha, hf, lt_of_block e h1, fun j hj => (h2 j hj).of (cells_of_block e), fun j => (frozen_of_block e j).trans (h3 j)⟩
theorem FactsO.lt {w : World} {v : Value} {xs : List Fc} {fp : List Nat} (h : FactsO w v xs fp) : ∀ g ∈ fp, g < w.heap.size := by
  obtain ⟨a, cap, hv, hc, ⟨-, rfl⟩ | ⟨g, ha, rfl, h1, -⟩⟩ := h
  · simp
  · simpa using h1
theorem FactsO.below {w w' : World} {v : Value} {xs : List Fc} {fp : List Nat} (h : FactsO w v xs fp) (hb : Below w.heap.size w w') : FactsO w' v xs fp := h.loc' (fun g hg => hb.block g (h.lt g hg))
theorem FactsO.rd {w : World} {v : Value} {xs : List Fc} {fp : List Nat} (h : FactsO w v xs fp) : FactsIn w v xs := by
  obtain ⟨a, cap, hv, hc, h⟩ := h
  refine ⟨a, cap, hv, hc, ?_⟩
  rcases h with ⟨h, -⟩ | ⟨g, ha, -, h1, h2, -⟩
  · exact .inl h
  · exact .inr ⟨g, 0, ha, h1, fun j hj => by rw [Nat.zero_add]; exact h2 j hj⟩
theorem FactsO.set {w : World} {v : Value} {xs : List Fc} {fp : List Nat} (h : FactsO w v xs fp) {p i : Nat} {x : Value} (hp : ¬ p ∈ fp) : FactsO (w.setCell ⟨p, i, none⟩ x) v xs fp :=
  h.loc' (fun g hg => Below.heap_setCell _ _ _ _ (by show g ≠ p; intro e; exact hp (e ▸ hg)))
def FactsNew (w w' : World) (v : Value) (L : List Fc) : Prop := ∃ fp, FactsO w' v L fp ∧ fp.Nodup ∧ (∀ g ∈ fp, w.heap.size ≤ g) ∧ Below w.heap.size w w'
theorem FactsO.within {lo hi : Nat} {v : Value} {cs : List Fc} {fp : List Nat} (h : ∀ g ∈ fp, lo ≤ g ∧ g < hi) : Loc lo hi (fun W => FactsO W v cs fp) :=
  fun w w' p hk => p.loc' (fun g hg => hk g (h g hg).1 (h g hg).2)
theorem Kp.facts {bs : List Nat} {w w' : World} {v : Value} {t : List Fc} {fp : List Nat} (h : Kp bs w w') (a : FactsO w v t fp) (hn : ∀ x ∈ fp, ¬ x ∈ bs) : FactsO w' v t fp := a.loc' (fun x hx => h.block x (a.lt x hx) (hn x hx))
theorem infoFact : (Try.prog.info? 46).map (fun i => (i.zero, i.size, i.bytes)) = some (some (.agg #[.int .i64 factZero.th, .int .i64 factZero.k, .int .i64 factZero.a, .int .i64 factZero.r, .int .i64 factZero.v, .int .i64 factZero.t, .int .i64 factZero.b, .int .i64 factZero.e]), 8, 64) := by kernel_rfl
def putFact (w : World) (g o : Nat) (c : Fc) : World := (((((((w.setCell ⟨g, o, none⟩ (.int .i64 c.th)).setCell ⟨g, o + 1, none⟩ (.int .i64 c.k)).setCell ⟨g, o + 2, none⟩ (.int .i64 c.a)).setCell ⟨g, o + 3, none⟩ (.int .i64 c.r)).setCell ⟨g, o + 4, none⟩ (.int .i64 c.v)).setCell ⟨g, o + 5, none⟩ (.int .i64 c.t)).setCell ⟨g, o + 6, none⟩ (.int .i64 c.b)).setCell ⟨g, o + 7, none⟩ (.int .i64 c.e)
theorem putFact_other (w : World) (g o : Nat) (c : Fc) (b q : Nat) (h : b ≠ g ∨ q < o ∨ o + 8 ≤ q) : (putFact w g o c).cell? ⟨b, q, none⟩ = w.cell? ⟨b, q, none⟩ := by
  unfold putFact
  repeat rw [World.cell?_setCell_other _ _ _ _ (by simp; omega)]
theorem putFact_frozen (w : World) (g o : Nat) (c : Fc) (b q : Nat) : (putFact w g o c).frozen? ⟨b, q, none⟩ = w.frozen? ⟨b, q, none⟩ := by
  unfold putFact
  simp only [World.frozen?_setCell]
theorem putFact_size (w : World) (g o : Nat) (c : Fc) : (putFact w g o c).heap.size = w.heap.size := by unfold putFact; simp
theorem putFact_kp (bs : List Nat) (u w : World) (g o : Nat) (c : Fc) (h : Kp bs u w) (hg : g ∈ bs ∨ u.heap.size ≤ g) : Kp bs u (putFact w g o c) := by
  unfold putFact
  exact (((((((h.setCell hg).setCell hg).setCell hg).setCell hg).setCell hg).setCell hg).setCell hg).setCell hg
theorem putFact_below (B : Nat) (u w : World) (g o : Nat) (c : Fc) (h : Below B u w) (hg : B ≤ g) : Below B u (putFact w g o c) := by
  unfold putFact
  exact (((((((h.setCell hg _).setCell hg _).setCell hg _).setCell hg _).setCell hg _).setCell hg _).setCell hg _).setCell hg _
theorem putFact_same (w : World) (g o : Nat) (c : Fc) (h : ∀ i, i < 8 → ∃ y, w.cell? ⟨g, o + i, none⟩ = some y) : FactAt (putFact w g o c) g o c := by
  have h0 := h 0 (by omega)
  have h1 := h 1 (by omega)
  have h2 := h 2 (by omega)
  have h3 := h 3 (by omega)
  have h4 := h 4 (by omega)
  have h5 := h 5 (by omega)
  have h6 := h 6 (by omega)
  have h7 := h 7 (by omega)
  rw [Nat.add_zero] at h0
  unfold putFact
  refine ⟨?_, ?_, ?_, ?_, ?_, ?_, ?_, ?_⟩
  all_goals (repeat (refine setc_up ?_ ?_; (focus omega)))
  all_goals (refine setc_same ?_; repeat (first | with_reducible assumption | refine setc_any ?_))
theorem putFact_at (w : World) (g o : Nat) (c c' : Fc) (b q : Nat) (h : FactAt w b q c') (hn : b ≠ g ∨ q + 8 ≤ o ∨ o + 8 ≤ q) : FactAt (putFact w g o c) b q c' := by
  have k := fun i (hi : i < 8) => putFact_other w g o c b (q + i) (by omega)
  obtain ⟨h0, h1, h2, h3, h4, h5, h6, h7⟩ := h
  generalize putFact w g o c = W at k
  exact ⟨(k 0 (by omega)).trans h0, (k 1 (by omega)).trans h1, (k 2 (by omega)).trans h2, (k 3 (by omega)).trans h3, (k 4 (by omega)).trans h4, (k 5 (by omega)).trans h5, (k 6 (by omega)).trans h6, (k 7 (by omega)).trans h7⟩
theorem putFact_block (w : World) (g o : Nat) (c : Fc) (b : Nat) (h : b ≠ g) : (putFact w g o c).heap[b]? = w.heap[b]? := by
  unfold putFact
  repeat rw [Below.heap_setCell _ _ _ _ (by simpa using h)]

set_option maxRecDepth 100000 in
theorem to_fact (c : Fc) (w : World) :
    Calls Try.prog 19 #[.agg #[.int .i64 c.th, .int .i64 c.k, .int .i64 c.a, .int .i64 c.r, .int .i64 c.v, .int .i64 c.t, .int .i64 c.b, .int .i64 c.e]] w fun e w' => e = .returned (.agg #[.int .i64 c.th, .int .i64 c.k, .int .i64 c.a, .int .i64 c.r, .int .i64 c.v, .int .i64 c.t, .int .i64 c.b, .int .i64 c.e]) ∧ Below w.heap.size w w' := by
  go_enter Try.func19, Try.ntmps19
  go_wp2
  refine bodyPost_ret (v := .agg #[.int .i64 c.th, .int .i64 c.k, .int .i64 c.a, .int .i64 c.r, .int .i64 c.v, .int .i64 c.t, .int .i64 c.b, .int .i64 c.e]) (by simp [results, Try.results19, go_sem]) rfl ⟨rfl, ?_⟩
  repeat (first | exact Below.refl _ _ | refine Below.setCell ?_ (by simp <;> omega) _ | refine Below.alloc ?_ (by simp <;> omega) _)
set_option maxRecDepth 100000 in
theorem eq_fact (c : Fc) (w : World) :
    Calls Try.prog 36 #[.agg #[.int .i64 c.th, .int .i64 c.k, .int .i64 c.a, .int .i64 c.r, .int .i64 c.v, .int .i64 c.t, .int .i64 c.b, .int .i64 c.e], .agg #[.int .i64 c.th, .int .i64 c.k, .int .i64 c.a, .int .i64 c.r, .int .i64 c.v, .int .i64 c.t, .int .i64 c.b, .int .i64 c.e]] w fun e w' => e = .returned (.bool true) ∧ Below w.heap.size w w' := by
  go_enter Try.func36, Try.ntmps36
  go_wp2
  go_ret
  exact ⟨rfl, ((Below.refl _ _).alloc (Nat.le_refl _) _).alloc (by simp) _⟩
theorem sz_facts (a : Option Addr) (n c : Nat) (l : Int) (w : World) (hn : n ≤ 9223372036854775807) (h1 : 0 ≤ l) (h2 : l ≤ 4194304) :
    Calls Try.prog 24 #[.slice a n c, .int .i64 l] w fun e w' => e = .returned (.int .i64 (if l < n then -1 else l - n)) ∧ w' = w := by
  by_cases h : l < n
  · rw [if_pos h]
    go_enter Try.func24, Try.ntmps24
    go_wp2
    go_ret
    exact ⟨rfl, rfl⟩
  · rw [if_neg h]
    go_enter Try.func24, Try.ntmps24
    go_wp2
    go_ret
    exact ⟨rfl, rfl⟩
theorem eq_facts_zero (a b : Option Addr) (c d : Nat) (w : World) :
    Calls Try.prog 12 #[.slice a 0 c, .slice b 0 d] w fun e w' => e = .returned (.bool true) ∧ Below w.heap.size w w' := by
  go_enter Try.func12, Try.ntmps12
  go_wp2
  go_loop [5] (fun i => i = .int .i64 0) (fun _ => 0)
  case atStart => rfl
  case round =>
    subst hrel
    go_wp2
    go_ret
    exact ⟨rfl, Below.refl _ _⟩
def TwoFact (W0 W : World) (a p b q : Nat) (c : Fc) : Prop := Below W0.heap.size W0 W ∧ FactAt W a p c ∧ FactAt W b q c ∧ a < W.heap.size ∧ b < W.heap.size
theorem TwoFact.keep {W0 W W' : World} {a p b q : Nat} {c : Fc} (h : TwoFact W0 W a p b q c) (hb : Below W.heap.size W W') : TwoFact W0 W' a p b q c := by
  obtain ⟨h0, h1, h2, h3, h4⟩ := h
  have := hb.size
  exact ⟨below_step h0 hb, h1.keep h3 hb, h2.keep h4 hb, by omega, by omega⟩
def limFact (W0 W : World) (a p b q : Nat) (c : Fc) : Prop := TwoFact W0 W a p b q c ∧ W.cell? ⟨a, p, none⟩ = some (.int .i64 c.th) ∧ W.cell? ⟨a, p + 1, none⟩ = some (.int .i64 c.k) ∧ W.cell? ⟨a, p + 2, none⟩ = some (.int .i64 c.a) ∧ W.cell? ⟨a, p + 3, none⟩ = some (.int .i64 c.r) ∧ W.cell? ⟨a, p + 4, none⟩ = some (.int .i64 c.v) ∧ W.cell? ⟨a, p + 5, none⟩ = some (.int .i64 c.t) ∧ W.cell? ⟨a, p + 6, none⟩ = some (.int .i64 c.b) ∧ W.cell? ⟨a, p + 7, none⟩ = some (.int .i64 c.e) ∧
  W.cell? ⟨b, q, none⟩ = some (.int .i64 c.th) ∧ W.cell? ⟨b, q + 1, none⟩ = some (.int .i64 c.k) ∧ W.cell? ⟨b, q + 2, none⟩ = some (.int .i64 c.a) ∧ W.cell? ⟨b, q + 3, none⟩ = some (.int .i64 c.r) ∧ W.cell? ⟨b, q + 4, none⟩ = some (.int .i64 c.v) ∧ W.cell? ⟨b, q + 5, none⟩ = some (.int .i64 c.t) ∧ W.cell? ⟨b, q + 6, none⟩ = some (.int .i64 c.b) ∧ W.cell? ⟨b, q + 7, none⟩ = some (.int .i64 c.e)
theorem limFact_of {W0 W : World} {a p b q : Nat} {c : Fc} (h : TwoFact W0 W a p b q c) : limFact W0 W a p b q c := by
  have h' := h
  obtain ⟨-, ⟨h0, h1, h2, h3, h4, h5, h6, h7⟩, ⟨g0, g1, g2, g3, g4, g5, g6, g7⟩, -⟩ := h
  exact ⟨h', h0, h1, h2, h3, h4, h5, h6, h7, g0, g1, g2, g3, g4, g5, g6, g7⟩
set_option maxHeartbeats 1600000 in
set_option maxRecDepth 100000 in
theorem eq_facts_some (g og h oh c d : Nat) (L : List Fc) (w : World) (hn : L.length ≤ 4194304) (h0 : 0 < L.length) (hg : g < w.heap.size) (hh : h < w.heap.size)
    (hA : ∀ j (hj : j < L.length), FactAt w g (og + j * 8) L[j]) (hB : ∀ j (hj : j < L.length), FactAt w h (oh + j * 8) L[j]) :
    Calls Try.prog 12 #[.slice (some ⟨g, og, none⟩) L.length c, .slice (some ⟨h, oh, none⟩) L.length d] w fun e w' => e = .returned (.bool true) ∧ Below w.heap.size w w' := by
  have HA := hidIt hA
  have HB := hidIt hB
  clear hA hB
  go_enter Try.func12, Try.ntmps12
  go_wp2
  go_loopw [5] (fun i wr => ∃ k : Nat, k ≤ L.length ∧ i = .int .i64 k ∧ Below w.heap.size w wr) (fun i _ => L.length - (intOf i).toNat)
  case atStart => exact ⟨0, Nat.zero_le _, rfl, Below.refl _ _⟩
  case round =>
    rename World => wr
    obtain ⟨k, hk, rfl, hb⟩ := hrel
    by_cases hlt : k < L.length
    · have cA := HA.out k hlt
      have cB := HB.out k hlt
      have hlt' : (k : Int) < (L.length : Int) := by omega
      generalize L[k] = x at cA cB
      have hS : limFact w wr g (og + k * 8) h (oh + k * 8) x := limFact_of ⟨hb, cA.keep hg hb, cB.keep hh hb, Nat.lt_of_lt_of_le hg hb.size, Nat.lt_of_lt_of_le hh hb.size⟩
      clear cA cB hb
      unfold limFact at hS
      go_wp2_with fail
      go_region_held3 (fun W => TwoFact w W g (og + k * 8) h (oh + k * 8) x ∧ W.cell? ⟨g, og + k * 8, none⟩ = some (.int .i64 x.th) ∧ W.cell? ⟨g, og + k * 8 + 1, none⟩ = some (.int .i64 x.k) ∧ W.cell? ⟨g, og + k * 8 + 2, none⟩ = some (.int .i64 x.a) ∧ W.cell? ⟨g, og + k * 8 + 3, none⟩ = some (.int .i64 x.r) ∧ W.cell? ⟨g, og + k * 8 + 4, none⟩ = some (.int .i64 x.v) ∧ W.cell? ⟨g, og + k * 8 + 5, none⟩ = some (.int .i64 x.t) ∧ W.cell? ⟨g, og + k * 8 + 6, none⟩ = some (.int .i64 x.b) ∧ W.cell? ⟨g, og + k * 8 + 7, none⟩ = some (.int .i64 x.e) ∧
          W.cell? ⟨h, oh + k * 8, none⟩ = some (.int .i64 x.th) ∧ W.cell? ⟨h, oh + k * 8 + 1, none⟩ = some (.int .i64 x.k) ∧ W.cell? ⟨h, oh + k * 8 + 2, none⟩ = some (.int .i64 x.a) ∧ W.cell? ⟨h, oh + k * 8 + 3, none⟩ = some (.int .i64 x.r) ∧ W.cell? ⟨h, oh + k * 8 + 4, none⟩ = some (.int .i64 x.v) ∧ W.cell? ⟨h, oh + k * 8 + 5, none⟩ = some (.int .i64 x.t) ∧ W.cell? ⟨h, oh + k * 8 + 6, none⟩ = some (.int .i64 x.b) ∧ W.cell? ⟨h, oh + k * 8 + 7, none⟩ = some (.int .i64 x.e))
        (first | exact limFact_of (TwoFact.keep (And.left (by assumption)) (Below.refl _ _).drew) | exact limFact_of (TwoFact.keep (And.left (by assumption)) (by assumption)))
        (first | (go_at_call 36; refine (eq_fact x _).mono ?_; rintro e wa ⟨rfl, ba⟩))
      rename_i hH
      have hb := hH.1.1
      clear hH
      go_wp2
      go_roundw
      case rel => exact ⟨k + 1, by omega, by go_num, hb⟩
      case measure => simp [intOf]; omega
    · go_wp2
      go_ret
      exact ⟨rfl, hb⟩
theorem eq_facts (w : World) (v1 v2 : Value) (L : List Fc) (hn : L.length ≤ 4194304) (r1 : FactsIn w v1 L) (r2 : FactsIn w v2 L) :
    Calls Try.prog 12 #[v1, v2] w fun e w' => e = .returned (.bool true) ∧ Below w.heap.size w w' := by
  obtain ⟨a, c, rfl, -, q1⟩ := r1
  obtain ⟨b, d, rfl, -, q2⟩ := r2
  by_cases h0 : 0 < L.length
  · rcases q1 with rfl | ⟨g, og, rfl, g1, q1⟩
    · exact absurd h0 (by simp)
    · rcases q2 with rfl | ⟨h, oh, rfl, h1, q2⟩
      · exact absurd h0 (by simp)
      · exact eq_facts_some g og h oh c d L w hn h0 g1 h1 q1 q2
  · obtain rfl := len_zero h0
    exact eq_facts_zero _ _ c d w
set_option maxHeartbeats 1600000 in
set_option maxRecDepth 100000 in
theorem to_facts_some (b off c : Nat) (L : List Fc) (w : World) (hn : L.length ≤ 4194304) (h0 : 0 < L.length) (hb : b < w.heap.size)
    (hA : ∀ j (hj : j < L.length), FactAt w b (off + j * 8) L[j]) :
    Calls Try.prog 26 #[.slice (some ⟨b, off, none⟩) L.length c] w fun e w' => ∃ v', e = .returned v' ∧ FactsNew w w' v' L := by
  obtain ⟨i0, hi, hz0, hz1, hz2⟩ := info_parts infoFact
  have HA := hidIt hA
  clear hA
  go_enter Try.func26, Try.ntmps26
  go_wp2_with (at_make; refine wpList_make_full _ rfl _ _ 29 rfl w.heap.size 46 i0 (.agg #[.int .i64 factZero.th, .int .i64 factZero.k, .int .i64 factZero.a, .int .i64 factZero.r, .int .i64 factZero.v, .int .i64 factZero.t, .int .i64 factZero.b, .int .i64 factZero.e]) 8 Try.underlying29 hi hz0 hz1 .i64 .i64 _ _ L.length rfl rfl rfl rfl (by rw [hz2]; omega) (by unfold maxLen; omega) (Nat.le_refl _) ?_; intro w1 hown hgrow)
  have hb1 : Below w.heap.size w w1 := (Below.refl _ _).grown hgrow (Nat.le_refl _) (fun k hk => by cases hk)
  have hgz : w.heap.size < w1.heap.size ∧ (∀ j, j < L.length * 8 → ∃ x, w1.cell? ⟨w.heap.size, j, none⟩ = some x) ∧ ∀ j, w1.frozen? ⟨w.heap.size, j, none⟩ = false := by
    rcases own_cells2 hown with ⟨h, _⟩ | ⟨g, cap, hv, h1, h2, h3, h4, h5, h6, h7⟩
    · cases h
    · simp at hv
      obtain ⟨rfl, _⟩ := hv
      refine ⟨h2, fun j hj => ?_, h7⟩
      have hl : j < (madeCells (.agg #[.int .i64 factZero.th, .int .i64 factZero.k, .int .i64 factZero.a, .int .i64 factZero.r, .int .i64 factZero.v, .int .i64 factZero.t, .int .i64 factZero.b, .int .i64 factZero.e] : Value).cells (L.length * 8)).toList.length := by omega
      exact ⟨_, h6 j hl⟩
  clear hown hgrow
  obtain ⟨hgs, hg1, hg2⟩ := hgz
  have HG := hidIt hg1
  have HF := hidIt hg2
  clear hg1 hg2
  go_wp2
  go_loopw [4] (fun i wr => ∃ k : Nat, k ≤ L.length ∧ i = .int .i64 k ∧ w.heap.size < wr.heap.size ∧ Below w.heap.size w wr ∧ Hid ((∀ j (hj : j < L.length), j < k → FactAt wr w.heap.size (j * 8) L[j]) ∧ (∀ j, k * 8 ≤ j → j < L.length * 8 → ∃ x, wr.cell? ⟨w.heap.size, j, none⟩ = some x) ∧ ∀ j, wr.frozen? ⟨w.heap.size, j, none⟩ = false)) (fun i _ => L.length - (intOf i).toNat)
  case atStart => exact ⟨0, Nat.zero_le _, rfl, hgs, hb1, ⟨fun j _ hj => by omega, fun j _ hj => HG.out j hj, HF.out⟩⟩
  case round =>
    rename World => wr
    obtain ⟨k, hk, rfl, hgr, hbw, HS⟩ := hrel
    by_cases hlt : k < L.length
    · have hlt' : (k : Int) < (L.length : Int) := by omega
      obtain ⟨r0, r1, r2, r3, r4, r5, r6, r7⟩ := (HA.out k hlt).of (fun q => hbw.cell (p := ⟨b, q, none⟩) hb)
      obtain ⟨y, hy⟩ : ∃ y, L[k] = y := ⟨_, rfl⟩
      have HY := hidIt hy
      rw [hy] at r0 r1 r2 r3 r4 r5 r6 r7
      clear hy
      go_wp2_with fail
      refine (to_fact y _).mono ?_
      rintro e wt ⟨rfl, bt⟩
      have zt := bt.size
      have hx : ∀ i, i < 8 → ∃ z, wt.cell? ⟨w.heap.size, k * 8 + i, none⟩ = some z := fun i hi => by
        obtain ⟨z, hz⟩ := HS.out.2.1 (k * 8 + i) (by omega) (by omega)
        exact ⟨z, below_cell bt hgr hz⟩
      obtain ⟨x0, c0⟩ := hx 0 (by omega)
      obtain ⟨x1, c1⟩ := hx 1 (by omega)
      obtain ⟨x2, c2⟩ := hx 2 (by omega)
      obtain ⟨x3, c3⟩ := hx 3 (by omega)
      obtain ⟨x4, c4⟩ := hx 4 (by omega)
      obtain ⟨x5, c5⟩ := hx 5 (by omega)
      obtain ⟨x6, c6⟩ := hx 6 (by omega)
      obtain ⟨x7, c7⟩ := hx 7 (by omega)
      rw [Nat.add_zero] at c0
      have HX := hidIt hx
      have hz : ∀ j, wt.frozen? ⟨w.heap.size, j, none⟩ = false := fun j => below_frozen bt hgr (HS.out.2.2 j)
      have BT := hidIt bt
      clear bt r0 r1 r2 r3 r4 r5 r6 r7 hx
      go_wp2
      go_roundw
      case rel =>
        refine ⟨k + 1, by omega, by go_num, by simp; omega, putFact_below _ _ _ _ (k * 8) y (below_step hbw (BT.out.mono (by omega))) (Nat.le_refl _), ⟨fun j hj hjk => ?_, fun j hj1 hj2 => ?_, fun j => ?_⟩⟩
        · by_cases ej : j = k
          · subst ej
            rw [HY.out]
            exact putFact_same wt _ (j * 8) y HX.out
          · exact putFact_at wt _ (k * 8) y _ _ _ (FactAt.keep (HS.out.1 j hj (by omega)) hgr BT.out) (by omega)
        · obtain ⟨z, hz⟩ := HS.out.2.1 j (by omega) hj2
          exact ⟨z, (putFact_other wt w.heap.size (k * 8) y w.heap.size j (by omega)).trans (below_cell BT.out hgr hz)⟩
        · exact (putFact_frozen wt w.heap.size (k * 8) y w.heap.size j).trans (below_frozen BT.out hgr (HS.out.2.2 j))
      case measure => simp [intOf]; omega
    · go_wp2
      go_ret
      exact ⟨.slice (some ⟨w.heap.size, 0, none⟩) L.length L.length, rfl, [w.heap.size], ⟨_, L.length, rfl, Nat.le_refl _, .inr ⟨w.heap.size, rfl, rfl, hgr, fun j hj => HS.out.1 j hj (by omega), HS.out.2.2⟩⟩, by simp, by simp, hbw⟩
theorem to_facts_zero (a : Option Addr) (c : Nat) (w : World) :
    Calls Try.prog 26 #[.slice a 0 c] w fun e w' => ∃ v', e = .returned v' ∧ FactsNew w w' v' [] := by
  obtain ⟨i0, hi, hz0, hz1, hz2⟩ := info_parts infoFact
  go_enter Try.func26, Try.ntmps26
  go_wp2_with (at_make; refine wpList_make_full _ rfl _ _ 29 rfl w.heap.size 46 i0 (.agg #[.int .i64 factZero.th, .int .i64 factZero.k, .int .i64 factZero.a, .int .i64 factZero.r, .int .i64 factZero.v, .int .i64 factZero.t, .int .i64 factZero.b, .int .i64 factZero.e]) 8 Try.underlying29 hi hz0 hz1 .i64 .i64 _ _ 0 rfl rfl rfl rfl (by omega) (by unfold maxLen; omega) (Nat.le_refl _) ?_; intro w1 hown hgrow)
  have hb1 : Below w.heap.size w w1 := (Below.refl _ _).grown hgrow (Nat.le_refl _) (fun k hk => by cases hk)
  clear hown hgrow
  go_wp2
  go_loop [4] (fun i => i = .int .i64 0) (fun _ => 0)
  case atStart => rfl
  case round =>
    subst hrel
    go_wp2
    go_ret
    exact ⟨.slice (some ⟨w.heap.size, 0, none⟩) 0 0, rfl, [], ⟨_, 0, rfl, Nat.le_refl _, .inl ⟨rfl, rfl⟩⟩, by simp, by simp, hb1⟩
theorem to_facts (w : World) (v : Value) (L : List Fc) (hn : L.length ≤ 4194304) (h : FactsIn w v L) :
    Calls Try.prog 26 #[v] w fun e w' => ∃ v', e = .returned v' ∧ FactsNew w w' v' L := by
  obtain ⟨a, cap, rfl, -, h⟩ := h
  by_cases h0 : 0 < L.length
  · rcases h with rfl | ⟨b, off, rfl, h1, h2⟩
    · exact absurd h0 (by simp)
    · exact to_facts_some b off cap L w hn h0 h1 h2
  · obtain rfl := len_zero h0
    exact to_facts_zero _ cap w
def mkFactZ (K : Int) : Fc := ⟨K, K + 1, K + 1 + 1, K + 1 + 1 + 1, K + 1 + 1 + 1 + 1, K + 1 + 1 + 1 + 1 + 1, K + 1 + 1 + 1 + 1 + 1 + 1, K + 1 + 1 + 1 + 1 + 1 + 1 + 1⟩
def mkFact (k : Nat) : Fc := mkFactZ (k : Int)
theorem mkFact_z (k0 j : Nat) : mkFact (k0 + 8 * j) = mkFactZ ((k0 : Int) + 8 * (j : Int)) := by
  unfold mkFact
  rw [show (((k0 + 8 * j : Nat)) : Int) = (k0 : Int) + 8 * (j : Int) by push_cast; rfl]
def mkFacts (k n : Nat) : List Fc := (List.range n).map fun j => mkFact (k + 8 * j)
theorem mkFacts_len (k n : Nat) : (mkFacts k n).length = n := by simp [mkFacts]
theorem mkFacts_at (k n j : Nat) (hj : j < (mkFacts k n).length) : (mkFacts k n)[j] = mkFact (k + 8 * j) := by simp [mkFacts]
theorem mark_facts_zero (a : Option Addr) (c k0 : Nat) (w : World) :
    Calls Try.prog 15 #[.slice a 0 c, .int .i64 k0] w fun e w' => e = .returned (.int .i64 k0) ∧ w' = w := by
  go_enter Try.func15, Try.ntmps15
  go_wp2
  go_loop [5, 1] (fun i k => i = .int .i64 0 ∧ k = .int .i64 k0) (fun _ _ => 0)
  case atStart => exact ⟨rfl, rfl⟩
  case round =>
    obtain ⟨rfl, rfl⟩ := hrel
    go_wp2
    go_ret
    exact ⟨rfl, rfl⟩
theorem held_facts_zero (a : Option Addr) (c k0 : Nat) (w : World) :
    Calls Try.prog 16 #[.slice a 0 c, .int .i64 k0] w fun e w' => e = .returned (.int .i64 k0) ∧ w' = w := by
  go_enter Try.func16, Try.ntmps16
  go_wp2
  go_loop [5, 1] (fun i k => i = .int .i64 0 ∧ k = .int .i64 k0) (fun _ _ => 0)
  case atStart => exact ⟨rfl, rfl⟩
  case round =>
    obtain ⟨rfl, rfl⟩ := hrel
    go_wp2
    go_ret
    exact ⟨rfl, rfl⟩
set_option maxHeartbeats 1600000 in
set_option maxRecDepth 100000 in
theorem mark_facts_some (g c n k0 : Nat) (w : World) (hn : n ≤ 4194304) (h2 : k0 ≤ 1073741824) (hg : g < w.heap.size)
    (hA : ∀ j, j < n * 8 → ∃ x, w.cell? ⟨g, j, none⟩ = some x) (hF : ∀ j, w.frozen? ⟨g, j, none⟩ = false) :
    Calls Try.prog 15 #[.slice (some ⟨g, 0, none⟩) n c, .int .i64 k0] w fun e w' => e = .returned (.int .i64 ((k0 + 8 * n : Nat) : Int)) ∧
      (∀ j, j < n → FactAt w' g (j * 8) (mkFact (k0 + 8 * j))) ∧ (∀ j, w'.frozen? ⟨g, j, none⟩ = false) ∧ Kp [g] w w' := by
  have HA := hidIt hA
  have HF := hidIt hF
  clear hA hF
  go_enter Try.func15, Try.ntmps15
  go_wp2
  go_loopw [5, 1] (fun i kk wr => ∃ k : Nat, k ≤ n ∧ i = .int .i64 k ∧ kk = .int .i64 ((k0 + 8 * k : Nat) : Int) ∧ g < wr.heap.size ∧ Kp [g] w wr ∧ Hid ((∀ j, j < k → FactAt wr g (j * 8) (mkFact (k0 + 8 * j))) ∧ (∀ j, k * 8 ≤ j → j < n * 8 → ∃ x, wr.cell? ⟨g, j, none⟩ = some x) ∧ ∀ j, wr.frozen? ⟨g, j, none⟩ = false)) (fun i _ _ => n - (intOf i).toNat)
  case atStart => exact ⟨0, Nat.zero_le _, rfl, rfl, hg, Kp.refl _ _, ⟨fun j hj => by omega, fun j _ hj => HA.out j hj, HF.out⟩⟩
  case round =>
    obtain ⟨k, hk, rfl, rfl, hgr, hb, HS⟩ := hrel
    by_cases hlt : k < n
    · have hx : ∀ i, i < 8 → ∃ z, wr.cell? ⟨g, k * 8 + i, none⟩ = some z := fun i hi => HS.out.2.1 (k * 8 + i) (by omega) (by omega)
      obtain ⟨x0, c0⟩ := hx 0 (by omega)
      obtain ⟨x1, c1⟩ := hx 1 (by omega)
      obtain ⟨x2, c2⟩ := hx 2 (by omega)
      obtain ⟨x3, c3⟩ := hx 3 (by omega)
      obtain ⟨x4, c4⟩ := hx 4 (by omega)
      obtain ⟨x5, c5⟩ := hx 5 (by omega)
      obtain ⟨x6, c6⟩ := hx 6 (by omega)
      obtain ⟨x7, c7⟩ := hx 7 (by omega)
      rw [Nat.add_zero] at c0
      have HX := hidIt hx
      have hz : ∀ j, wr.frozen? ⟨g, j, none⟩ = false := HS.out.2.2
      have hlt' : (k : Int) < (n : Int) := by omega
      clear hx
      go_wp2
      go_roundw
      case rel =>
        have hsz : g < (putFact wr g (k * 8) (mkFactZ ((k0 : Int) + 8 * (k : Int)))).heap.size := by rw [putFact_size]; exact hgr
        have hkp := putFact_kp [g] w wr g (k * 8) (mkFactZ ((k0 : Int) + 8 * (k : Int))) hb (.inl (by simp))
        have hat : ∀ j, j < k + 1 → FactAt (putFact wr g (k * 8) (mkFactZ ((k0 : Int) + 8 * (k : Int)))) g (j * 8) (mkFact (k0 + 8 * j)) := fun j hj => by
          by_cases ej : j = k
          · subst ej
            rw [mkFact_z]
            exact putFact_same wr g (j * 8) _ HX.out
          · exact putFact_at wr g (k * 8) _ _ _ _ (HS.out.1 j (by omega)) (by omega)
        have hex : ∀ j, (k + 1) * 8 ≤ j → j < n * 8 → ∃ x, (putFact wr g (k * 8) (mkFactZ ((k0 : Int) + 8 * (k : Int)))).cell? ⟨g, j, none⟩ = some x := fun j hj1 hj2 => by
          obtain ⟨z, hz⟩ := HS.out.2.1 j (by omega) hj2
          exact ⟨z, (putFact_other wr g (k * 8) _ g j (by omega)).trans hz⟩
        have hfz : ∀ j, (putFact wr g (k * 8) (mkFactZ ((k0 : Int) + 8 * (k : Int)))).frozen? ⟨g, j, none⟩ = false := fun j => (putFact_frozen wr g (k * 8) _ g j).trans (HS.out.2.2 j)
        exact ⟨k + 1, by omega, by go_num, by go_num, hsz, hkp, hat, hex, hfz⟩
      case measure => simp [intOf]; omega
    · have HK : Hid (k = n) := (by omega : k = n)
      go_wp2
      go_ret
      exact ⟨ret_ints (by rw [HK.out]), by rw [← HK.out]; exact HS.out.1, HS.out.2.2, hb⟩
theorem mark_facts (w : World) (v : Value) (xs : List Fc) (fp : List Nat) (k0 : Nat) (hn : xs.length ≤ 4194304) (h2 : k0 ≤ 1073741824) (h : FactsO w v xs fp) :
    Calls Try.prog 15 #[v, .int .i64 k0] w fun e w' => e = .returned (.int .i64 ((k0 + 8 * xs.length : Nat) : Int)) ∧ FactsO w' v (mkFacts k0 xs.length) fp ∧ Kp fp w w' := by
  obtain ⟨a, cap, rfl, hc, h⟩ := h
  by_cases h0 : 0 < xs.length
  · rcases h with ⟨rfl, -⟩ | ⟨g, rfl, rfl, g1, g2, g3⟩
    · exact absurd h0 (by simp)
    · refine (mark_facts_some g cap xs.length k0 w hn h2 g1 (fun j hj => ?_) g3).mono ?_
      · obtain ⟨q, r, hr, rfl⟩ : ∃ q r, r < 8 ∧ j = q * 8 + r := ⟨j / 8, j % 8, by omega, by omega⟩
        obtain ⟨m0, m1, m2, m3, m4, m5, m6, m7⟩ := g2 q (by omega)
        match r, hr with
        | 0, _ => exact ⟨_, m0⟩
        | 1, _ => exact ⟨_, m1⟩
        | 2, _ => exact ⟨_, m2⟩
        | 3, _ => exact ⟨_, m3⟩
        | 4, _ => exact ⟨_, m4⟩
        | 5, _ => exact ⟨_, m5⟩
        | 6, _ => exact ⟨_, m6⟩
        | 7, _ => exact ⟨_, m7⟩
      · rintro e w' ⟨rfl, m1, m2, m3⟩
        exact ⟨rfl, ⟨_, cap, by rw [mkFacts_len], by rw [mkFacts_len]; exact hc, .inr ⟨g, rfl, rfl, Nat.lt_of_lt_of_le g1 m3.size, fun j hj => by rw [mkFacts_at]; exact m1 j (by rw [mkFacts_len] at hj; exact hj), m2⟩⟩, m3⟩
  · obtain rfl := len_zero h0
    rcases h with ⟨-, rfl⟩ | ⟨g, rfl, rfl, g1, g2, g3⟩
    · refine (mark_facts_zero a cap k0 w).mono ?_
      rintro e w' ⟨rfl, rfl⟩
      exact ⟨rfl, ⟨a, cap, rfl, hc, .inl ⟨rfl, rfl⟩⟩, Kp.refl _ _⟩
    · refine (mark_facts_zero _ cap k0 w).mono ?_
      rintro e w' ⟨rfl, rfl⟩
      exact ⟨rfl, ⟨_, cap, rfl, hc, .inr ⟨g, rfl, rfl, g1, fun j hj => by simp [mkFacts] at hj, g3⟩⟩, Kp.refl _ _⟩
set_option maxHeartbeats 1600000 in
set_option maxRecDepth 100000 in
theorem held_facts_some (g c n k0 : Nat) (w : World) (hn : n ≤ 4194304) (h2 : k0 ≤ 1073741824)
    (hA : ∀ j, j < n → FactAt w g (j * 8) (mkFact (k0 + 8 * j))) :
    Calls Try.prog 16 #[.slice (some ⟨g, 0, none⟩) n c, .int .i64 k0] w fun e w' => e = .returned (.int .i64 ((k0 + 8 * n : Nat) : Int)) ∧ w' = w := by
  have HA := hidIt hA
  clear hA
  go_enter Try.func16, Try.ntmps16
  go_wp2
  go_loop [5, 1] (fun i kk => ∃ k : Nat, k ≤ n ∧ i = .int .i64 k ∧ kk = .int .i64 ((k0 + 8 * k : Nat) : Int)) (fun i _ => n - (intOf i).toNat)
  case atStart => exact ⟨0, Nat.zero_le _, rfl, rfl⟩
  case round =>
    obtain ⟨k, hk, rfl, rfl⟩ := hrel
    by_cases hlt : k < n
    · have hx := HA.out k hlt
      rw [mkFact_z] at hx
      obtain ⟨m0, m1, m2, m3, m4, m5, m6, m7⟩ := hx
      simp only [mkFactZ] at m0 m1 m2 m3 m4 m5 m6 m7
      have hlt' : (k : Int) < (n : Int) := by omega
      go_wp2
      go_round
      case rel => exact ⟨k + 1, by omega, by go_num, by go_num⟩
      case measure => simp [intOf]; omega
    · have HK : Hid (k = n) := (by omega : k = n)
      go_wp2
      go_ret
      exact ⟨ret_ints (by rw [HK.out]), rfl⟩
theorem held_facts (w : World) (v : Value) (n k0 : Nat) (fp : List Nat) (hn : n ≤ 4194304) (h2 : k0 ≤ 1073741824) (h : FactsO w v (mkFacts k0 n) fp) :
    Calls Try.prog 16 #[v, .int .i64 k0] w fun e w' => e = .returned (.int .i64 ((k0 + 8 * n : Nat) : Int)) ∧ w' = w := by
  obtain ⟨a, cap, rfl, hc, h⟩ := h
  rw [mkFacts_len]
  by_cases h0 : 0 < n
  · rcases h with ⟨h, -⟩ | ⟨g, rfl, rfl, g1, g2, g3⟩
    · exact absurd (congrArg List.length h) (by rw [mkFacts_len]; simp; omega)
    · exact held_facts_some g cap n k0 w hn h2 (fun j hj => by have := g2 j (by rw [mkFacts_len]; exact hj); rwa [mkFacts_at] at this)
  · obtain rfl : n = 0 := by omega
    exact held_facts_zero a cap k0 w

end Go.Proofs.Ytmifnemjihffkaa
