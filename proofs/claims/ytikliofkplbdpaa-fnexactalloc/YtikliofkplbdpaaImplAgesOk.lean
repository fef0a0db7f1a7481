/- Whether epochs are well: the program's test. -/
import Derived.Test.YtikliofkplbdpaaRows
import Derived.WalkKit
import Derived.ProofKit
import Derived.OpenShut
import Derived.ShutString
import Derived.Test.YtikliofkplbdpaaLimboFns
import Derived.Test.YtikliofkplbdpaaPinsFns
import Derived.Deep.RegionHeld3
namespace Go.Proofs.Ytikliofkplbdpaa
open Go.ChangeShapes Go.WideShapes Go.ChangeAt Go.RowKit
set_option linter.unusedVariables false

theorem two_keep {W0 W W' : World} {b p q : Nat} {x y : Value} (h : Below W0.heap.size W0 W ∧ W.cell? ⟨b, p, none⟩ = some x ∧ W.cell? ⟨b, q, none⟩ = some y ∧ b < W.heap.size) (hb : Below W.heap.size W W') :
    Below W0.heap.size W0 W' ∧ W'.cell? ⟨b, p, none⟩ = some x ∧ W'.cell? ⟨b, q, none⟩ = some y ∧ b < W'.heap.size := by
  obtain ⟨h0, h1, h2, h3⟩ := h
  have := hb.size
  exact ⟨below_step h0 hb, below_cell hb h3 h1, below_cell hb h3 h2, by omega⟩
theorem stepB_no {a : Int} {L : List (Int × Int)} {k : Nat} {T : Bool} {x y la : Int} (hT : nodeB (L.take k) x = T) (hx : (goneAt L k).1 = x) (hy : (goneAt L k).2 = y) (hl : lastAt L k = la) (h : T = true ∨ y < la ∨ a < y) : stepB a L k = false := by
  subst hx hy hl hT
  simp only [stepB]
  rcases h with h | h | h
  · simp [h]
  · have : ¬ (lastAt L k ≤ (goneAt L k).2) := by omega
    simp [this]
  · have : ¬ ((goneAt L k).2 ≤ a) := by omega
    simp [this]
theorem stepB_yes {a : Int} {L : List (Int × Int)} {k : Nat} {T : Bool} {x y la : Int} (hT : nodeB (L.take k) x = T) (hx : (goneAt L k).1 = x) (hy : (goneAt L k).2 = y) (hl : lastAt L k = la) (h1 : T = false) (h2 : la ≤ y) (h3 : y ≤ a) : stepB a L k = true := by
  subst hx hy hl hT
  simp [stepB, h1, h2, h3]

set_option maxHeartbeats 1600000 in
set_option maxRecDepth 100000 in
theorem impl_islimbo_some (b off cap : Nat) (L : List (Int × Int)) (a : Int) (w : World) (hn : L.length ≤ 100) (hc : L.length ≤ cap) (hb : b < w.heap.size)
    (h2 : ∀ j (hj : j < L.length), w.cell? ⟨b, off + j * 2, none⟩ = some (.int .i64 L[j].1) ∧ w.cell? ⟨b, off + j * 2 + 1, none⟩ = some (.int .i64 L[j].2)) :
    Calls Try.prog 47 #[.slice (some ⟨b, off, none⟩) L.length cap, .int .i64 a] w fun e w' => e = .returned (.bool (limB a L L.length)) ∧ Below w.heap.size w w' := by
  have HA := hidIt (PIn.at h2)
  have HP : Hid (PIn w (.slice (some ⟨b, off, none⟩) L.length cap) L) := ⟨_, cap, rfl, hc, .inr ⟨b, off, rfl, hb, h2⟩⟩
  clear h2
  have g1 : ¬ ((100 : Int) < (L.length : Int)) := by omega
  go_enter Try.func47, Try.ntmps47
  go_wp2
  go_loopw [15, 5] (fun i la wr => ∃ k : Nat, k ≤ L.length ∧ i = .int .i64 k ∧ la = .int .i64 (lastAt L k) ∧ Below w.heap.size w wr ∧ Hid (limB a L k = true)) (fun i _ _ => L.length - (intOf i).toNat)
  case atStart => exact ⟨0, Nat.zero_le _, rfl, rfl, Below.refl _ _, rfl⟩
  case round =>
    rename World => wr
    obtain ⟨k, hk, rfl, rfl, hbw, HF⟩ := hrel
    by_cases hlt : k < L.length
    · have c1 := below_cell hbw hb (HA.out k hlt).1
      have c2 := below_cell hbw hb (HA.out k hlt).2
      have hlt' : (k : Int) < (L.length : Int) := by omega
      have hkc : k ≤ cap := by omega
      have hkc' : (k : Int) ≤ (cap : Int) := by omega
      generalize hx : (goneAt L k).1 = x at c1
      generalize hy : (goneAt L k).2 = y at c2
      generalize hl : lastAt L k = la
      have HX := hidIt (And.intro hx (And.intro hy hl))
      have hz := hbw.size
      have hS : Below w.heap.size w (wr.alloc (.cells #[.int .i64 x, .int .i64 y] 65)) ∧ (wr.alloc (.cells #[.int .i64 x, .int .i64 y] 65)).cell? ⟨wr.heap.size, 0, none⟩ = some (.int .i64 x) ∧ (wr.alloc (.cells #[.int .i64 x, .int .i64 y] 65)).cell? ⟨wr.heap.size, 1, none⟩ = some (.int .i64 y) ∧ wr.heap.size < (wr.alloc (.cells #[.int .i64 x, .int .i64 y] 65)).heap.size :=
        ⟨hbw.alloc hz _, by simp [go_sem], by simp [go_sem], by simp⟩
      clear hx hy hl hbw
      go_wp2_with fail
      clear c1 c2
      go_region_held3 (fun W => Below w.heap.size w W ∧ W.cell? ⟨wr.heap.size, 0, none⟩ = some (.int .i64 x) ∧ W.cell? ⟨wr.heap.size, 1, none⟩ = some (.int .i64 y) ∧ wr.heap.size < W.heap.size)
        (first | exact two_keep (by assumption) (Below.refl _ _).drew | exact two_keep (by assumption) (by assumption))
        (first | (go_at_call 51; refine (impl_place _ _ (L.take k) x (by simp; omega) ((HP.out.take k hk).below (And.left (by assumption)))).mono ?_; rintro e wa ⟨rfl, ba⟩))
      all_goals
        rename_i hH
        clear hS ba
        generalize hT : nodeB (L.take k) x = T
        generalize placeI (L.take k) x = pI
        have HT := hidIt hT
        clear hT
        obtain ⟨hb2, d1, d2, -⟩ := hH
        cases T with
        | true =>
          have HN := hidIt (limB_stop a L k L.length (stepB_no HT.out HX.out.1 HX.out.2.1 HX.out.2.2 (.inl rfl)) hlt)
          go_wp2
          go_ret
          exact ⟨ret_boolx (by rw [HN.out]), hb2⟩
        | false =>
          by_cases e1 : y < la
          · have HN := hidIt (limB_stop a L k L.length (stepB_no HT.out HX.out.1 HX.out.2.1 HX.out.2.2 (.inr (.inl e1))) hlt)
            go_wp2
            go_ret
            exact ⟨ret_boolx (by rw [HN.out]), hb2⟩
          · by_cases e2 : a < y
            · have HN := hidIt (limB_stop a L k L.length (stepB_no HT.out HX.out.1 HX.out.2.1 HX.out.2.2 (.inr (.inr e2))) hlt)
              go_wp2
              go_ret
              exact ⟨ret_boolx (by rw [HN.out]), hb2⟩
            · have HN := hidIt (stepB_yes (a := a) HT.out HX.out.1 HX.out.2.1 HX.out.2.2 rfl (by omega) (by omega))
              go_wp2
              go_roundw
              case rel => exact ⟨k + 1, by omega, by go_num, by simp only [lastAt]; rw [HX.out.2.1], hb2, by show limB a L (k + 1) = true; rw [limB, HF.out, HN.out]; rfl⟩
              case measure => simp [intOf]; omega
    · have HE : Hid (limB a L L.length = true) := (by have := HF.out; rwa [show k = L.length by omega] at this : limB a L L.length = true)
      go_wp2
      go_ret
      exact ⟨ret_boolx (by rw [HE.out]), hbw⟩
theorem impl_islimbo_zero (s : Option Addr) (c : Nat) (a : Int) (w : World) :
    Calls Try.prog 47 #[.slice s 0 c, .int .i64 a] w fun e w' => e = .returned (.bool true) ∧ Below w.heap.size w w' := by
  go_enter Try.func47, Try.ntmps47
  go_wp2
  go_loop [15] (fun i => i = .int .i64 0) (fun _ => 0)
  case atStart => rfl
  case round =>
    subst hrel
    go_wp2
    go_ret
    exact ⟨rfl, Below.refl _ _⟩
theorem impl_islimbo_no (s : Option Addr) (n c : Nat) (a : Int) (w : World) (h : 100 < n) :
    Calls Try.prog 47 #[.slice s n c, .int .i64 a] w fun e w' => e = .returned (.bool false) ∧ Below w.heap.size w w' := by
  have g1 : (100 : Int) < (n : Int) := by omega
  go_enter Try.func47, Try.ntmps47
  go_wp2
  go_ret
  exact ⟨rfl, Below.refl _ _⟩
theorem impl_islimbo (w : World) (v : Value) (L : List (Int × Int)) (a : Int) (h : PIn w v L) :
    Calls Try.prog 47 #[v, .int .i64 a] w fun e w' => e = .returned (.bool (decide (L.length ≤ 100) && limB a L L.length)) ∧ Below w.heap.size w w' := by
  obtain ⟨s, cap, rfl, hc, h⟩ := h
  by_cases hl : L.length ≤ 100
  · rw [decide_eq_true hl, Bool.true_and]
    rcases h with rfl | ⟨b, off, rfl, h1, h2⟩
    · exact impl_islimbo_zero s cap a w
    · exact impl_islimbo_some b off cap L a w hl hc h1 h2
  · rw [decide_eq_false hl, Bool.false_and]
    exact impl_islimbo_no s L.length cap a w (by omega)

set_option maxRecDepth 100000 in
theorem impl_agesok (w : World) (a : Int) (p l : Value) (ps : List Int) (L : List (Int × Int)) (h : AIn w p l ps L) :
    Calls Try.prog 36 #[.agg #[.int .i64 a, p, l]] w fun e w' => e = .returned (.bool (okB a ps L)) ∧ Below w.heap.size w w' := by
  have H := hidIt (h.below ((Below.refl w.heap.size w).alloc (Nat.le_refl _) (.cells #[.int .i64 a, p, l] 31)))
  obtain ⟨pa, pc, la, lc, rfl, rfl, -⟩ := h.form
  clear h
  by_cases h0 : 0 ≤ a ∧ a ≤ 4294967295
  · have e0 := decide_eq_true h0
    have HO : Hid (okB a ps L = (decide (1 ≤ ps.length ∧ ps.length ≤ 8) && ps.all (pinB a) && (decide (L.length ≤ 100) && limB a L L.length))) := (by rw [okB, e0, Bool.true_and] : okB a ps L = _)
    obtain ⟨a0, a1⟩ := h0
    generalize hP : (decide (1 ≤ ps.length ∧ ps.length ≤ 8) && ps.all (pinB a)) = P at HO
    generalize hQ : (decide (L.length ≤ 100) && limB a L L.length) = Q at HO
    have HP := hidIt hP
    have HQ := hidIt hQ
    clear hP hQ
    go_enter Try.func36, Try.ntmps36
    cases P with
    | true =>
      go_wp2_with (first | (go_at_call 45; refine (impl_isnum a _).mono ?_; rintro e w1 ⟨rfl, rfl⟩; rw [e0]) | (go_at_call 46; refine (impl_arepins _ _ ps a a0 a1 H.out.pins).mono ?_; rintro e w1 ⟨rfl, rfl⟩; rw [HP.out]) | (go_at_call 47; refine (impl_islimbo _ _ L a H.out.limbo).mono ?_; rintro e w1 ⟨rfl, b1⟩; rw [HQ.out]))
      go_ret
      exact ⟨ret_boolx (by rw [HO.out]; simp), below_step ((Below.refl w.heap.size w).alloc (Nat.le_refl _) _) b1⟩
    | false =>
      go_wp2_with (first | (go_at_call 45; refine (impl_isnum a _).mono ?_; rintro e w1 ⟨rfl, rfl⟩; rw [e0]) | (go_at_call 46; refine (impl_arepins _ _ ps a a0 a1 H.out.pins).mono ?_; rintro e w1 ⟨rfl, rfl⟩; rw [HP.out]))
      go_ret
      exact ⟨ret_boolx (by rw [HO.out]; simp), (Below.refl w.heap.size w).alloc (Nat.le_refl _) _⟩
  · have e0 := decide_eq_false h0
    have HO : Hid (okB a ps L = false) := (by rw [okB, e0]; simp : okB a ps L = false)
    clear h0
    go_enter Try.func36, Try.ntmps36
    go_wp2_with (go_at_call 45; refine (impl_isnum a _).mono ?_; rintro e w1 ⟨rfl, rfl⟩; rw [e0])
    go_ret
    exact ⟨ret_boolx (by rw [HO.out]), (Below.refl w.heap.size w).alloc (Nat.le_refl _) _⟩

end Go.Proofs.Ytikliofkplbdpaa
