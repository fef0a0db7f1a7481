/- Whether a node is safe: the model's and the program's. -/
import Derived.Test.YtomehhheiodagabRows
import Derived.WalkKit
import Derived.ProofKit
import Derived.OpenShut
import Derived.ShutString
import Derived.Test.YtomehhheiodagabSpecAgesOk
import Derived.Test.YtomehhheiodagabPinned
namespace Go.Proofs.Ytomehhheiodagab
open Go.ChangeShapes Go.WideShapes Go.ChangeAt Go.RowKit
set_option linter.unusedVariables false

def safeB (a : Int) (ps : List Int) (L : List (Int × Int)) (x : Int) : Bool := okB a ps L && (!nodeB L x || !pinnedB ps (goneAt L (placeN x L)).2)
theorem limB_all (a : Int) (L : List (Int × Int)) (m : Nat) (h : limB a L m = true) : ∀ k, k < m → stepB a L k = true := by
  induction m with
  | zero => intro k hk; omega
  | succ m ih =>
    simp only [limB, Bool.and_eq_true] at h
    intro k hk
    by_cases e : k = m
    · subst e; exact h.2
    · exact ih h.1 k (by omega)
theorem stepB_ne {a : Int} {L : List (Int × Int)} {k j : Nat} (h : stepB a L k = true) (hk : k < L.length) (hj : j < k) : (goneAt L j).1 ≠ (goneAt L k).1 := by
  simp only [stepB, Bool.and_eq_true, Bool.not_eq_true'] at h
  intro e
  have h2 := h.2
  have : nodeB (L.take k) (goneAt L k).1 = true := by
    refine nodeB_hit (L.take k) j _ (by simp; omega) ?_
    rw [← e]
    simp [goneAt, hj]
  rw [this] at h2
  cases h2
theorem limB_uniq {a : Int} {L : List (Int × Int)} (h : limB a L L.length = true) {j k : Nat} (hj : j < L.length) (hk : k < L.length) (e : (goneAt L j).1 = (goneAt L k).1) : j = k := by
  rcases Nat.lt_trichotomy j k with hlt | rfl | hlt
  · exact absurd e (stepB_ne (limB_all a L _ h k hk) hk hlt)
  · rfl
  · exact absurd e.symm (stepB_ne (limB_all a L _ h j hj) hj hlt)
theorem safeB_bad {a : Int} {ps : List Int} {L : List (Int × Int)} {x : Int} {k : Nat} (hk : k < L.length) (hx : (goneAt L k).1 = x) (hp : pinnedB ps (goneAt L k).2 = true) : safeB a ps L x = false := by
  cases hB : okB a ps L with
  | false => simp [safeB, hB]
  | true =>
    have hn := nodeB_hit L k x hk hx
    have hpl := nodeB_place L x hn
    obtain ⟨-, -, -, -, -, -, hl⟩ := okB_len hB
    have e := limB_uniq hl hpl.1 hk (hpl.2.trans hx.symm)
    simp [safeB, hB, hn, e, hp]
theorem safeB_end {a : Int} {ps : List Int} {L : List (Int × Int)} {x : Int} (h : ∀ k, k < L.length → (goneAt L k).1 = x → pinnedB ps (goneAt L k).2 = false) : safeB a ps L x = okB a ps L := by
  cases hn : nodeB L x with
  | false => simp [safeB, hn]
  | true =>
    have hpl := nodeB_place L x hn
    simp [safeB, h _ hpl.1 hpl.2]
theorem pinned_hit {ps : List Int} {m : Int} {j : Nat} (hj : j < ps.length) (h1 : ps[j] ≠ -1) (h2 : ps[j] ≤ m) : pinnedB ps m = true := by
  rw [pinnedB, List.any_eq_true]
  exact ⟨ps[j], List.getElem_mem hj, by simp [h1, h2]⟩
theorem pinned_miss {ps : List Int} {m : Int} (h : ∀ j (hj : j < ps.length), ps[j] = -1 ∨ m < ps[j]) : pinnedB ps m = false := by
  rw [pinnedB, List.any_eq_false]
  intro p hp
  obtain ⟨j, hj, rfl⟩ := List.mem_iff_getElem.1 hp
  have := h j hj
  simp
  omega

theorem box_keep {W0 W W' : World} {b c d o : Nat} {x0 x1 x2 y : Value} (h : Below W0.heap.size W0 W ∧ W.cell? ⟨b, 0, none⟩ = some x0 ∧ W.cell? ⟨b, 1, none⟩ = some x1 ∧ W.cell? ⟨b, 2, none⟩ = some x2 ∧ W.cell? ⟨c, o, none⟩ = some y ∧ b < W.heap.size ∧ c < W.heap.size) (hb : Below W.heap.size W W') :
    Below W0.heap.size W0 W' ∧ W'.cell? ⟨b, 0, none⟩ = some x0 ∧ W'.cell? ⟨b, 1, none⟩ = some x1 ∧ W'.cell? ⟨b, 2, none⟩ = some x2 ∧ W'.cell? ⟨c, o, none⟩ = some y ∧ b < W'.heap.size ∧ c < W'.heap.size := by
  obtain ⟨h0, h1, h2, h3, h4, h5, h6⟩ := h
  have := hb.size
  exact ⟨below_step h0 hb, below_cell hb h5 h1, below_cell hb h5 h2, below_cell hb h5 h3, below_cell hb h6 h4, by omega, by omega⟩

set_option maxHeartbeats 1600000 in
set_option maxRecDepth 100000 in
theorem impl_safe (w : World) (a : Int) (p l : Value) (ps : List Int) (L : List (Int × Int)) (x : Int) (hA : AIn w p l ps L) :
    Calls Try.prog 16 #[.agg #[.int .i64 a, p, l], .int .i64 x] w fun e w' => e = .returned (.bool (safeB a ps L x)) ∧ Below w.heap.size w w' := by
  obtain ⟨pa, pc, la, lc, rfl, rfl, -⟩ := hA.form
  have bW := (Below.refl w.heap.size w).alloc (Nat.le_refl _) (.cells #[.int .i64 a, .slice pa ps.length pc, .slice la L.length lc] 29)
  have H := hidIt (hA.below bW)
  have BW := hidIt bW
  clear hA bW
  go_enter Try.func16, Try.ntmps16
  go_wp2_with fail
  generalize hW : World.alloc w _ = W1 at H BW ⊢
  have z1 : W1.heap.size = w.heap.size + 1 := by rw [← hW]; simp
  have c0 : W1.cell? ⟨w.heap.size, 0, none⟩ = some (.int .i64 a) := by rw [← hW]; simp [go_sem]
  have c1 : W1.cell? ⟨w.heap.size, 1, none⟩ = some (.slice pa ps.length pc) := by rw [← hW]; simp [go_sem]
  have c2 : W1.cell? ⟨w.heap.size, 2, none⟩ = some (.slice la L.length lc) := by rw [← hW]; simp [go_sem]
  clear hW
  refine (impl_agesok W1 a _ _ ps L H.out).mono ?_
  rintro e w3 ⟨rfl, b3⟩
  have z3 := b3.size
  have B3 := hidIt (BW.out.trans (b3.mono (by omega)))
  have H3 := hidIt (H.out.below b3)
  replace c0 := below_cell b3 (by omega) c0
  replace c1 := below_cell b3 (by omega) c1
  replace c2 := below_cell b3 (by omega) c2
  clear b3
  cases hB : okB a ps L with
  | false =>
    have HS : Hid (safeB a ps L x = false) := (by simp [safeB, hB] : safeB a ps L x = false)
    go_wp2
    go_ret
    exact ⟨ret_boolx (by rw [HS.out]), B3.out⟩
  | true =>
    obtain ⟨a0, a1, n1, n8, m1, -, -⟩ := okB_len hB
    go_wp2_with fail
    refine (impl_place w3 _ L x (by omega) H3.out.limbo).mono ?_
    rintro e w4 ⟨rfl, b4⟩
    have z4 := b4.size
    have B4 := hidIt (B3.out.trans (b4.mono (by omega)))
    have H4 := hidIt (H3.out.below b4)
    replace c0 := below_cell b4 (by omega) c0
    replace c1 := below_cell b4 (by omega) c1
    replace c2 := below_cell b4 (by omega) c2
    clear b4
    cases hN : nodeB L x with
    | false =>
      have HS : Hid (safeB a ps L x = true) := (by simp [safeB, hB, hN] : safeB a ps L x = true)
      generalize placeI L x = pI
      go_wp2_with fail
      go_quiet (fail)
      go_wp2
      go_ret
      exact ⟨ret_boolx (by rw [HS.out]), below_drewN B4.out _⟩
    | true =>
      have hpl := nodeB_place L x hN
      have hpi : placeI L x = (placeN x L : Int) := by rw [placeI, if_pos hN]
      have HS : Hid (safeB a ps L x = !pinnedB ps (goneAt L (placeN x L)).2) := (by simp [safeB, hB, hN] : safeB a ps L x = _)
      rw [hpi]
      generalize placeN x L = i at hpl HS
      obtain ⟨la', lc', hlv, -, hl⟩ := H4.out.limbo
      simp at hlv
      obtain ⟨rfl, rfl⟩ := hlv
      rcases hl with hl | ⟨b2, off2, rfl, hb2, hl⟩
      · have := hpl.1; rw [hl] at this; simp at this
      have d1 := (PIn.at hl i hpl.1).2
      generalize (goneAt L i).2 = y at d1 HS
      have hi' : (i : Int) < (L.length : Int) := by have := hpl.1; omega
      have hi0 : (0 : Int) ≤ (i : Int) := by omega
      clear hl hpl hpi
      have hS : Below w4.heap.size w4 w4 ∧ w4.cell? ⟨w.heap.size, 0, none⟩ = some (.int .i64 a) ∧ w4.cell? ⟨w.heap.size, 1, none⟩ = some (.slice pa ps.length pc) ∧ w4.cell? ⟨w.heap.size, 2, none⟩ = some (.slice (some ⟨b2, off2, none⟩) L.length lc) ∧ w4.cell? ⟨b2, off2 + i * 2 + 1, none⟩ = some (.int .i64 y) ∧ w.heap.size < w4.heap.size ∧ b2 < w4.heap.size := ⟨Below.refl _ _, c0, c1, c2, d1, by omega, hb2⟩
      clear c0 c1 c2 d1
      go_wp2_with fail
      go_region_held3 (fun W => Below w4.heap.size w4 W ∧ W.cell? ⟨w.heap.size, 0, none⟩ = some (.int .i64 a) ∧ W.cell? ⟨w.heap.size, 1, none⟩ = some (.slice pa ps.length pc) ∧ W.cell? ⟨w.heap.size, 2, none⟩ = some (.slice (some ⟨b2, off2, none⟩) L.length lc) ∧ W.cell? ⟨b2, off2 + i * 2 + 1, none⟩ = some (.int .i64 y) ∧ w.heap.size < W.heap.size ∧ b2 < W.heap.size)
        (first | exact box_keep (d := 0) (by assumption) (Below.refl _ _).drew | exact box_keep (d := 0) (by assumption) (by assumption))
        (first | (go_at_call 28; refine (impl_pinned _ a _ _ ps L y (by omega) (H4.out.below (And.left (by assumption)))).mono ?_; rintro e wa ⟨rfl, ba⟩))
      all_goals
        rename_i hH
        have hb5 := hH.1
        clear hH hS ba
        go_wp2
        go_ret
        exact ⟨ret_boolx (by rw [HS.out]), B4.out.trans (hb5.mono (by omega))⟩

set_option maxHeartbeats 1600000 in
set_option maxRecDepth 100000 in
theorem spec_safe (w : World) (a : Int) (p l : Value) (ps : List Int) (L : List (Int × Int)) (x : Int) (hn : ps.length ≤ 4194304) (hm : L.length ≤ 4194304) (hA : AIn w p l ps L) :
    Calls Try.prog 15 #[.agg #[.int .i64 a, p, l], .int .i64 x] w fun e w' => e = .returned (.bool (safeB a ps L x)) ∧ Below w.heap.size w w' := by
  obtain ⟨pa, pc, la, lc, rfl, rfl, -⟩ := hA.form
  have bW := (Below.refl w.heap.size w).alloc (Nat.le_refl _) (.cells #[.int .i64 a, .slice pa ps.length pc, .slice la L.length lc] 29)
  have H := hidIt (hA.below bW)
  have BW := hidIt bW
  clear hA bW
  have HBAD := hidIt (fun (k : Nat) => safeB_bad (a := a) (ps := ps) (L := L) (x := x) (k := k))
  have HEND := hidIt (safeB_end (a := a) (ps := ps) (L := L) (x := x))
  generalize safeB a ps L x = R at HBAD HEND
  go_enter Try.func15, Try.ntmps15
  go_wp2_with fail
  generalize hW : World.alloc w _ = W1 at H BW ⊢
  have z1 : W1.heap.size = w.heap.size + 1 := by rw [← hW]; simp
  have c0 : W1.cell? ⟨w.heap.size, 0, none⟩ = some (.int .i64 a) := by rw [← hW]; simp [go_sem]
  have c1 : W1.cell? ⟨w.heap.size, 1, none⟩ = some (.slice pa ps.length pc) := by rw [← hW]; simp [go_sem]
  have c2 : W1.cell? ⟨w.heap.size, 2, none⟩ = some (.slice la L.length lc) := by rw [← hW]; simp [go_sem]
  clear hW
  go_loopw [12] (fun i wr => ∃ k : Nat, k ≤ L.length ∧ i = .int .i64 k ∧ Below W1.heap.size W1 wr ∧ Hid (∀ j, j < k → (goneAt L j).1 = x → pinnedB ps (goneAt L j).2 = false)) (fun i _ => L.length - (intOf i).toNat)
  case atStart => exact ⟨0, Nat.zero_le _, rfl, Below.refl _ _, fun j hj => by omega⟩
  case round =>
    rename World => wr
    obtain ⟨k, hk, rfl, hbw, HF⟩ := hrel
    have hz := hbw.size
    by_cases hlt : k < L.length
    · obtain ⟨la', lc', hlv, -, hl⟩ := H.out.limbo.below hbw
      simp at hlv
      obtain ⟨rfl, rfl⟩ := hlv
      rcases hl with hl | ⟨b2, off2, rfl, hb2, hl⟩
      · rw [hl] at hlt; simp at hlt
      have d1 := (PIn.at hl k hlt).1
      have d2 := (PIn.at hl k hlt).2
      have hlt' : (k : Int) < (L.length : Int) := by omega
      have HX := hidIt (HBAD.out k hlt)
      have HG : Hid (((goneAt L k).1 = x → pinnedB ps (goneAt L k).2 = false) → ∀ j, j < k + 1 → (goneAt L j).1 = x → pinnedB ps (goneAt L j).2 = false) := fun h j hj => by
        by_cases e : j = k
        · subst e; exact h
        · exact HF.out j (by omega)
      generalize (goneAt L k).1 = q at d1 HX HG
      generalize (goneAt L k).2 = y at d2 HX HG
      have k1 := below_cell hbw (by omega) c1
      clear hl
      by_cases hq : q = x
      · subst hq
        have HX2 := hidIt (HX.out rfl)
        have HG3 := hidIt (fun h => HG.out (fun _ => h))
        clear HX HG
        have PI := H.out.pins.below (hbw.alloc hz (.cells #[.int .i64 q, .int .i64 y] 43))
        obtain ⟨pa', pc', hpv, hp⟩ := PI
        simp at hpv
        obtain ⟨rfl, rfl⟩ := hpv
        have HP : Hid (∀ j (hj : j < ps.length), ∃ b off, pa = some ⟨b, off, none⟩ ∧ (wr.alloc (.cells #[.int .i64 q, .int .i64 y] 43)).cell? ⟨b, off + j, none⟩ = some (.int .i64 ps[j])) := fun j hj => by
          rcases hp with hp | ⟨b, off, e, -, hp⟩
          · rw [hp] at hj; simp at hj
          · exact ⟨b, off, e, hp j hj⟩
        clear hp
        have hlz : w.heap.size < wr.heap.size := by omega
        go_wp2_with fail
        generalize hW3 : World.alloc wr _ = W3 at HP ⊢
        have HB3 : Hid (Below W1.heap.size W1 W3) := (by rw [← hW3]; exact hbw.alloc hz _ : Below W1.heap.size W1 W3)
        have g1 : W3.cell? ⟨wr.heap.size, 1, none⟩ = some (.int .i64 y) := by rw [← hW3]; simp [go_sem]
        clear hW3 d1 d2 k1
        go_loop [23] (fun i => ∃ j : Nat, j ≤ ps.length ∧ i = .int .i64 j ∧ Hid (∀ i (hi : i < ps.length), i < j → ps[i] = -1 ∨ y < ps[i])) (fun i => ps.length - (intOf i).toNat)
        case atStart => exact ⟨0, Nat.zero_le _, rfl, fun i _ hi => by omega⟩
        case round =>
          obtain ⟨j, hj, rfl, HJ⟩ := hrel
          by_cases hjl : j < ps.length
          · obtain ⟨b, off, rfl, c3⟩ := HP.out j hjl
            have hjl' : (j : Int) < (ps.length : Int) := by omega
            have HH := hidIt (fun h1 h2 => HX2.out (pinned_hit (m := y) hjl h1 h2))
            have HJ2 : Hid ((ps[j] = -1 ∨ y < ps[j]) → ∀ i (hi : i < ps.length), i < j + 1 → ps[i] = -1 ∨ y < ps[i]) := fun h i hi hij => by
              by_cases e : i = j
              · subst e; exact h
              · exact HJ.out i hi (by omega)
            generalize ps[j] = z at c3 HH HJ2
            by_cases e1 : z = -1
            · subst e1
              have HK := hidIt (HJ2.out (.inl rfl))
              clear HJ2 HH
              go_wp2
              go_round
              case rel => exact ⟨j + 1, by omega, by go_num, HK.out⟩
              case measure => simp [intOf]; omega
            · have f1 : (z != -1) = true := by simpa using e1
              by_cases e2 : z ≤ y
              · have HR := hidIt (HH.out e1 e2)
                clear HJ2 HH e1
                go_wp2
                go_ret
                exact ⟨ret_boolx (by rw [HR.out]), BW.out.trans (HB3.out.mono (by omega))⟩
              · have HK := hidIt (HJ2.out (.inr (by omega)))
                clear HJ2 HH e1
                go_wp2
                go_round
                case rel => exact ⟨j + 1, by omega, by go_num, HK.out⟩
                case measure => simp [intOf]; omega
          · have HG2 := hidIt (HG3.out (pinned_miss (fun i hi => HJ.out i hi (by omega))))
            go_wp2
            go_roundw
            case rel => exact ⟨k + 1, by omega, by go_num, HB3.out, HG2.out⟩
            case measure => simp [intOf]; omega
      · have hq2 : (q != x) = true := by simpa using hq
        have HG2 := hidIt (HG.out (fun e => absurd e hq))
        clear hq HX HG
        go_wp2
        go_roundw
        case rel => exact ⟨k + 1, by omega, by go_num, hbw.alloc hz _, HG2.out⟩
        case measure => simp [intOf]; omega
    · have HE := hidIt (HEND.out (fun j hj => HF.out j (by omega)))
      have k0 := below_cell hbw (by omega) c0
      have k1 := below_cell hbw (by omega) c1
      have k2 := below_cell hbw (by omega) c2
      have BX := hidIt (BW.out.trans (hbw.mono (by omega)))
      have HH := hidIt (H.out.below hbw)
      go_wp2_with fail
      refine (spec_agesok wr a _ _ ps L HH.out).mono ?_
      rintro e w5 ⟨rfl, b5⟩
      go_wp2
      go_ret
      exact ⟨ret_boolx (by rw [HE.out]), BX.out.trans (b5.mono (by omega))⟩

end Go.Proofs.Ytomehhheiodagab
