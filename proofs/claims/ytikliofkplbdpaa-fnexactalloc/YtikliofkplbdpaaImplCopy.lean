/- Epochs copied, by the program. -/
import Derived.Test.YtikliofkplbdpaaRows
import Derived.WalkKit
import Derived.ProofKit
import Derived.OpenShut
import Derived.ShutString
import Derived.Test.YtikliofkplbdpaaCopyPlain
import Derived.Test.YtikliofkplbdpaaGoneCopy
import Derived.Deep.DeepCutAuto
namespace Go.Proofs.Ytikliofkplbdpaa
open Go.ChangeShapes Go.WideShapes Go.ChangeAt Go.RowKit
set_option linter.unusedVariables false

structure AO (lo : Nat) (p l : Value) (ps : List Int) (L : List (Int × Int)) (W : World) : Prop where
  pins : W.ownsRow lo 3 1 p ps.length (ints ps)
  limbo : W.ownsRow lo 65 2 l L.length (gones L)
  apart : ∀ g, p.ownBlock = some g → l.ownBlock = some g → False
theorem AO.ar {lo : Nat} {p l : Value} {ps : List Int} {L : List (Int × Int)} {W : World} (h : AO lo p l ps L W) : AR lo W.heap.size p l ps L W := by
  refine ⟨Row.of_owns h.pins, Rw.of_owns h.limbo, fun h1 h2 e => ?_⟩
  obtain ⟨g, cap, hv, -, -⟩ := h.pins.form h1
  exact h.apart g (by rw [hv]; rfl) (by rw [← e, hv]; rfl)
theorem own_of_block {W : World} {lo g n cap size : Nat} {e : TypeId} {cur : Array Value} {xs : List Value} (hg : W.heap[g]? = some (.cells cur e (0, 0))) (hl : lo ≤ g) (hn : n ≤ cap) (hc : cap ≤ maxLen) (hs : cur.size = cap * size) (hx : xs.length = n * size) (ht : cur.toList.take (n * size) = xs) :
    W.ownsRow lo e size (.slice (some ⟨g, 0, none⟩) n cap) n xs := ⟨hx, .inr ⟨g, cap, cur, rfl, hl, hg, hn, hc, hs, ht⟩⟩
/- two rows that were made and a struct that holds them, in whatever order -/
structure Cp (W2 W : World) (a : Int) (n m : Nat) (Z1 Z2 : Array Value) (b g1 g2 : Nat) : Prop where
  below : Below W2.heap.size W2 W
  hb : W2.heap.size ≤ b ∧ b < W.heap.size
  h1 : W2.heap.size ≤ g1 ∧ g1 < W.heap.size
  h2 : W2.heap.size ≤ g2 ∧ g2 < W.heap.size
  ne : b ≠ g1 ∧ b ≠ g2 ∧ g1 ≠ g2
  c0 : W.cell? ⟨b, 0, none⟩ = some (.int .i64 a)
  c1 : W.cell? ⟨b, 1, none⟩ = some (.slice (some ⟨g1, 0, none⟩) n n)
  c2 : W.cell? ⟨b, 2, none⟩ = some (.slice (some ⟨g2, 0, none⟩) m m)
  row1 : W.heap[g1]? = some (.cells Z1 3 (0, 0))
  row2 : W.heap[g2]? = some (.cells Z2 65 (0, 0))
def CpS (W2 : World) (a : Int) (n m : Nat) (Z1 Z2 : Array Value) (s : Value) (W : World) : Prop := ∃ b g1 g2, s = .pointer (some ⟨b, 0, none⟩) ∧ Cp W2 W a n m Z1 Z2 b g1 g2

theorem blk0 {W2 : World} {N : Nat} (hN : W2.heap.size = N) (o1 o2 o3 : Obj) : (((W2.alloc o1).alloc o2).alloc o3).drew.heap[N]? = some o1 := by
  subst hN
  show (((W2.alloc o1).alloc o2).alloc o3).heap[W2.heap.size]? = _
  rw [Below.heap_alloc _ _ _ (by simp; omega), Below.heap_alloc _ _ _ (by simp)]
  exact heap_alloc_new _ _
theorem blk1 {W2 : World} {N : Nat} (hN : W2.heap.size = N) (o1 o2 o3 : Obj) : (((W2.alloc o1).alloc o2).alloc o3).drew.heap[N + 1]? = some o2 := by
  subst hN
  show (((W2.alloc o1).alloc o2).alloc o3).heap[W2.heap.size + 1]? = _
  rw [Below.heap_alloc _ _ _ (by simp)]
  have := heap_alloc_new (W2.alloc o1) o2
  simpa using this
theorem blk2 {W2 : World} {N : Nat} (hN : W2.heap.size = N) (o1 o2 o3 : Obj) : (((W2.alloc o1).alloc o2).alloc o3).drew.heap[N + 1 + 1]? = some o3 := by
  subst hN
  show (((W2.alloc o1).alloc o2).alloc o3).heap[W2.heap.size + 1 + 1]? = _
  have := heap_alloc_new ((W2.alloc o1).alloc o2) o3
  simpa using this
theorem cp_mk {W2 : World} {N : Nat} {a : Int} {n m : Nat} {Z1 Z2 : Array Value} {b g1 g2 : Nat} {o1 o2 o3 : Obj} (hN : W2.heap.size = N)
    (hb : (((W2.alloc o1).alloc o2).alloc o3).drew.heap[b]? = some (.cells #[.int .i64 a, .slice (some ⟨g1, 0, none⟩) n n, .slice (some ⟨g2, 0, none⟩) m m] 31 (0, 0)))
    (h1 : (((W2.alloc o1).alloc o2).alloc o3).drew.heap[g1]? = some (.cells Z1 3 (0, 0))) (h2 : (((W2.alloc o1).alloc o2).alloc o3).drew.heap[g2]? = some (.cells Z2 65 (0, 0)))
    (hr : N ≤ b ∧ N ≤ g1 ∧ N ≤ g2 ∧ b ≠ g1 ∧ b ≠ g2 ∧ g1 ≠ g2) : CpS W2 a n m Z1 Z2 (.pointer (some ⟨b, 0, none⟩)) (((W2.alloc o1).alloc o2).alloc o3).drew := by
  subst hN
  refine ⟨b, g1, g2, rfl, ⟨((((Below.refl _ _).alloc (Nat.le_refl _) _).alloc (by simp) _).alloc (by simp; omega) _).drew, ⟨hr.1, (Array.getElem?_eq_some_iff.1 hb).1⟩, ⟨hr.2.1, (Array.getElem?_eq_some_iff.1 h1).1⟩, ⟨hr.2.2.1, (Array.getElem?_eq_some_iff.1 h2).1⟩, hr.2.2.2, ?_, ?_, ?_, h1, h2⟩⟩
  all_goals simp only [World.cell?, hb]; rfl

theorem inrow_src {w : World} {s : Option Addr} {c : Nat} {ps : List Int} (h : InRow w (.slice s ps.length c) ps) : 0 < (ints ps).length → ∃ ad, s = some ad ∧ ∀ j v, (ints ps)[j]? = some v → w.cell? (ad.add j) = some v := by
  intro hp
  obtain ⟨a, cap, hv, h⟩ := h
  simp at hv
  obtain ⟨rfl, rfl⟩ := hv
  rcases h with rfl | ⟨b, off, rfl, -, h2⟩
  · simp at hp
  · refine ⟨_, rfl, fun j v hj => ?_⟩
    have hadd : (⟨b, off, none⟩ : Addr).add j = ⟨b, off + j, none⟩ := by unfold Addr.add; split <;> simp_all
    obtain ⟨hlt, he⟩ := List.getElem?_eq_some_iff.1 hj
    rw [hadd, ← he, h2 j (by simpa using hlt)]
    simp
theorem pin_src {w : World} {s : Option Addr} {c : Nat} {L : List (Int × Int)} (h : PIn w (.slice s L.length c) L) : 0 < (gones L).length → ∃ ad, s = some ad ∧ ∀ j v, (gones L)[j]? = some v → w.cell? (ad.add j) = some v := by
  intro hp
  have l := gones_len L
  obtain ⟨a, cap, hv, -, h⟩ := h
  simp at hv
  obtain ⟨rfl, rfl⟩ := hv
  rcases h with rfl | ⟨b, off, rfl, -, h2⟩
  · simp [gones_nil] at hp
  · refine ⟨_, rfl, fun j v hj => ?_⟩
    have hadd : (⟨b, off, none⟩ : Addr).add j = ⟨b, off + j, none⟩ := by unfold Addr.add; split <;> simp_all
    obtain ⟨hlt, he⟩ := List.getElem?_eq_some_iff.1 hj
    rw [hadd]
    have hk : j / 2 < L.length := by omega
    have e := gones_at L (j / 2) hk
    have c := h2 (j / 2) hk
    rcases (by omega : j = j / 2 * 2 ∨ j = j / 2 * 2 + 1) with ej | ej
    · rw [← ej, hj] at e
      rw [← ej] at c
      rw [c.1, ← e.1]
    · rw [← ej, hj] at e
      rw [Nat.add_assoc, ← ej] at c
      rw [c.2, ← e.2]
theorem far {w w' : World} {g b o : Nat} {x : Option Value} (h : w.grownBy w' (some g)) (hb : b < w.heap.size) (hn : b ≠ g) (hx : w.cell? ⟨b, o, none⟩ = x) : w'.cell? ⟨b, o, none⟩ = x := (h.cell_far ⟨b, o, none⟩ hb (by simpa using hn)).trans hx
theorem far_frozen {w w' : World} {g b o : Nat} {x : Bool} (h : w.grownBy w' (some g)) (hb : b < w.heap.size) (hn : b ≠ g) (hx : w.frozen? ⟨b, o, none⟩ = x) : w'.frozen? ⟨b, o, none⟩ = x := (h.frozen_far ⟨b, o, none⟩ hb (by simpa using hn)).trans hx
theorem far_block {w w' : World} {g b : Nat} {x : Option Obj} (h : w.grownBy w' (some g)) (hb : b < w.heap.size) (hn : b ≠ g) (hx : w.heap[b]? = x) : w'.heap[b]? = x := (h.block b hb (by simpa using hn)).trans hx
theorem far_below {w0 w w' : World} {g : Nat} (b : Below w0.heap.size w0 w) (h : w.grownBy w' (some g)) (hg : w0.heap.size ≤ g) : Below w0.heap.size w0 w' := b.grown h b.size (fun k hk => by cases hk; exact hg)

set_option maxHeartbeats 1600000 in
set_option maxRecDepth 100000 in
theorem impl_copyages (w : World) (a : Int) (p l : Value) (ps : List Int) (L : List (Int × Int)) (hn : ps.length ≤ 4194304) (hm : L.length ≤ 4194304) (h : AIn w p l ps L) :
    Calls Try.prog 20 #[.agg #[.int .i64 a, p, l]] w fun e w' => ∃ p' l', e = .returned (.agg #[.int .i64 a, p', l']) ∧ AO w.heap.size p' l' ps L w' ∧ Below w.heap.size w w' := by
  obtain ⟨i1, hi1, hy0, hy1, hy2⟩ := info_parts info3
  obtain ⟨i2, hi2, hz0, hz1, hz2⟩ := info_parts infoGone
  have H := hidIt h
  obtain ⟨pa, pc, la, lc, rfl, rfl, -⟩ := h.form
  clear h
  have mk1 : ∀ W, (Instr.makeSlice 22 (.int .i64 (ps.length : Int)) (.int .i64 (ps.length : Int))).run Try.prog W = .ok (.slice (some ⟨W.heap.size, 0, none⟩) ps.length ps.length) (W.alloc (.cells (madeCells (Value.int .i64 0).cells (ps.length * 1)) 3)) := fun W => by
    have := run_make (P := Try.prog) W 22 3 i1 (.int .i64 0) Try.underlying22 hi1 hy0 .i64 .i64 ps.length ps.length (by omega) (Int.le_refl _) (by rw [hy2]; omega) (by omega)
    rw [hy1] at this
    simpa using this
  have mk2 : ∀ W, (Instr.makeSlice 29 (.int .i64 (L.length : Int)) (.int .i64 (L.length : Int))).run Try.prog W = .ok (.slice (some ⟨W.heap.size, 0, none⟩) L.length L.length) (W.alloc (.cells (madeCells (Value.agg #[.int .i64 0, .int .i64 0]).cells (L.length * 2)) 65)) := fun W => by
    have := run_make (P := Try.prog) W 29 65 i2 (.agg #[.int .i64 0, .int .i64 0]) Try.underlying29 hi2 hz0 .i64 .i64 L.length L.length (by omega) (Int.le_refl _) (by rw [hz2]; omega) (by omega)
    rw [hz1] at this
    simpa using this
  have q1 : (madeCells (Value.int .i64 0).cells (ps.length * 1)).size = ps.length * 1 := size_madeCells _ _
  have q2 : (madeCells (Value.agg #[.int .i64 0, .int .i64 0]).cells (L.length * 2)).size = L.length * 2 := size_madeCells _ _
  generalize madeCells (Value.int .i64 0).cells (ps.length * 1) = Z1 at mk1 q1
  generalize madeCells (Value.agg #[.int .i64 0, .int .i64 0]).cells (L.length * 2) = Z2 at mk2 q2
  have Q := hidIt (And.intro q1 q2)
  clear q1 q2
  go_enter Try.func20, Try.ntmps20
  go_wp2_with fail
  generalize hW : World.alloc (World.alloc w _) _ = W2
  have bW : Hid (Below w.heap.size w W2) := (by rw [← hW]; exact ((Below.refl w.heap.size w).alloc (Nat.le_refl _) _).alloc (by simp) _ : Below w.heap.size w W2)
  have zW : W2.heap.size = w.heap.size + 2 := by rw [← hW]; simp
  have c0 : W2.cell? ⟨w.heap.size, 0, none⟩ = some (.int .i64 a) := by rw [← hW]; simp [go_sem]
  have c1 : W2.cell? ⟨w.heap.size, 1, none⟩ = some (.slice pa ps.length pc) := by rw [← hW]; simp [go_sem]
  have c2 : W2.cell? ⟨w.heap.size, 2, none⟩ = some (.slice la L.length lc) := by rw [← hW]; simp [go_sem]
  have d0 : W2.cell? ⟨w.heap.size + 1, 0, none⟩ = some (.int .i64 0) := by rw [← hW]; simp [go_sem]
  have d1 : W2.cell? ⟨w.heap.size + 1, 1, none⟩ = some (.slice none 0 0) := by rw [← hW]; simp [go_sem]
  have d2 : W2.cell? ⟨w.heap.size + 1, 2, none⟩ = some (.slice none 0 0) := by rw [← hW]; simp [go_sem]
  have f0 : ∀ o, W2.frozen? ⟨w.heap.size + 1, o, none⟩ = false := by rw [← hW]; simp [go_sem]
  clear hW
  have l0 : w.heap.size < W2.heap.size := by omega
  have l1 : w.heap.size < W2.heap.size + 1 := by omega
  have l2 : w.heap.size < W2.heap.size + 1 + 1 := by omega
  go_cut [3] from 4 to 14 (fun x3 wc => CpS W2 a ps.length L.length Z1 Z2 x3 wc)
  case first =>
    go_region
    all_goals
      go_wp2_with fail
      go_meet
      first
        | exact cp_mk zW (blk2 zW _ _ _) (blk0 zW _ _ _) (blk1 zW _ _ _) (by omega)
        | exact cp_mk zW (blk1 zW _ _ _) (blk0 zW _ _ _) (blk2 zW _ _ _) (by omega)
        | exact cp_mk zW (blk2 zW _ _ _) (blk1 zW _ _ _) (blk0 zW _ _ _) (by omega)
        | exact cp_mk zW (blk1 zW _ _ _) (blk2 zW _ _ _) (blk0 zW _ _ _) (by omega)
        | exact cp_mk zW (blk0 zW _ _ _) (blk1 zW _ _ _) (blk2 zW _ _ _) (by omega)
        | exact cp_mk zW (blk0 zW _ _ _) (blk2 zW _ _ _) (blk1 zW _ _ _) (by omega)
  case rest =>
  rename World => w3
  obtain ⟨b, g1, g2, rfl, cp⟩ := hcut
  have CP := hidIt cp
  obtain ⟨eb0, eb1⟩ := cp.hb
  obtain ⟨e10, e11⟩ := cp.h1
  obtain ⟨e20, e21⟩ := cp.h2
  obtain ⟨n1, n2, n3⟩ := cp.ne
  have k0 := cp.c0
  have k1 := cp.c1
  have k2 := cp.c2
  have m1 := below_cell cp.below l0 c1
  have m2 := below_cell cp.below l0 c2
  have D0 := below_cell cp.below (by omega) d0
  have D1 := below_cell cp.below (by omega) d1
  have D2 := below_cell cp.below (by omega) d2
  have F0 : ∀ o, w3.frozen? ⟨w.heap.size + 1, o, none⟩ = false := fun o => below_frozen cp.below (by omega) (f0 o)
  have HP := hidIt (H.out.below (bW.out.trans (cp.below.mono (by omega))))
  clear cp c0 c1 c2 d0 d1 d2 f0
  have SRC1 := hidIt (inrow_src HP.out.pins)
  have zz := CP.out.below.size
  have BW := hidIt (bW.out.trans (CP.out.below.mono (by omega)))
  obtain ⟨w4, hr4, h4⟩ := copy_over_ex (P := Try.prog) w3 22 22 3 3 g1 ps.length ps.length pa ps.length pc Z1 3 (ints ps) 1 Try.underlying22 (by rw [hi1]; simp [hy1]) CP.out.row1 (Nat.le_refl _) (by simp) SRC1.out (by rw [Q.out.1]; simp) (ints_one ps) (by omega)
  have G4 := hidIt h4.out.2
  have B4 := hidIt (far_below BW.out G4.out (by omega))
  have z4 := G4.out.size
  have R4 : Hid (w4.heap[g1]? = some (.cells (ints ps).toArray 3 (0, 0))) := by
    have := h4.out.1
    rw [List.drop_eq_nil_of_le (by simp [Q.out.1])] at this
    rw [List.append_nil] at this
    exact this
  have S4 := hidIt (far_block G4.out e21 (by omega) CP.out.row2)
  have SRC2 := hidIt (pin_src (H.out.limbo.below B4.out))
  have k0x := far G4.out eb1 n1 k0
  have k1x := far G4.out eb1 n1 k1
  have k2x := far G4.out eb1 n1 k2
  have m2x := far G4.out (by omega) (by omega) m2
  have D0x := far G4.out (by omega) (by omega) D0
  have D1x := far G4.out (by omega) (by omega) D1
  have D2x := far G4.out (by omega) (by omega) D2
  have F0x : ∀ o, w4.frozen? ⟨w.heap.size + 1, o, none⟩ = false := fun o => far_frozen G4.out (by omega) (by omega) (F0 o)
  clear h4 SRC1
  obtain ⟨w5, hr5, h5⟩ := copy_over_ex (P := Try.prog) w4 29 29 3 65 g2 L.length L.length la L.length lc Z2 65 (gones L) 2 Try.underlying29 (by rw [hi2]; simp [hz1]) S4.out (Nat.le_refl _) (gones_len L) SRC2.out (by rw [Q.out.2, gones_len]; omega) (gones_one L) (by omega)
  have G5 := hidIt h5.out.2
  have B5 := hidIt (far_below B4.out G5.out (by omega))
  have z5 := G5.out.size
  have S5 : Hid (w5.heap[g2]? = some (.cells (gones L).toArray 65 (0, 0))) := by
    have := h5.out.1
    rw [List.drop_eq_nil_of_le (by simp [Q.out.2, gones_len])] at this
    rw [List.append_nil] at this
    exact this
  have R5 := hidIt (far_block G5.out (by omega) n3 R4.out)
  have k0y := far G5.out (by omega) n2 k0x
  have k1y := far G5.out (by omega) n2 k1x
  have k2y := far G5.out (by omega) n2 k2x
  have D0y := far G5.out (by omega) (by omega) D0x
  have D1y := far G5.out (by omega) (by omega) D1x
  have D2y := far G5.out (by omega) (by omega) D2x
  have F0y : ∀ o, w5.frozen? ⟨w.heap.size + 1, o, none⟩ = false := fun o => far_frozen G5.out (by omega) (by omega) (F0x o)
  clear h5 SRC2 k2 m2 k0 k0x k1x D0 D1 D2 D0x D1x D2x F0 F0x
  go_wp2
  refine bodyPost_ret (v := .agg #[.int .i64 a, .slice (some ⟨g1, 0, none⟩) ps.length ps.length, .slice (some ⟨g2, 0, none⟩) L.length L.length]) (by simp [results, Try.results20, go_sem, D0y, D1y, D2y]) rfl ⟨_, _, rfl, ⟨?_, ?_, ?_⟩, ?_⟩
  · refine own_of_block (cur := (ints ps).toArray) ?_ (by omega) (Nat.le_refl _) (by unfold maxLen; omega) (by simp) (by simp) (List.take_of_length_le (by simp))
    rw [Below.heap_setCell _ _ _ _ (by show g1 ≠ w.heap.size + 1; omega), Below.heap_setCell _ _ _ _ (by show g1 ≠ w.heap.size + 1; omega), Below.heap_setCell _ _ _ _ (by show g1 ≠ w.heap.size + 1; omega)]
    exact R5.out
  · refine own_of_block (cur := (gones L).toArray) ?_ (by omega) (Nat.le_refl _) (by unfold maxLen; omega) (by simp [gones_len]) (gones_len L) (by rw [← gones_len]; simp)
    rw [Below.heap_setCell _ _ _ _ (by show g2 ≠ w.heap.size + 1; omega), Below.heap_setCell _ _ _ _ (by show g2 ≠ w.heap.size + 1; omega), Below.heap_setCell _ _ _ _ (by show g2 ≠ w.heap.size + 1; omega)]
    exact S5.out
  · intro g hg1 hg2
    simp [Value.ownBlock] at hg1 hg2
    omega
  · exact ((B5.out.setCell (by simp) _).setCell (by simp) _).setCell (by simp) _

end Go.Proofs.Ytikliofkplbdpaa
