/- A pool with other epochs, by the program. -/
import Derived.Test.YtikliofkplbdpaaRows
import Derived.WalkKit
import Derived.ProofKit
import Derived.OpenShut
import Derived.ShutString
import Derived.Test.YtikliofkplbdpaaConcatFns
import Derived.Test.YtikliofkplbdpaaPoolAns
import Derived.Test.YtikliofkplbdpaaSpecPoolOk
namespace Go.Proofs.Ytikliofkplbdpaa
open Go.ChangeShapes Go.WideShapes Go.ChangeAt Go.RowKit
set_option linter.unusedVariables false

def WA (lo hi : Nat) (f v : Value) (F V : List Int) (W : World) : Prop := ∃ a1 b1 a3 b3, lo ≤ a1 ∧ b1 ≤ hi ∧ lo ≤ a3 ∧ b3 ≤ hi ∧ (b1 ≤ a3 ∨ b3 ≤ a1) ∧ Row W a1 b1 f (ints F) ∧ Row W a3 b3 v (ints V)
theorem WA.loc (lo hi : Nat) (f v : Value) (F V : List Int) : Loc lo hi (WA lo hi f v F V) := by
  rintro w w' ⟨a1, b1, a3, b3, h1, h2, h3, h4, h5, r1, r2⟩ hk
  exact ⟨a1, b1, a3, b3, h1, h2, h3, h4, h5, Row.loc _ _ _ _ w w' r1 (fun k k1 k2 => hk k (by omega) (by omega)), Row.loc _ _ _ _ w w' r2 (fun k k1 k2 => hk k (by omega) (by omega))⟩
theorem WA.below {w w' : World} {lo hi : Nat} {f v : Value} {F V : List Int} (h : WA lo hi f v F V w) (hb : Below hi w w') : WA lo hi f v F V w' := WA.loc _ _ _ _ _ _ w w' h (fun k _ hk => hb.block k hk)
theorem WA.set {w : World} {lo hi : Nat} {f v : Value} {F V : List Int} (h : WA lo hi f v F V w) {b o : Nat} {x : Value} (hb : b < lo) : WA lo hi f v F V (w.setCell ⟨b, o, none⟩ x) :=
  WA.loc lo hi f v F V w _ h (fun k k1 _ => Below.heap_setCell _ _ _ _ (by show k ≠ b; omega))
theorem WA.wide {w : World} {lo hi lo' hi' : Nat} {f v : Value} {F V : List Int} (h : WA lo hi f v F V w) (h1 : lo' ≤ lo) (h2 : hi ≤ hi') : WA lo' hi' f v F V w := by
  obtain ⟨a1, b1, a3, b3, g1, g2, g3, g4, g5, r⟩ := h
  exact ⟨a1, b1, a3, b3, by omega, by omega, by omega, by omega, g5, r⟩
theorem IntsNew.form {w w' : World} {v : Value} {xs : List Int} (h : IntsNew w w' v xs) : ∃ a c, v = .slice a xs.length c := by
  obtain ⟨fp, ⟨a, c, h, -⟩, -⟩ := h
  exact ⟨a, c, h⟩
theorem wa_fl {W0 W1 wf W2 wl : World} {f v : Value} {F V : List Int} (h1 : W0.heap.size ≤ W1.heap.size) (nf : IntsNew W1 wf f F) (e : Below wf.heap.size wf W2) (nl : IntsNew W2 wl v V) : WA W0.heap.size wl.heap.size f v F V wl := by
  obtain ⟨r1, b1⟩ := nf.row
  obtain ⟨r2, b2⟩ := nl.row
  have := b1.size
  have := b2.size
  have := e.size
  exact ⟨W1.heap.size, wf.heap.size, W2.heap.size, wl.heap.size, by omega, by omega, by omega, by omega, .inl (by omega), (r1.below e).below (b2.mono (by omega)), r2⟩
theorem wa_lf {W0 W1 wf W2 wl : World} {f v : Value} {F V : List Int} (h1 : W0.heap.size ≤ W2.heap.size) (nl : IntsNew W2 wl v V) (e : Below wl.heap.size wl W1) (nf : IntsNew W1 wf f F) : WA W0.heap.size wf.heap.size f v F V wf := by
  obtain ⟨r1, b1⟩ := nl.row
  obtain ⟨r2, b2⟩ := nf.row
  have := b1.size
  have := b2.size
  have := e.size
  exact ⟨W1.heap.size, wf.heap.size, W2.heap.size, wl.heap.size, by omega, by omega, by omega, by omega, .inr (by omega), r2, (r1.below e).below (b2.mono (by omega))⟩
theorem bel_callB {B : Nat} {W0 W Y : World} (hb : B ≤ W0.heap.size) (h : Below B W0 W) (k : Below W.heap.size W Y) : Below B W0 Y := h.trans (k.mono (Nat.le_trans hb h.size))
theorem bel_set5 {B : Nat} {W0 W : World} {b o0 o1 o2 o3 o4 : Nat} {x0 x1 x2 x3 x4 : Value} (h : Below B W0 W) (hb : B ≤ b) : Below B W0 (((((W.setCell ⟨b, o0, none⟩ x0).setCell ⟨b, o1, none⟩ x1).setCell ⟨b, o2, none⟩ x2).setCell ⟨b, o3, none⟩ x3).setCell ⟨b, o4, none⟩ x4) :=
  ((((h.setCell hb _).setCell hb _).setCell hb _).setCell hb _).setCell hb _
theorem WA.pl {w : World} {lo mid hi : Nat} {f v p l : Value} {F V ps : List Int} {L : List (Int × Int)} {a : Int} (h : WA mid hi f v F V w) (ag : AR lo mid p l ps L w) (h1 : lo ≤ mid) (h2 : mid ≤ hi) : PlR lo hi f p l v ⟨F, a, ps, L, V⟩ w := by
  obtain ⟨a1, b1, a3, b3, g1, g2, g3, g4, g5, r1, r3⟩ := h
  exact ⟨a1, b1, lo, mid, a3, b3, ⟨by omega, by omega, Nat.le_refl _, by omega, by omega, by omega, .inr g1, g5, .inl g3⟩, r1, ag, r3⟩
set_option maxHeartbeats 1600000 in
set_option maxRecDepth 100000 in
theorem impl_withages (w : World) (f p l v : Value) (P : Pl) (a2 : Int) (px lx : Option Addr) (pn pk ln lk : Nat) (hf : PlFit P) (h : PlIn w f p l v P) :
    Calls Try.prog 19 #[.agg #[f, .int .i64 P.a, p, l, v], .agg #[.int .i64 a2, .slice px pn pk, .slice lx ln lk]] w fun e w' => ∃ f' v', e = .returned (.agg #[f', .int .i64 a2, (.slice px pn pk), (.slice lx ln lk), v']) ∧ WA w.heap.size w'.heap.size f' v' P.fr P.lv w' ∧ Below w.heap.size w w' := by
  have H := hidIt h
  obtain ⟨fa, fc, pa, pc, la, lc, va, vc, rfl, rfl, rfl, rfl⟩ := h.form
  clear h
  unfold PlFit at hf
  go_enter Try.func19, Try.ntmps19
  go_wp2_with fail
  generalize hW : World.alloc (World.alloc (World.alloc w _) _) _ = W0
  have X := bx3 w #[.slice fa P.fr.length fc, .int .i64 P.a, .slice pa P.ps.length pc, .slice la P.L.length lc, .slice va P.lv.length vc] #[.int .i64 a2, .slice px pn pk, .slice lx ln lk] #[.slice none 0 0, .int .i64 0, .slice none 0 0, .slice none 0 0, .slice none 0 0] 33 31 33
  rw [hW] at X
  clear hW
  obtain ⟨X0, X1, X2, bW, zW⟩ := X
  have H0 := hidIt X0
  have H1 := hidIt X1
  have H2 := hidIt X2
  have BW := hidIt bW
  have q0 := X0.2.1 0
  have q4 := X0.2.1 4
  have c0 := X1.2.1 0
  have c1 := X1.2.1 1
  have c2 := X1.2.1 2
  simp at q0 q4 c0 c1 c2
  have l0 := X0.1
  have l1 := X1.1
  clear X0 X1 X2 bW
  have SO := hidIt (fun W (hb : Below (w.heap.size + 2) W0 W) => (⟨hb, below_cell (b := w.heap.size) hb (by omega) q0, below_cell (b := w.heap.size) hb (by omega) q4, below_cell (b := w.heap.size + 1) hb (by omega) c0, below_cell (b := w.heap.size + 1) hb (by omega) c1, below_cell (b := w.heap.size + 1) hb (by omega) c2⟩ : Below (w.heap.size + 2) W0 W ∧ W.cell? ⟨w.heap.size, 0, none⟩ = some (.slice fa P.fr.length fc) ∧ W.cell? ⟨w.heap.size, 4, none⟩ = some (.slice va P.lv.length vc) ∧ W.cell? ⟨w.heap.size + 1, 0, none⟩ = some (.int .i64 a2) ∧ W.cell? ⟨w.heap.size + 1, 1, none⟩ = some (.slice px pn pk) ∧ W.cell? ⟨w.heap.size + 1, 2, none⟩ = some (.slice lx ln lk)))
  have hz2 : w.heap.size + 2 ≤ W0.heap.size := by omega
  have hS := SO.out W0 (Below.refl _ _)
  clear q0 q4 c0 c1 c2
  go_region_held3 (fun W => Below (w.heap.size + 2) W0 W ∧ W.cell? ⟨w.heap.size, 0, none⟩ = some (.slice fa P.fr.length fc) ∧ W.cell? ⟨w.heap.size, 4, none⟩ = some (.slice va P.lv.length vc) ∧ W.cell? ⟨w.heap.size + 1, 0, none⟩ = some (.int .i64 a2) ∧ W.cell? ⟨w.heap.size + 1, 1, none⟩ = some (.slice px pn pk) ∧ W.cell? ⟨w.heap.size + 1, 2, none⟩ = some (.slice lx ln lk))
    (first | exact SO.out _ (Below.drew (And.left (by assumption))) | exact SO.out _ (bel_callB hz2 (And.left (by assumption)) (IntsNew.row (by assumption)).2) | exact SO.out _ (bel_set5 (And.left (by assumption)) (Nat.le_refl _)) | exact SO.out _ (by assumption))
    (first | (go_at_call 22; refine (clone_in _ _ P.fr (by omega) (H.out.fr.below (BW.out.trans (Below.mono (And.left (by assumption)) (Nat.le_add_right _ 2))))).mono ?_; rintro e wf ⟨vf, rfl, nf⟩; obtain ⟨af, kf, rfl⟩ := nf.form; have xf : Bx wf (w.heap.size + 1 + 1) #[.slice none 0 0, .int .i64 0, .slice none 0 0, .slice none 0 0, .slice none 0 0] := (by first | exact H2.out.drew.below nf.row.2 | exact H2.out.below nf.row.2 | exact Bx.below (by assumption) nf.row.2 | exact (Bx.drew (by assumption)).below nf.row.2); have yf := xf.2.2; have zf0 : wf.cell? ⟨w.heap.size + 1 + 1, 0, none⟩ = some (.slice none 0 0) := xf.2.1 0; have zf1 : wf.cell? ⟨w.heap.size + 1 + 1, 1, none⟩ = some (.int .i64 0) := xf.2.1 1; have zf2 : wf.cell? ⟨w.heap.size + 1 + 1, 2, none⟩ = some (.slice none 0 0) := xf.2.1 2; have zf3 : wf.cell? ⟨w.heap.size + 1 + 1, 3, none⟩ = some (.slice none 0 0) := xf.2.1 3; have zf4 : wf.cell? ⟨w.heap.size + 1 + 1, 4, none⟩ = some (.slice none 0 0) := xf.2.1 4) | (go_at_call 22; refine (clone_in _ _ P.lv (by omega) (H.out.lv.below (BW.out.trans (Below.mono (And.left (by assumption)) (Nat.le_add_right _ 2))))).mono ?_; rintro e wl ⟨vl, rfl, nl⟩; obtain ⟨al, kl, rfl⟩ := nl.form; have xl : Bx wl (w.heap.size + 1 + 1) #[.slice none 0 0, .int .i64 0, .slice none 0 0, .slice none 0 0, .slice none 0 0] := (by first | exact H2.out.drew.below nl.row.2 | exact H2.out.below nl.row.2 | exact Bx.below (by assumption) nl.row.2 | exact (Bx.drew (by assumption)).below nl.row.2); have yl := xl.2.2; have zl0 : wl.cell? ⟨w.heap.size + 1 + 1, 0, none⟩ = some (.slice none 0 0) := xl.2.1 0; have zl1 : wl.cell? ⟨w.heap.size + 1 + 1, 1, none⟩ = some (.int .i64 0) := xl.2.1 1; have zl2 : wl.cell? ⟨w.heap.size + 1 + 1, 2, none⟩ = some (.slice none 0 0) := xl.2.1 2; have zl3 : wl.cell? ⟨w.heap.size + 1 + 1, 3, none⟩ = some (.slice none 0 0) := xl.2.1 3; have zl4 : wl.cell? ⟨w.heap.size + 1 + 1, 4, none⟩ = some (.slice none 0 0) := xl.2.1 4))
  have hl2 := xl.1
  have HA := hidIt (wa_fl (W0 := W0) (W1 := W0.drew) (by simp) nf (Below.refl _ _) nl)
  have HB := hidIt (bel_two BW.out ((show Below W0.heap.size W0 W0.drew from (Below.refl _ _).drew).trans (nf.row.2.trans (nl.row.2.mono nf.row.2.size))))
  have hw1 := nf.row.2.size
  have hw2 := nl.row.2.size
  simp at hw1
  clear nf nl xf xl
  go_wp2
  refine bodyPost_ret (v := .agg #[.slice af P.fr.length kf, .int .i64 a2, .slice px pn pk, .slice lx ln lk, .slice al P.lv.length kl]) (by simp [results, Try.results19, go_sem, zl0, zl1, zl2, zl3, zl4]) rfl ⟨_, _, rfl, ?_, ?_⟩
  · exact (((((HA.out.set (by omega)).set (by omega)).set (by omega)).set (by omega)).set (by omega)).wide (by omega) (by simp)
  · exact bel_set5 HB.out (by omega)

end Go.Proofs.Ytikliofkplbdpaa
