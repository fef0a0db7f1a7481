/- Contracts of functions of the program and of its model, and plain lemmas: several texts in one. -/
import Derived.Test.YtikliofkplbdpaaRows
import Derived.WalkKit
import Derived.ProofKit
import Derived.OpenShut
import Derived.ShutString
import Derived.Laws.RangeString
import Derived.Laws.RangeAny
import Derived.WalkSpells
import Derived.WalkSmall
import Derived.Lib.OthersKept
import Derived.Deep.QuietTactic
import Derived.BigQuiet
import Derived.Laws.OwnMore
import Derived.Deep.RegionHeld3
import Derived.Laws.CopyOwn
import Derived.Deep.AppendLies
import Derived.OwnWalk
import Derived.Deep.DeepCutAuto
import Derived.Deep.RegionLaw

namespace Go.Proofs.Ytikliofkplbdpaa
open Go.ChangeShapes Go.WideShapes Go.ChangeAt Go.RowKit
set_option linter.unusedVariables false

theorem own_below {w w' : World} {base : Nat} {e : TypeId} {size : Nat} {v : Value} {n : Nat} {xs : List Value} (h : w.ownsRow base e size v n xs) (hb : Below w.heap.size w w') : w'.ownsRow base e size v n xs := by
  refine ⟨h.1, ?_⟩
  rcases h.2 with hn | ⟨g, cap, cur, rfl, hbg, hgg, rest⟩
  · exact .inl hn
  · exact .inr ⟨g, cap, cur, rfl, hbg, by rw [hb.block g (Array.getElem?_eq_some_iff.1 hgg).1]; exact hgg, rest⟩
theorem own_mono {w : World} {base base' : Nat} {e : TypeId} {size : Nat} {v : Value} {n : Nat} {xs : List Value} (h : w.ownsRow base e size v n xs) (hb : base' ≤ base) : w.ownsRow base' e size v n xs := by
  refine ⟨h.1, ?_⟩
  rcases h.2 with hn | ⟨g, cap, cur, rfl, hbg, rest⟩
  · exact .inl hn
  · exact .inr ⟨g, cap, cur, rfl, by omega, rest⟩
theorem own_cells {w : World} {base : Nat} {e : TypeId} {v : Value} {n : Nat} {xs : List Value} (h : w.ownsRow base e 1 v n xs) :
    (v = .slice none 0 0 ∧ n = 0 ∧ xs = []) ∨ ∃ g cap, v = .slice (some ⟨g, 0, none⟩) n cap ∧ base ≤ g ∧ g < w.heap.size ∧ n ≤ cap ∧ cap ≤ maxLen ∧ xs.length = n ∧ (∀ j (hj : j < xs.length), w.cell? ⟨g, j, none⟩ = some xs[j]) ∧ (∀ j, w.frozen? ⟨g, j, none⟩ = false) := by
  rcases h.2 with ⟨rfl, hn⟩ | ⟨g, cap, cur, rfl, hbg, hgg, hnc, hcm, hcs, htk⟩
  · exact .inl ⟨rfl, hn, List.length_eq_zero_iff.1 (by rw [h.1, hn])⟩
  · refine .inr ⟨g, cap, rfl, hbg, (Array.getElem?_eq_some_iff.1 hgg).1, hnc, hcm, by rw [h.1]; omega, fun j hj => ?_, fun j => ?_⟩
    · have := h.cells (g := g) rfl j xs[j] (List.getElem?_eq_getElem hj)
      have hadd : (⟨g, 0, none⟩ : Addr).add j = ⟨g, j, none⟩ := by unfold Addr.add; split <;> simp_all
      rwa [hadd] at this
    · simp [World.frozen?, hgg]
def cutTo (s : ByteArray) (m : UInt8) : Nat → List ByteArray × Nat
  | 0 => ([], 0)
  | k + 1 => if s.get! k = m then ((cutTo s m k).1 ++ [s.extract (cutTo s m k).2 k], k + 1) else cutTo s m k
theorem cutTo_hit (s : ByteArray) (m : UInt8) (k : Nat) (h : s.get! k = m) : cutTo s m (k + 1) = ((cutTo s m k).1 ++ [s.extract (cutTo s m k).2 k], k + 1) := by
  rw [cutTo, if_pos h]
theorem cutTo_miss (s : ByteArray) (m : UInt8) (k : Nat) (h : ¬ s.get! k = m) : cutTo s m (k + 1) = cutTo s m k := by
  rw [cutTo, if_neg h]
theorem cutTo_bd (s : ByteArray) (m : UInt8) (k : Nat) : (cutTo s m k).2 ≤ k ∧ (cutTo s m k).1.length ≤ k := by
  induction k with
  | zero => simp [cutTo]
  | succ k ih =>
    by_cases h : s.get! k = m
    · rw [cutTo_hit s m k h]; simp; omega
    · rw [cutTo_miss s m k h]; omega
theorem cutTo_skip (s : ByteArray) (m : UInt8) (a n : Nat) (h : ∀ j, a ≤ j → j < a + n → ¬ s.get! j = m) : cutTo s m (a + n) = cutTo s m a := by
  induction n with
  | zero => rfl
  | succ n ih =>
    rw [← Nat.add_assoc, cutTo_miss s m (a + n) (h (a + n) (by omega) (by omega))]
    exact ih (fun j h1 h2 => h j h1 (by omega))
def cutAll (s : ByteArray) (m : UInt8) : List ByteArray := (cutTo s m s.size).1 ++ [s.extract (cutTo s m s.size).2 s.size]
theorem cutAll_len (s : ByteArray) (m : UInt8) : 1 ≤ (cutAll s m).length ∧ (cutAll s m).length ≤ s.size + 1 := by
  have := cutTo_bd s m s.size
  unfold cutAll; simp; omega
theorem get_bang (s : ByteArray) (k : Nat) (h : k < s.size) : s.get! k = s[k] := by
  have := get_at s k h
  simpa using this
theorem decode_cont (s : ByteArray) (pos : Nat) (h : pos < s.size) (ha : 128 ≤ (s[pos]'h).toNat) :
    pos + (Utf8.decode s pos).2 ≤ s.size ∧ ∀ j, pos ≤ j → j < pos + (Utf8.decode s pos).2 → 128 ≤ (s.get! j).toNat := by
  have h0 : 128 ≤ (s.get! pos).toNat := by rw [get_bang s pos h]; exact ha
  have hn : ¬ (s.get! (pos + 0)).toNat < 128 := by simpa using h0
  have one : ∀ j, pos ≤ j → j < pos + 1 → 128 ≤ (s.get! j).toNat := fun j h1 h2 => by
    obtain rfl : j = pos := by omega
    exact h0
  unfold Utf8.decode
  simp only [hn, if_false]
  repeat' split
  all_goals first
    | exact ⟨by omega, one⟩
    | (rename_i hc _
       simp only [Bool.and_eq_true, decide_eq_true_eq, beq_iff_eq] at hc
       refine ⟨by omega, fun j h1 h2 => ?_⟩
       have hj : j = pos ∨ j = pos + 1 ∨ j = pos + 2 ∨ j = pos + 3 := by simp only at h2; omega
       rcases hj with rfl | rfl | rfl | rfl
       · exact h0
       all_goals (simp only at h2; omega))

end Go.Proofs.Ytikliofkplbdpaa

namespace Go.Proofs.Ytikliofkplbdpaa
open Go.ChangeShapes Go.WideShapes Go.ChangeAt Go.RowKit
set_option linter.unusedVariables false

def Row (w : World) (lo hi : Nat) (v : Value) (xs : List Value) : Prop :=
  ∃ a cap, v = .slice a xs.length cap ∧ (xs = [] ∨ ∃ g, a = some ⟨g, 0, none⟩ ∧ lo ≤ g ∧ g < hi ∧ (∀ j (hj : j < xs.length), w.cell? ⟨g, j, none⟩ = some xs[j]) ∧ ∀ j, w.frozen? ⟨g, j, none⟩ = false)
theorem Row.of_owns {w : World} {base : Nat} {e : TypeId} {v : Value} {n : Nat} {xs : List Value} (h : w.ownsRow base e 1 v n xs) : Row w base w.heap.size v xs := by
  rcases own_cells h with ⟨rfl, hn, rfl⟩ | ⟨g, cap, rfl, h1, h2, h3, h4, h5, h6, h7⟩
  · exact ⟨none, 0, rfl, .inl rfl⟩
  · exact ⟨_, cap, by rw [h5], .inr ⟨g, rfl, h1, h2, h6, h7⟩⟩
theorem Row.below {w w' : World} {lo hi : Nat} {v : Value} {xs : List Value} (h : Row w lo hi v xs) (hb : Below hi w w') : Row w' lo hi v xs := by
  obtain ⟨a, cap, hv, h⟩ := h
  refine ⟨a, cap, hv, ?_⟩
  rcases h with h | ⟨g, ha, h1, h2, h3, h4⟩
  · exact .inl h
  · exact .inr ⟨g, ha, h1, h2, fun j hj => (hb.cell (p := ⟨g, j, none⟩) h2).trans (h3 j hj), fun j => (hb.frozen (p := ⟨g, j, none⟩) h2).trans (h4 j)⟩
theorem Row.up {w : World} {lo hi hi' : Nat} {v : Value} {xs : List Value} (h : Row w lo hi v xs) (hb : hi ≤ hi') : Row w lo hi' v xs := by
  obtain ⟨a, cap, hv, h⟩ := h
  refine ⟨a, cap, hv, ?_⟩
  rcases h with h | ⟨g, ha, h1, h2, h3⟩
  · exact .inl h
  · exact .inr ⟨g, ha, h1, by omega, h3⟩
theorem Row.drewN {w : World} {lo hi : Nat} {v : Value} {xs : List Value} (h : Row w lo hi v xs) (n : Nat) : Row (w.drewN n) lo hi v xs :=
  h.below (below_drewN (Below.refl _ _) n)

end Go.Proofs.Ytikliofkplbdpaa

namespace Go.Proofs.Ytikliofkplbdpaa
open Go.ChangeShapes Go.WideShapes Go.ChangeAt Go.RowKit
set_option linter.unusedVariables false

theorem bcell {W w1 : World} (hb : Below W.heap.size W w1) : (∀ b o, b < W.heap.size → w1.cell? ⟨b, o, none⟩ = W.cell? ⟨b, o, none⟩) ∧ (∀ b o, b < W.heap.size → w1.frozen? ⟨b, o, none⟩ = W.frozen? ⟨b, o, none⟩) :=
  ⟨fun b o h => hb.cell (p := ⟨b, o, none⟩) h, fun b o h => hb.frozen (p := ⟨b, o, none⟩) h⟩
theorem hidIt {p : Prop} (h : p) : Hid p := h
theorem below_cell {B : Nat} {w w' : World} {b o : Nat} {x : Option Value} (h : Below B w w') (hb : b < B) (hx : w.cell? ⟨b, o, none⟩ = x) : w'.cell? ⟨b, o, none⟩ = x := (h.cell (p := ⟨b, o, none⟩) hb).trans hx
theorem below_frozen {B : Nat} {w w' : World} {b o : Nat} {x : Bool} (h : Below B w w') (hb : b < B) (hx : w.frozen? ⟨b, o, none⟩ = x) : w'.frozen? ⟨b, o, none⟩ = x := (h.frozen (p := ⟨b, o, none⟩) hb).trans hx
theorem have_intro {P Q : Prop} (h : P) (k : P → Q) : Q := k h
theorem below_bk {X Y : World} (b : Below X.heap.size X Y) {n : Nat} (h : n < X.heap.size) : (∀ o, Y.cell? ⟨n, o, none⟩ = X.cell? ⟨n, o, none⟩) ∧ ∀ o, Y.frozen? ⟨n, o, none⟩ = X.frozen? ⟨n, o, none⟩ := ⟨fun o => b.cell (p := ⟨n, o, none⟩) h, fun o => b.frozen (p := ⟨n, o, none⟩) h⟩

end Go.Proofs.Ytikliofkplbdpaa

namespace Go.Proofs.Ytikliofkplbdpaa
open Go.ChangeShapes Go.WideShapes Go.ChangeAt Go.RowKit
set_option linter.unusedVariables false

structure Out (lo hi : Nat) (w w' : World) : Prop where
  os : w'.os = w.os
  tape : w'.tape = w.tape
  output : w'.output = w.output
  size : w.heap.size ≤ w'.heap.size
  block : ∀ k, k < w.heap.size → (k < lo ∨ hi ≤ k) → w'.heap[k]? = w.heap[k]?
theorem Out.refl (lo hi : Nat) (w : World) : Out lo hi w w := ⟨rfl, rfl, rfl, Nat.le_refl _, fun _ _ _ => rfl⟩
theorem Out.of_below {lo hi : Nat} {w w' : World} (h : Below w.heap.size w w') : Out lo hi w w' := ⟨h.os, h.tape, h.output, h.size, fun k hk _ => h.block k hk⟩
theorem Out.of_grown {lo hi g : Nat} {w w' : World} (h : w.grownBy w' (some g)) (h1 : lo ≤ g) (h2 : g < hi) : Out lo hi w w' :=
  ⟨h.os, h.tape, h.output, h.size, fun k hk hn => h.block k hk (fun e => by simp at e; omega)⟩
theorem Out.trans {lo hi : Nat} {a b c : World} (h : Out lo hi a b) (k : Out lo hi b c) : Out lo hi a c :=
  ⟨k.os.trans h.os, k.tape.trans h.tape, k.output.trans h.output, Nat.le_trans h.size k.size, fun x hx hn => (k.block x (Nat.lt_of_lt_of_le hx h.size) hn).trans (h.block x hx hn)⟩
theorem Out.cell {lo hi : Nat} {w w' : World} (h : Out lo hi w w') {b o : Nat} {x : Option Value} (hb : b < w.heap.size) (hn : b < lo ∨ hi ≤ b) (hx : w.cell? ⟨b, o, none⟩ = x) : w'.cell? ⟨b, o, none⟩ = x :=
  (World.cell?_of_block (a := ⟨b, o, none⟩) (h.block b hb hn)).trans hx
theorem Out.frozen {lo hi : Nat} {w w' : World} (h : Out lo hi w w') {b o : Nat} {x : Bool} (hb : b < w.heap.size) (hn : b < lo ∨ hi ≤ b) (hx : w.frozen? ⟨b, o, none⟩ = x) : w'.frozen? ⟨b, o, none⟩ = x :=
  (World.frozen?_of_block (a := ⟨b, o, none⟩) (h.block b hb hn)).trans hx
theorem Out.below {lo hi B : Nat} {w w' : World} (h : Out lo hi w w') (h1 : B ≤ lo) (h2 : B ≤ w.heap.size) : Below B w w' := ⟨h.os, h.tape, h.output, h.size, fun k hk => h.block k (by omega) (by omega)⟩
theorem Row.out {w w' : World} {lo hi l2 h2 : Nat} {v : Value} {xs : List Value} (r : Row w l2 h2 v xs) (h : Out lo hi w w') (hz : h2 ≤ w.heap.size) (hn : h2 ≤ lo ∨ hi ≤ l2) : Row w' l2 h2 v xs := by
  obtain ⟨a, cap, hv, r⟩ := r
  refine ⟨a, cap, hv, ?_⟩
  rcases r with r | ⟨g, ha, h1, h2', h3, h4⟩
  · exact .inl r
  · exact .inr ⟨g, ha, h1, h2', fun j hj => h.cell (by omega) (by omega) (h3 j hj), fun j => h.frozen (by omega) (by omega) (h4 j)⟩
theorem grown_set {w wr : World} {g : Nat} (h : w.grownBy wr (some g)) (j : Nat) (v : Value) : w.grownBy (wr.setCell ⟨g, j, none⟩ v) (some g) :=
  ⟨h.os, h.tape, h.output, by have := h.size; simpa using this, fun k hk hn => (Below.heap_setCell _ _ _ _ (fun e => hn (by simp [e]))).trans (h.block k hk hn)⟩

end Go.Proofs.Ytikliofkplbdpaa

namespace Go.Proofs.Ytikliofkplbdpaa
open Go.ChangeShapes Go.WideShapes Go.ChangeAt Go.RowKit
set_option linter.unusedVariables false

structure St (w : World) (cs : List (Nat × Nat × Value)) (rs : List (Nat × Nat × Value × List Value)) (W : World) : Prop where
  below : Below w.heap.size w W
  cells : ∀ b o v, (b, o, v) ∈ cs → b < W.heap.size ∧ W.cell? ⟨b, o, none⟩ = some v
  rows : ∀ lo hi v xs, (lo, hi, v, xs) ∈ rs → hi ≤ W.heap.size ∧ Row W lo hi v xs
theorem St.start (w : World) : St w [] [] w := ⟨Below.refl _ _, fun _ _ _ h => (by cases h), fun _ _ _ _ h => (by cases h)⟩
theorem St.grow {w W W1 : World} {cs : List (Nat × Nat × Value)} {rs : List (Nat × Nat × Value × List Value)} (h : St w cs rs W) (b : Below W.heap.size W W1) : St w cs rs W1 :=
  ⟨h.below.trans (b.mono h.below.size), fun x o v hm => ⟨Nat.lt_of_lt_of_le (h.cells x o v hm).1 b.size, below_cell b (h.cells x o v hm).1 (h.cells x o v hm).2⟩,
    fun lo hi v xs hm => ⟨Nat.le_trans (h.rows lo hi v xs hm).1 b.size, (h.rows lo hi v xs hm).2.below (b.mono (h.rows lo hi v xs hm).1)⟩⟩
theorem St.drew {w W : World} {cs : List (Nat × Nat × Value)} {rs : List (Nat × Nat × Value × List Value)} (h : St w cs rs W) : St w cs rs W.drew := h.grow (Below.refl _ _).drew
theorem St.alloc {w W : World} {cs : List (Nat × Nat × Value)} {rs : List (Nat × Nat × Value × List Value)} (h : St w cs rs W) (o : Obj) : St w cs rs (W.alloc o) := h.grow ((Below.refl _ _).alloc (Nat.le_refl _) _)
theorem St.box {w W : World} {cs : List (Nat × Nat × Value)} {rs : List (Nat × Nat × Value × List Value)} (h : St w cs rs W) (x : Value) (T : TypeId) : St w ((W.heap.size, 0, x) :: cs) rs (W.alloc (.cells #[x] T)) := by
  refine ⟨(h.alloc _).below, fun b o v hm => ?_, (h.alloc _).rows⟩
  rcases List.mem_cons.1 hm with e | hm
  · simp at e
    obtain ⟨rfl, rfl, rfl⟩ := e
    exact ⟨by simp, by simp⟩
  · exact (h.alloc _).cells b o v hm
theorem St.box4 {w W : World} {cs : List (Nat × Nat × Value)} {rs : List (Nat × Nat × Value × List Value)} (h : St w cs rs W) (x0 x1 x2 x3 : Value) (T : TypeId) : St w ((W.heap.size, 0, x0) :: (W.heap.size, 1, x1) :: (W.heap.size, 2, x2) :: (W.heap.size, 3, x3) :: cs) rs (W.alloc (.cells #[x0, x1, x2, x3] T)) := by
  refine ⟨(h.alloc _).below, fun b o v hm => ?_, (h.alloc _).rows⟩
  simp only [List.mem_cons, Prod.mk.injEq] at hm
  rcases hm with ⟨rfl, rfl, rfl⟩ | ⟨rfl, rfl, rfl⟩ | ⟨rfl, rfl, rfl⟩ | ⟨rfl, rfl, rfl⟩ | hm
  iterate 4 exact ⟨by simp, by simp⟩
  exact (h.alloc _).cells b o v hm
theorem St.row {w W : World} {cs : List (Nat × Nat × Value)} {rs : List (Nat × Nat × Value × List Value)} (h : St w cs rs W) {lo hi : Nat} {x : Value} {ys : List Value} (hz : hi ≤ W.heap.size) (r : Row W lo hi x ys) : St w cs ((lo, hi, x, ys) :: rs) W := by
  refine ⟨h.below, h.cells, fun l k v xs hm => ?_⟩
  rcases List.mem_cons.1 hm with e | hm
  · simp at e
    obtain ⟨rfl, rfl, rfl, rfl⟩ := e
    exact ⟨hz, r⟩
  · exact h.rows l k v xs hm
theorem St.less {w W : World} {cs cs' : List (Nat × Nat × Value)} {rs rs' : List (Nat × Nat × Value × List Value)} (h : St w cs rs W) (h1 : ∀ x ∈ cs', x ∈ cs) (h2 : ∀ x ∈ rs', x ∈ rs) : St w cs' rs' W :=
  ⟨h.below, fun b o v hm => h.cells b o v (h1 _ hm), fun lo hi v xs hm => h.rows lo hi v xs (h2 _ hm)⟩
theorem St.mark {w W W1 : World} {cs : List (Nat × Nat × Value)} {rs rs' : List (Nat × Nat × Value × List Value)} (h : St w cs rs W) {lo hi : Nat} {x : Value} {ys : List Value} (o : Out lo hi W W1) (hz : hi ≤ W.heap.size) (r : Row W1 lo hi x ys)
    (hl : w.heap.size ≤ lo) (h1 : ∀ b o v, (b, o, v) ∈ cs → b < lo ∨ hi ≤ b) (h2 : ∀ l k v xs, (l, k, v, xs) ∈ rs' → k ≤ lo ∨ hi ≤ l) (h3 : ∀ y ∈ rs', y ∈ rs) : St w cs ((lo, hi, x, ys) :: rs') W1 := by
  refine St.row ⟨h.below.trans (o.below hl h.below.size), fun b f v hm => ⟨Nat.lt_of_lt_of_le (h.cells b f v hm).1 o.size, o.cell (h.cells b f v hm).1 (h1 b f v hm) (h.cells b f v hm).2⟩, fun l k v xs hm => ?_⟩ (Nat.le_trans hz o.size) r
  have := h.rows l k v xs (h3 _ hm)
  exact ⟨Nat.le_trans this.1 o.size, this.2.out o this.1 (h2 l k v xs hm)⟩
theorem St.get {w W : World} {cs : List (Nat × Nat × Value)} {rs : List (Nat × Nat × Value × List Value)} (h : St w cs rs W) {b o : Nat} {v : Value} (hm : (b, o, v) ∈ cs) : W.cell? ⟨b, o, none⟩ = some v := (h.cells b o v hm).2
theorem St.lt {w W : World} {cs : List (Nat × Nat × Value)} {rs : List (Nat × Nat × Value × List Value)} (h : St w cs rs W) {b o : Nat} {v : Value} (hm : (b, o, v) ∈ cs) : b < W.heap.size := (h.cells b o v hm).1
theorem St.at {w W : World} {cs : List (Nat × Nat × Value)} {rs : List (Nat × Nat × Value × List Value)} (h : St w cs rs W) {lo hi : Nat} {v : Value} {xs : List Value} (hm : (lo, hi, v, xs) ∈ rs) : hi ≤ W.heap.size ∧ Row W lo hi v xs := h.rows lo hi v xs hm
theorem and_mk {P Q : World → Prop} (h : ∀ W, P W → Q W) {W : World} (p : P W) : P W ∧ Q W := ⟨p, h W p⟩
theorem St.pack {w W : World} {cs : List (Nat × Nat × Value)} {rs : List (Nat × Nat × Value × List Value)} (h : St w cs rs W) : ∃ P : World → Prop, P W ∧ (∀ X, P X → P X.drew) ∧ (∀ X Y, P X → Below X.heap.size X Y → P Y) ∧ ∀ X, P X → St w cs rs X :=
  ⟨St w cs rs, h, fun _ p => p.drew, fun _ _ p b => p.grow b, fun _ p => p⟩
theorem St.front1 {w W : World} {cs : List (Nat × Nat × Value)} {a b : Nat × Nat × Value × List Value} {rs : List (Nat × Nat × Value × List Value)} (h : St w cs (a :: b :: rs) W) : St w cs (b :: a :: rs) W :=
  h.less (fun _ h => h) (fun x hx => by simp only [List.mem_cons] at hx ⊢; rcases hx with h | h | h <;> simp [h])
theorem St.front2 {w W : World} {cs : List (Nat × Nat × Value)} {a b c : Nat × Nat × Value × List Value} {rs : List (Nat × Nat × Value × List Value)} (h : St w cs (a :: b :: c :: rs) W) : St w cs (c :: a :: b :: rs) W :=
  h.less (fun _ h => h) (fun x hx => by simp only [List.mem_cons] at hx ⊢; rcases hx with h | h | h | h <;> simp [h])
theorem St.mark1 {w W W1 : World} {cs : List (Nat × Nat × Value)} {rs : List (Nat × Nat × Value × List Value)} {lo hi : Nat} {x : Value} {ys zs : List Value} (h : St w cs ((lo, hi, x, ys) :: rs) W) (o : Out lo hi W W1) (r : Row W1 lo hi x zs)
    (hl : w.heap.size ≤ lo) (h1 : ∀ b o v, (b, o, v) ∈ cs → b < lo ∨ hi ≤ b) (h2 : ∀ l k v xs, (l, k, v, xs) ∈ rs → k ≤ lo ∨ hi ≤ l) : St w cs ((lo, hi, x, zs) :: rs) W1 :=
  h.mark o (h.rows _ _ _ _ (List.mem_cons_self ..)).1 r hl h1 h2 (fun y hy => List.mem_cons_of_mem _ hy)
theorem below_step {W X Y : World} (h : Below W.heap.size W X) (b : Below X.heap.size X Y) : Below W.heap.size W Y := h.trans (b.mono h.size)
theorem below_al {W X : World} (h : Below W.heap.size W X) (o : Obj) : Below W.heap.size W (X.alloc o) := h.alloc h.size o
theorem below_st {W X : World} {n f : Nat} {v : Value} (h : Below W.heap.size W X) (hn : W.heap.size ≤ n) : Below W.heap.size W (X.setCell ⟨n, f, none⟩ v) := h.setCell hn v
theorem St.put {w W : World} {cs : List (Nat × Nat × Value)} {rs : List (Nat × Nat × Value × List Value)} (h : St w cs rs W) {n : Nat} {u v : Value} (hc : W.cell? ⟨n, 0, none⟩ = some u) (hw : w.heap.size ≤ n) (h1 : ∀ b o v, (b, o, v) ∈ cs → b ≠ n) (h2 : ∀ lo hi v xs, (lo, hi, v, xs) ∈ rs → n < lo ∨ hi ≤ n) :
    St w ((n, 0, v) :: cs) rs (W.setCell ⟨n, 0, none⟩ v) := by
  have hn : n < W.heap.size := by
    by_cases hlt : n < W.heap.size
    · exact hlt
    · simp [World.cell?, hlt] at hc
  refine ⟨h.below.setCell hw v, fun b o x hm => ?_, fun lo hi x xs hm => ?_⟩
  · rcases List.mem_cons.1 hm with e | hm
    · simp at e
      obtain ⟨rfl, rfl, rfl⟩ := e
      exact ⟨by simpa using hn, World.cell?_setCell_same _ _ _ hc⟩
    · exact ⟨by simpa using (h.cells b o x hm).1, by rw [World.cell?_setCell_other _ _ _ _ (by intro e; simp at e; exact h1 b o x hm e.1.symm)]; exact (h.cells b o x hm).2⟩
  · have hr := h.rows lo hi x xs hm
    refine ⟨by simpa using hr.1, ?_⟩
    refine hr.2.out (lo := n) (hi := n + 1) ⟨rfl, rfl, rfl, by simp, fun k hk hne => Below.heap_setCell _ _ _ _ (by show k ≠ n; omega)⟩ hr.1 ?_
    have := h2 lo hi x xs hm
    omega

end Go.Proofs.Ytikliofkplbdpaa

namespace Go.Proofs.Ytikliofkplbdpaa
open Go.ChangeShapes Go.WideShapes Go.ChangeAt Go.RowKit
set_option linter.unusedVariables false

theorem ret_boolx {a b : Bool} (h : a = b) : Ending.returned (.bool a) = .returned (.bool b) := by rw [h]
theorem ret_ints {k : IntKind} {a b : Int} (h : a = b) : Ending.returned (.int k a) = .returned (.int k b) := by rw [h]
abbrev ints (xs : List Int) : List Value := xs.map (Value.int .i64)
theorem ints_len (xs : List Int) : (ints xs).length = xs.length := by simp
def InRow (w : World) (v : Value) (xs : List Int) : Prop :=
  ∃ a cap, v = .slice a xs.length cap ∧ (xs = [] ∨ ∃ b off, a = some ⟨b, off, none⟩ ∧ b < w.heap.size ∧ ∀ j (hj : j < xs.length), w.cell? ⟨b, off + j, none⟩ = some (.int .i64 xs[j]))
theorem InRow.below {w w' : World} {v : Value} {xs : List Int} (h : InRow w v xs) (hb : Below w.heap.size w w') : InRow w' v xs := by
  obtain ⟨a, cap, hv, h⟩ := h
  refine ⟨a, cap, hv, ?_⟩
  rcases h with h | ⟨b, off, ha, h1, h2⟩
  · exact .inl h
  · exact .inr ⟨b, off, ha, Nat.lt_of_lt_of_le h1 hb.size, fun j hj => (hb.cell (p := ⟨b, off + j, none⟩) h1).trans (h2 j hj)⟩
theorem info3 : (Try.prog.info? 3).map (fun i => (i.zero, i.size, i.bytes)) = some (some (.int .i64 0), 1, 8) := by kernel_rfl

theorem eq_int_zero (a b : Option Addr) (c d : Nat) (w : World) :
    Calls Try.prog 24 #[.slice a 0 c, .slice b 0 d] w fun e w' => e = .returned (.bool true) ∧ ∃ n, w' = w.drewN n := by
  go_enter Try.func24, Try.ntmps24
  go_wp2
  go_loop [5] (fun i => i = .int .i64 0) (fun _ => 0)
  case atStart => rfl
  case round =>
    subst hrel
    go_wp2
    go_ret
    exact ⟨rfl, 0, rfl⟩

set_option maxHeartbeats 800000 in
set_option maxRecDepth 100000 in
theorem eq_int_some (g h c d : Nat) (ps : List Int) (w : World) (hn : ps.length ≤ 4194304) (h0 : 0 < ps.length)
    (hA : ∀ j (hj : j < ps.length), w.cell? ⟨g, j, none⟩ = some (.int .i64 ps[j])) (hB : ∀ j (hj : j < ps.length), w.cell? ⟨h, j, none⟩ = some (.int .i64 ps[j])) :
    Calls Try.prog 24 #[.slice (some ⟨g, 0, none⟩) ps.length c, .slice (some ⟨h, 0, none⟩) ps.length d] w fun e w' => e = .returned (.bool true) ∧ ∃ n, w' = w.drewN n := by
  have HA : Hid _ := hA
  have HB : Hid _ := hB
  clear hA hB
  go_enter Try.func24, Try.ntmps24
  go_wp2
  go_loopw [5] (fun i wr => ∃ k n : Nat, k ≤ ps.length ∧ i = .int .i64 k ∧ wr = w.drewN n) (fun i _ => ps.length - (intOf i).toNat)
  case atStart => exact ⟨0, 0, Nat.zero_le _, rfl, rfl⟩
  case round =>
    obtain ⟨k, n, hk, rfl, rfl⟩ := hrel
    by_cases hlt : k < ps.length
    · have cA := HA.out k hlt
      have cB := HB.out k hlt
      have hlt' : (k : Int) < (ps.length : Int) := by omega
      generalize ps[k] = x at cA cB
      go_wp2
      go_quiet (fail)
      go_wp2
      go_roundw
      case rel => exact ⟨k + 1, _, by omega, by go_num, rfl⟩
      case measure => simp [intOf]; omega
    · go_wp2
      go_ret
      exact ⟨rfl, n, rfl⟩

theorem eq_int (w : World) (l1 h1 l2 h2 : Nat) (v1 v2 : Value) (ps : List Int) (hn : ps.length ≤ 4194304) (r1 : Row w l1 h1 v1 (ints ps)) (r2 : Row w l2 h2 v2 (ints ps)) :
    Calls Try.prog 24 #[v1, v2] w fun e w' => e = .returned (.bool true) ∧ ∃ n, w' = w.drewN n := by
  obtain ⟨a, c, rfl, q1⟩ := r1
  obtain ⟨b, d, rfl, q2⟩ := r2
  rw [ints_len]
  rcases q1 with q1 | ⟨g, rfl, _, _, q1, _⟩
  · have e : ps = [] := by simpa using q1
    subst e
    exact eq_int_zero a b c d w
  · rcases q2 with q2 | ⟨h, rfl, _, _, q2, _⟩
    · have e : ps = [] := by simpa using q2
      subst e
      exact eq_int_zero _ b c d w
    · by_cases h0 : 0 < ps.length
      · exact eq_int_some g h c d ps w hn h0 (fun j hj => by have := q1 j (by simpa using hj); rw [List.getElem_map] at this; exact this) (fun j hj => by have := q2 j (by simpa using hj); rw [List.getElem_map] at this; exact this)
      · have e : ps.length = 0 := by omega
        rw [e]
        exact eq_int_zero _ _ c d w

theorem mark_int_zero (a : Option Addr) (c k0 : Nat) (w : World) :
    Calls Try.prog 26 #[.slice a 0 c, .int .i64 k0] w fun e w' => e = .returned (.int .i64 k0) ∧ w' = w := by
  go_enter Try.func26, Try.ntmps26
  go_wp2
  go_loop [5, 1] (fun i k => i = .int .i64 0 ∧ k = .int .i64 k0) (fun _ _ => 0)
  case atStart => exact ⟨rfl, rfl⟩
  case round =>
    obtain ⟨rfl, rfl⟩ := hrel
    go_wp2
    go_ret
    exact ⟨rfl, rfl⟩
theorem held_int_zero (a : Option Addr) (c k0 : Nat) (w : World) :
    Calls Try.prog 28 #[.slice a 0 c, .int .i64 k0] w fun e w' => e = .returned (.int .i64 k0) ∧ w' = w := by
  go_enter Try.func28, Try.ntmps28
  go_wp2
  go_loop [5, 1] (fun i k => i = .int .i64 0 ∧ k = .int .i64 k0) (fun _ _ => 0)
  case atStart => exact ⟨rfl, rfl⟩
  case round =>
    obtain ⟨rfl, rfl⟩ := hrel
    go_wp2
    go_ret
    exact ⟨rfl, rfl⟩

set_option maxHeartbeats 800000 in
set_option maxRecDepth 100000 in
theorem mark_int_some (g c n k0 : Nat) (w : World) (hn : n ≤ 4194304) (h2 : k0 ≤ 4194304) (hg : g < w.heap.size)
    (hA : ∀ j, j < n → ∃ x, w.cell? ⟨g, j, none⟩ = some (.int .i64 x)) (hF : ∀ j, w.frozen? ⟨g, j, none⟩ = false) :
    Calls Try.prog 26 #[.slice (some ⟨g, 0, none⟩) n c, .int .i64 k0] w fun e w' => e = .returned (.int .i64 ((k0 + n : Nat) : Int)) ∧
      (∀ j, j < n → w'.cell? ⟨g, j, none⟩ = some (.int .i64 ((k0 + j : Nat) : Int))) ∧ (∀ j, w'.frozen? ⟨g, j, none⟩ = false) ∧ w.grownBy w' (some g) := by
  have HA : Hid _ := hA
  have HF : Hid _ := hF
  clear hA hF
  go_enter Try.func26, Try.ntmps26
  go_wp2
  go_loopw [5, 1] (fun i kk wr => ∃ k : Nat, k ≤ n ∧ i = .int .i64 k ∧ kk = .int .i64 ((k0 + k : Nat) : Int) ∧ g < wr.heap.size ∧ w.grownBy wr (some g) ∧ Hid ((∀ j, j < k → wr.cell? ⟨g, j, none⟩ = some (.int .i64 ((k0 + j : Nat) : Int))) ∧ (∀ j, k ≤ j → j < n → ∃ x, wr.cell? ⟨g, j, none⟩ = some (.int .i64 x)) ∧ ∀ j, wr.frozen? ⟨g, j, none⟩ = false)) (fun i _ _ => n - (intOf i).toNat)
  case atStart => exact ⟨0, Nat.zero_le _, rfl, rfl, hg, World.grownBy.refl _ _, ⟨fun j hj => by omega, fun j _ hj => HA.out j hj, HF.out⟩⟩
  case round =>
    obtain ⟨k, hk, rfl, rfl, hgr, hb, HS⟩ := hrel
    by_cases hlt : k < n
    · obtain ⟨x, hx⟩ := HS.out.2.1 k (Nat.le_refl _) hlt
      have hz := HS.out.2.2 k
      have hlt' : (k : Int) < (n : Int) := by omega
      go_wp2
      go_roundw
      case rel =>
        refine ⟨k + 1, by omega, by go_num, by go_num, by simp; omega, grown_set hb _ _, ⟨fun j hj => ?_, fun j hj1 hj2 => ?_, fun j => ?_⟩⟩
        · by_cases ej : j = k
          · subst ej; refine (World.cell?_setCell_same _ _ _ hx).trans ?_; simp
          · rw [World.cell?_setCell_other _ _ _ _ (by simp <;> omega)]; exact HS.out.1 j (by omega)
        · rw [World.cell?_setCell_other _ _ _ _ (by simp <;> omega)]; exact HS.out.2.1 j (by omega) hj2
        · rw [World.frozen?_setCell]; exact HS.out.2.2 j
      case measure => simp [intOf]; omega
    · have HK : Hid (k = n) := (by omega : k = n)
      go_wp2
      go_ret
      exact ⟨ret_ints (by rw [HK.out]), by rw [← HK.out]; exact HS.out.1, HS.out.2.2, hb⟩

set_option maxHeartbeats 800000 in
set_option maxRecDepth 100000 in
theorem held_int_some (g c n k0 : Nat) (w : World) (hn : n ≤ 4194304) (h2 : k0 ≤ 4194304)
    (hA : ∀ j, j < n → w.cell? ⟨g, j, none⟩ = some (.int .i64 ((k0 + j : Nat) : Int))) :
    Calls Try.prog 28 #[.slice (some ⟨g, 0, none⟩) n c, .int .i64 k0] w fun e w' => e = .returned (.int .i64 ((k0 + n : Nat) : Int)) ∧ w' = w := by
  have HA : Hid _ := hA
  clear hA
  go_enter Try.func28, Try.ntmps28
  go_wp2
  go_loop [5, 1] (fun i kk => ∃ k : Nat, k ≤ n ∧ i = .int .i64 k ∧ kk = .int .i64 ((k0 + k : Nat) : Int)) (fun i _ => n - (intOf i).toNat)
  case atStart => exact ⟨0, Nat.zero_le _, rfl, rfl⟩
  case round =>
    obtain ⟨k, hk, rfl, rfl⟩ := hrel
    by_cases hlt : k < n
    · have hx := HA.out k hlt
      have hlt' : (k : Int) < (n : Int) := by omega
      go_wp2
      go_round
      case rel => exact ⟨k + 1, by omega, by go_num, by go_num⟩
      case measure => simp [intOf]; omega
    · have HK : Hid (k = n) := (by omega : k = n)
      go_wp2
      go_ret
      exact ⟨ret_ints (by rw [HK.out]), rfl⟩

def imarks (k0 n : Nat) : List Value := (List.range n).map fun j => Value.int .i64 ((k0 + j : Nat) : Int)
theorem imarks_len (k0 n : Nat) : (imarks k0 n).length = n := by simp [imarks]
theorem mark_int (w : World) (lo hi : Nat) (v : Value) (ps : List Int) (k0 : Nat) (hn : ps.length ≤ 4194304) (h2 : k0 ≤ 4194304) (hh : hi ≤ w.heap.size) (r : Row w lo hi v (ints ps)) :
    Calls Try.prog 26 #[v, .int .i64 k0] w fun e w' => e = .returned (.int .i64 ((k0 + ps.length : Nat) : Int)) ∧ Row w' lo hi v (imarks k0 ps.length) ∧ Out lo hi w w' := by
  obtain ⟨a, c, rfl, q1⟩ := r
  rw [ints_len]
  by_cases h0 : ps.length = 0
  · rw [h0]
    refine (mark_int_zero a c k0 w).mono ?_
    rintro e w' ⟨rfl, rfl⟩
    exact ⟨rfl, ⟨a, c, rfl, .inl rfl⟩, Out.refl _ _ _⟩
  · rcases q1 with q1 | ⟨g, rfl, g1, g2, q1, q2⟩
    · exact absurd (by simpa using congrArg List.length q1) h0
    · refine (mark_int_some g c ps.length k0 w hn h2 (by omega) (fun j hj => ⟨ps[j], by have := q1 j (by simpa using hj); rw [List.getElem_map] at this; exact this⟩) q2).mono ?_
      rintro e w' ⟨rfl, m1, m2, m3⟩
      exact ⟨rfl, ⟨_, c, by rw [imarks_len], .inr ⟨g, rfl, g1, g2, fun j hj => by
        rw [m1 j (by simpa [imarks] using hj)]
        simp [imarks], m2⟩⟩, Out.of_grown m3 g1 g2⟩
theorem held_int (w : World) (lo hi : Nat) (v : Value) (n k0 : Nat) (hn : n ≤ 4194304) (h2 : k0 ≤ 4194304) (r : Row w lo hi v (imarks k0 n)) :
    Calls Try.prog 28 #[v, .int .i64 k0] w fun e w' => e = .returned (.int .i64 ((k0 + n : Nat) : Int)) ∧ w' = w := by
  obtain ⟨a, c, rfl, q1⟩ := r
  rw [imarks_len]
  by_cases h0 : n = 0
  · subst h0
    exact held_int_zero a c k0 w
  · rcases q1 with q1 | ⟨g, rfl, g1, g2, q1, q2⟩
    · exact absurd (by have := congrArg List.length q1; rw [imarks_len] at this; simpa using this) h0
    · exact held_int_some g c n k0 w hn h2 (fun j hj => by
        rw [q1 j (by rw [imarks_len]; exact hj)]
        simp [imarks])

theorem sz_int (a : Option Addr) (n c : Nat) (l : Int) (w : World) (hn : n ≤ 9223372036854775807) (h1 : 0 ≤ l) (h2 : l ≤ 4194304) :
    Calls Try.prog 11 #[.slice a n c, .int .i64 l] w fun e w' => e = .returned (.int .i64 (if l < n then -1 else l - n)) ∧ w' = w := by
  by_cases h : l < n
  · rw [if_pos h]
    go_enter Try.func11, Try.ntmps11
    go_wp2
    go_ret
    exact ⟨rfl, rfl⟩
  · rw [if_neg h]
    go_enter Try.func11, Try.ntmps11
    go_wp2
    go_ret
    exact ⟨rfl, rfl⟩

end Go.Proofs.Ytikliofkplbdpaa

namespace Go.Proofs.Ytikliofkplbdpaa
open Go.ChangeShapes Go.WideShapes Go.ChangeAt Go.RowKit
set_option linter.unusedVariables false

def Got (w W : World) (L : List Int) (cs : List (Nat × Nat × Value)) (rs : List (Nat × Nat × Value × List Value)) (s : Value) (wc : World) : Prop :=
  ∃ n a k lo hi, s = .pointer (some ⟨n, 0, none⟩) ∧ W.heap.size ≤ n ∧ W.heap.size ≤ lo ∧ (n < lo ∨ hi ≤ n) ∧ n < wc.heap.size ∧ lo ≤ wc.heap.size ∧ W.heap.size ≤ wc.heap.size ∧ St w ((n, 0, .slice a L.length k) :: cs) ((lo, hi, .slice a L.length k, ints L) :: rs) wc
theorem got_last {w W w2 : World} {L : List Int} {cs : List (Nat × Nat × Value)} {rs : List (Nat × Nat × Value × List Value)} {a : Option Addr} {k lo : Nat} (T : TypeId) (h : St w cs rs W) (hb : Below W.heap.size W w2) (hlo : W.heap.size ≤ lo) (hl2 : lo ≤ w2.heap.size) (r : Row w2 lo w2.heap.size (.slice a L.length k) (ints L)) :
    Got w W L cs rs (.pointer (some ⟨w2.heap.size, 0, none⟩)) (w2.alloc (.cells #[.slice a L.length k] T)) :=
  ⟨w2.heap.size, a, k, lo, w2.heap.size, rfl, hb.size, hlo, .inr (Nat.le_refl _), by simp, by simp; omega, by have := hb.size; simp; omega, ((h.grow hb).row (Nat.le_refl _) r).box _ _⟩
theorem got_put {w W w2 : World} {L : List Int} {cs : List (Nat × Nat × Value)} {rs : List (Nat × Nat × Value × List Value)} {a : Option Addr} {k lo n : Nat} {u : Value} (h : St w cs rs W) (hb : Below W.heap.size W w2) (hlo : n < lo) (hl2 : lo ≤ w2.heap.size) (hn : W.heap.size ≤ n) (hc : w2.cell? ⟨n, 0, none⟩ = some u) (r : Row w2 lo w2.heap.size (.slice a L.length k) (ints L)) :
    Got w W L cs rs (.pointer (some ⟨n, 0, none⟩)) (w2.setCell ⟨n, 0, none⟩ (.slice a L.length k)) :=
  ⟨n, a, k, lo, w2.heap.size, rfl, hn, by omega, .inl hlo, by simp; omega, by simp; omega, by have := hb.size; simp; omega, ((h.grow hb).row (Nat.le_refl _) r).put hc (Nat.le_trans h.below.size hn) (fun b o v hm e => by have := (h.cells b o v hm).1; omega) (fun l q v xs hm => by
    rcases List.mem_cons.1 hm with e | hm
    · simp at e
      obtain ⟨rfl, rfl, -, -⟩ := e
      exact .inl hlo
    · have := (h.rows l q v xs hm).1
      exact .inr (by omega))⟩

end Go.Proofs.Ytikliofkplbdpaa

namespace Go.Proofs.Ytikliofkplbdpaa
open Go.ChangeShapes Go.WideShapes Go.ChangeAt Go.RowKit
set_option linter.unusedVariables false

set_option maxHeartbeats 800000 in
set_option maxRecDepth 100000 in
theorem to_int_some (b off c : Nat) (xs : List Int) (w : World) (hn : xs.length ≤ 4194304) (h0 : 0 < xs.length) (hb : b < w.heap.size)
    (hA : ∀ j (hj : j < xs.length), w.cell? ⟨b, off + j, none⟩ = some (.int .i64 xs[j])) :
    Calls Try.prog 16 #[.slice (some ⟨b, off, none⟩) xs.length c] w fun e w' => ∃ v', e = .returned v' ∧ Row w' w.heap.size w'.heap.size v' (ints xs) ∧ Below w.heap.size w w' := by
  obtain ⟨i0, hi, hz0, hz1, hz2⟩ := info_parts info3
  have HA : Hid _ := hA
  clear hA
  go_enter Try.func16, Try.ntmps16
  go_wp2_with (at_make; refine wpList_make_full _ rfl _ _ 22 rfl w.heap.size 3 i0 (.int .i64 0) 1 Try.underlying22 hi hz0 hz1 .i64 .i64 _ _ xs.length rfl rfl rfl rfl (by rw [hz2]; omega) (by unfold maxLen; omega) (Nat.le_refl _) ?_; intro w1 hown hgrow)
  have hb1 : Below w.heap.size w w1 := (Below.refl _ _).grown hgrow (Nat.le_refl _) (fun k hk => by cases hk)
  have hgz : w.heap.size < w1.heap.size ∧ (∀ j, j < xs.length → ∃ x, w1.cell? ⟨w.heap.size, j, none⟩ = some (.int .i64 x)) ∧ ∀ j, w1.frozen? ⟨w.heap.size, j, none⟩ = false := by
    rcases own_cells hown with ⟨h, _⟩ | ⟨g, cap, hv, h1, h2, h3, h4, h5, h6, h7⟩
    · cases h
    · simp at hv
      obtain ⟨rfl, _⟩ := hv
      refine ⟨h2, fun j hj => ⟨0, ?_⟩, h7⟩
      have hl : j < (madeCells (Value.int .i64 0).cells (xs.length * 1)).toList.length := by omega
      rw [h6 j hl]
      have e : (madeCells (Value.int .i64 0).cells (xs.length * 1)).toList = List.replicate (xs.length * 1) (Value.int .i64 0) := toList_madeCells_one _ _
      simp only [e, List.getElem_replicate]
  clear hown hgrow
  obtain ⟨hgs, hg1, hg2⟩ := hgz
  have HG : Hid _ := hg1
  have HF : Hid _ := hg2
  clear hg1 hg2
  go_wp2
  go_loopw [4] (fun i wr => ∃ k : Nat, k ≤ xs.length ∧ i = .int .i64 k ∧ w.heap.size < wr.heap.size ∧ Below w.heap.size w wr ∧ Hid ((∀ j (hj : j < xs.length), j < k → wr.cell? ⟨w.heap.size, j, none⟩ = some (.int .i64 xs[j])) ∧ (∀ j, k ≤ j → j < xs.length → ∃ x, wr.cell? ⟨w.heap.size, j, none⟩ = some (.int .i64 x)) ∧ ∀ j, wr.frozen? ⟨w.heap.size, j, none⟩ = false)) (fun i _ => xs.length - (intOf i).toNat)
  case atStart => exact ⟨0, Nat.zero_le _, rfl, hgs, hb1, ⟨fun j _ hj => by omega, fun j _ hj => HG.out j hj, HF.out⟩⟩
  case round =>
    obtain ⟨k, hk, rfl, hgr, hbw, HS⟩ := hrel
    by_cases hlt : k < xs.length
    · obtain ⟨x, hx⟩ := HS.out.2.1 k (Nat.le_refl _) hlt
      have hz := HS.out.2.2 k
      have hlt' : (k : Int) < (xs.length : Int) := by omega
      have hr := (hbw.cell (p := ⟨b, off + k, none⟩) hb).trans (HA.out k hlt)
      obtain ⟨y, hy⟩ : ∃ y, xs[k] = y := ⟨_, rfl⟩
      rw [hy] at hr
      have HY : Hid _ := hy
      clear hy
      go_wp2
      go_roundw
      case rel =>
        refine ⟨k + 1, by omega, by go_num, by simp; omega, hbw.setCell (Nat.le_refl _) _, ⟨fun j hj hjk => ?_, fun j hj1 hj2 => ?_, fun j => ?_⟩⟩
        · by_cases ej : j = k
          · subst ej; refine (World.cell?_setCell_same _ _ _ hx).trans ?_; rw [HY.out]
          · rw [World.cell?_setCell_other _ _ _ _ (by simp <;> omega)]; exact HS.out.1 j hj (by omega)
        · rw [World.cell?_setCell_other _ _ _ _ (by simp <;> omega)]; exact HS.out.2.1 j (by omega) hj2
        · rw [World.frozen?_setCell]; exact HS.out.2.2 j
      case measure => simp [intOf]; omega
    · go_wp2
      go_ret
      refine ⟨.slice (some ⟨w.heap.size, 0, none⟩) xs.length xs.length, rfl, ⟨_, xs.length, by rw [ints_len], .inr ⟨w.heap.size, rfl, Nat.le_refl _, hgr, fun j hj => ?_, HS.out.2.2⟩⟩, hbw⟩
      rw [HS.out.1 j (by simpa using hj) (by simp at hj; omega)]
      simp

theorem to_int_zero (a : Option Addr) (c : Nat) (w : World) :
    Calls Try.prog 16 #[.slice a 0 c] w fun e w' => ∃ v', e = .returned v' ∧ Row w' w.heap.size w'.heap.size v' (ints []) ∧ Below w.heap.size w w' := by
  obtain ⟨i0, hi, hz0, hz1, hz2⟩ := info_parts info3
  go_enter Try.func16, Try.ntmps16
  go_wp2_with (at_make; refine wpList_make_full _ rfl _ _ 22 rfl w.heap.size 3 i0 (.int .i64 0) 1 Try.underlying22 hi hz0 hz1 .i64 .i64 _ _ 0 rfl rfl rfl rfl (by omega) (by unfold maxLen; omega) (Nat.le_refl _) ?_; intro w1 hown hgrow)
  have hb1 : Below w.heap.size w w1 := (Below.refl _ _).grown hgrow (Nat.le_refl _) (fun k hk => by cases hk)
  clear hown hgrow
  go_wp2
  go_loop [4] (fun i => i = .int .i64 0) (fun _ => 0)
  case atStart => rfl
  case round =>
    subst hrel
    go_wp2
    go_ret
    exact ⟨.slice (some ⟨w.heap.size, 0, none⟩) 0 0, rfl, ⟨_, 0, rfl, .inl rfl⟩, hb1⟩

theorem to_int (w : World) (v : Value) (xs : List Int) (hn : xs.length ≤ 4194304) (h : InRow w v xs) :
    Calls Try.prog 16 #[v] w fun e w' => ∃ v', e = .returned v' ∧ Row w' w.heap.size w'.heap.size v' (ints xs) ∧ Below w.heap.size w w' := by
  obtain ⟨a, cap, rfl, h⟩ := h
  rcases h with rfl | ⟨b, off, rfl, h1, h2⟩
  · exact to_int_zero a cap w
  · by_cases h0 : 0 < xs.length
    · exact to_int_some b off cap xs w hn h0 h1 h2
    · obtain rfl : xs = [] := List.length_eq_zero_iff.1 (by omega)
      exact to_int_zero _ cap w

end Go.Proofs.Ytikliofkplbdpaa

namespace Go.Proofs.Ytikliofkplbdpaa
open Go.ChangeShapes Go.WideShapes Go.ChangeAt Go.RowKit
set_option linter.unusedVariables false

theorem Row.set_below {w : World} {lo hi : Nat} {v : Value} {xs : List Value} (h : Row w lo hi v xs) (p : Addr) (x : Value) (hp : p.block < lo) : Row (w.setCell p x) lo hi v xs := by
  obtain ⟨a, cap, hv, h⟩ := h
  refine ⟨a, cap, hv, ?_⟩
  rcases h with h | ⟨g, ha, h1, h2, h3, h4⟩
  · exact .inl h
  · exact .inr ⟨g, ha, h1, h2, fun j hj => by rw [World.cell?_setCell_other _ _ _ _ (by intro e; rw [e] at hp; simp at hp; omega)]; exact h3 j hj, fun j => by rw [World.frozen?_setCell]; exact h4 j⟩
theorem Row.lo {w : World} {lo lo' hi : Nat} {v : Value} {xs : List Value} (h : Row w lo hi v xs) (hb : lo' ≤ lo) : Row w lo' hi v xs := by
  obtain ⟨a, cap, hv, h⟩ := h
  refine ⟨a, cap, hv, ?_⟩
  rcases h with h | ⟨g, ha, h1, h2, h3⟩
  · exact .inl h
  · exact .inr ⟨g, ha, by omega, h2, h3⟩
theorem Row.alloc {w : World} {lo hi : Nat} {v : Value} {xs : List Value} (h : Row w lo hi v xs) (hh : hi ≤ w.heap.size) (o : Obj) : Row (w.alloc o) lo hi v xs :=
  h.below ((Below.refl _ _).alloc hh o)

theorem Row.form {w : World} {lo hi : Nat} {v : Value} {xs : List Int} (h : Row w lo hi v (ints xs)) : ∃ a c, v = .slice a xs.length c := by
  obtain ⟨a, c, rfl, _⟩ := h
  exact ⟨a, c, by rw [ints_len]⟩
theorem Row.mform {w : World} {lo hi : Nat} {v : Value} {k0 n : Nat} (h : Row w lo hi v (imarks k0 n)) : ∃ a c, v = .slice a n c := by
  obtain ⟨a, c, rfl, _⟩ := h
  exact ⟨a, c, by rw [imarks_len]⟩

end Go.Proofs.Ytikliofkplbdpaa

namespace Go.Proofs.Ytikliofkplbdpaa
open Go.ChangeShapes Go.WideShapes Go.ChangeAt Go.RowKit
set_option linter.unusedVariables false

def Rw (w : World) (lo hi : Nat) (v : Value) (n : Nat) (xs : List Value) : Prop :=
  ∃ a cap, v = .slice a n cap ∧ n ≤ cap ∧ (xs = [] ∨ ∃ g, a = some ⟨g, 0, none⟩ ∧ lo ≤ g ∧ g < hi ∧ (∀ j (hj : j < xs.length), w.cell? ⟨g, j, none⟩ = some xs[j]) ∧ ∀ j, w.frozen? ⟨g, j, none⟩ = false)
def gones (L : List (Int × Int)) : List Value := L.flatMap fun p => [Value.int .i64 p.1, Value.int .i64 p.2]
theorem gones_nil : gones [] = [] := rfl
theorem gones_cons (p : Int × Int) (L : List (Int × Int)) : gones (p :: L) = .int .i64 p.1 :: .int .i64 p.2 :: gones L := rfl
theorem gones_app (L M : List (Int × Int)) : gones (L ++ M) = gones L ++ gones M := by simp [gones]
theorem gones_len (L : List (Int × Int)) : (gones L).length = L.length * 2 := by
  induction L with
  | nil => rfl
  | cons p L ih => rw [gones_cons]; simp [ih]; omega
theorem gones_at (L : List (Int × Int)) (j : Nat) (hj : j < L.length) : (gones L)[j * 2]? = some (.int .i64 L[j].1) ∧ (gones L)[j * 2 + 1]? = some (.int .i64 L[j].2) := by
  induction L generalizing j with
  | nil => simp at hj
  | cons p L ih =>
    cases j with
    | zero => simp [gones_cons]
    | succ j =>
      have := ih j (by simpa using hj)
      have e : (j + 1) * 2 = j * 2 + 2 := by omega
      rw [gones_cons, e]
      simpa using this
theorem gones_drop (L : List (Int × Int)) (k : Nat) : gones (L.drop k) = (gones L).drop (k * 2) := by
  induction L generalizing k with
  | nil => simp [gones]
  | cons p L ih =>
    cases k with
    | zero => simp
    | succ k =>
      have e : (k + 1) * 2 = k * 2 + 2 := by omega
      rw [gones_cons, e]
      simpa using ih k
theorem gones_one (L : List (Int × Int)) : ∀ v ∈ gones L, v.oneCell' = true := by
  intro v hv
  simp [gones] at hv
  obtain ⟨a, b, _, rfl | rfl⟩ := hv <;> rfl
theorem ints_one (xs : List Int) : ∀ v ∈ ints xs, v.oneCell' = true := by
  intro v hv
  simp at hv
  obtain ⟨a, _, rfl⟩ := hv
  rfl
/- a fact that hangs on the blocks from lo to hi alone -/
def Loc (lo hi : Nat) (P : World → Prop) : Prop := ∀ w w' : World, P w → (∀ k, lo ≤ k → k < hi → w'.heap[k]? = w.heap[k]?) → P w'
theorem Rw.loc (lo hi : Nat) (v : Value) (n : Nat) (xs : List Value) : Loc lo hi (fun w => Rw w lo hi v n xs) := by
  rintro w w' ⟨a, cap, hv, hcp, h⟩ hk
  refine ⟨a, cap, hv, hcp, ?_⟩
  rcases h with h | ⟨g, ha, h1, h2, h3, h4⟩
  · exact .inl h
  · exact .inr ⟨g, ha, h1, h2, fun j hj => (World.cell?_of_block (a := ⟨g, j, none⟩) (hk g h1 h2)).trans (h3 j hj), fun j => (World.frozen?_of_block (a := ⟨g, j, none⟩) (hk g h1 h2)).trans (h4 j)⟩
theorem Row.loc (lo hi : Nat) (v : Value) (xs : List Value) : Loc lo hi (fun w => Row w lo hi v xs) := by
  rintro w w' ⟨a, cap, hv, h⟩ hk
  refine ⟨a, cap, hv, ?_⟩
  rcases h with h | ⟨g, ha, h1, h2, h3, h4⟩
  · exact .inl h
  · exact .inr ⟨g, ha, h1, h2, fun j hj => (World.cell?_of_block (a := ⟨g, j, none⟩) (hk g h1 h2)).trans (h3 j hj), fun j => (World.frozen?_of_block (a := ⟨g, j, none⟩) (hk g h1 h2)).trans (h4 j)⟩
theorem Rw.below {w w' : World} {lo hi : Nat} {v : Value} {n : Nat} {xs : List Value} (h : Rw w lo hi v n xs) (hb : Below hi w w') : Rw w' lo hi v n xs := Rw.loc lo hi v n xs w w' h (fun k _ hk => hb.block k hk)
theorem Rw.wide {w : World} {lo hi lo' hi' : Nat} {v : Value} {n : Nat} {xs : List Value} (h : Rw w lo hi v n xs) (h1 : lo' ≤ lo) (h2 : hi ≤ hi') : Rw w lo' hi' v n xs := by
  obtain ⟨a, cap, hv, hcp, h⟩ := h
  refine ⟨a, cap, hv, hcp, ?_⟩
  rcases h with h | ⟨g, ha, g1, g2, h3⟩
  · exact .inl h
  · exact .inr ⟨g, ha, by omega, by omega, h3⟩
theorem Row.wide {w : World} {lo hi lo' hi' : Nat} {v : Value} {xs : List Value} (h : Row w lo hi v xs) (h1 : lo' ≤ lo) (h2 : hi ≤ hi') : Row w lo' hi' v xs := (h.lo h1).up h2
theorem Rw.form {w : World} {lo hi : Nat} {v : Value} {n : Nat} {xs : List Value} (h : Rw w lo hi v n xs) : ∃ a c, v = .slice a n c ∧ n ≤ c := by
  obtain ⟨a, c, rfl, hcp, _⟩ := h
  exact ⟨a, c, rfl, hcp⟩
theorem Rw.nil (w : World) (lo hi : Nat) (a : Option Addr) (n c : Nat) (h : n ≤ c) : Rw w lo hi (.slice a n c) n [] := ⟨a, c, rfl, h, .inl rfl⟩
theorem Rw.out {w w' : World} {lo hi l2 h2 : Nat} {v : Value} {n : Nat} {xs : List Value} (r : Rw w l2 h2 v n xs) (h : Out lo hi w w') (hz : h2 ≤ w.heap.size) (hn : h2 ≤ lo ∨ hi ≤ l2) : Rw w' l2 h2 v n xs :=
  Rw.loc l2 h2 v n xs w w' r (fun k k1 k2 => h.block k (by omega) (by omega))
theorem own_cells2 {w : World} {base : Nat} {e : TypeId} {v : Value} {n size : Nat} {xs : List Value} (h : w.ownsRow base e size v n xs) :
    (v = .slice none 0 0 ∧ n = 0 ∧ xs = []) ∨ ∃ g cap, v = .slice (some ⟨g, 0, none⟩) n cap ∧ base ≤ g ∧ g < w.heap.size ∧ n ≤ cap ∧ cap ≤ maxLen ∧ xs.length = n * size ∧ (∀ j (hj : j < xs.length), w.cell? ⟨g, j, none⟩ = some xs[j]) ∧ (∀ j, w.frozen? ⟨g, j, none⟩ = false) := by
  rcases h.2 with ⟨rfl, hn⟩ | ⟨g, cap, cur, rfl, hbg, hgg, hnc, hcm, hcs, htk⟩
  · exact .inl ⟨rfl, hn, List.length_eq_zero_iff.1 (by rw [h.1, hn]; simp)⟩
  · refine .inr ⟨g, cap, rfl, hbg, (Array.getElem?_eq_some_iff.1 hgg).1, hnc, hcm, h.1, fun j hj => ?_, fun j => ?_⟩
    · have := h.cells (g := g) rfl j xs[j] (List.getElem?_eq_getElem hj)
      have hadd : (⟨g, 0, none⟩ : Addr).add j = ⟨g, j, none⟩ := by unfold Addr.add; split <;> simp_all
      rwa [hadd] at this
    · simp [World.frozen?, hgg]
theorem Rw.of_owns {w : World} {base : Nat} {e : TypeId} {v : Value} {n size : Nat} {xs : List Value} (h : w.ownsRow base e size v n xs) : Rw w base w.heap.size v n xs := by
  rcases own_cells2 h with ⟨rfl, rfl, rfl⟩ | ⟨g, cap, rfl, h1, h2, h3, h4, h5, h6, h7⟩
  · exact ⟨none, 0, rfl, Nat.le_refl _, .inl rfl⟩
  · exact ⟨_, cap, rfl, h3, .inr ⟨g, rfl, h1, h2, h6, h7⟩⟩
/- a row of pairs that came in, or that is only read -/
def PIn (w : World) (v : Value) (L : List (Int × Int)) : Prop :=
  ∃ a cap, v = .slice a L.length cap ∧ L.length ≤ cap ∧ (L = [] ∨ ∃ b off, a = some ⟨b, off, none⟩ ∧ b < w.heap.size ∧ ∀ j (hj : j < L.length), w.cell? ⟨b, off + j * 2, none⟩ = some (.int .i64 L[j].1) ∧ w.cell? ⟨b, off + j * 2 + 1, none⟩ = some (.int .i64 L[j].2))
theorem PIn.below {w w' : World} {v : Value} {L : List (Int × Int)} (h : PIn w v L) (hb : Below w.heap.size w w') : PIn w' v L := by
  obtain ⟨a, cap, hv, hcp, h⟩ := h
  refine ⟨a, cap, hv, hcp, ?_⟩
  rcases h with h | ⟨b, off, ha, h1, h2⟩
  · exact .inl h
  · exact .inr ⟨b, off, ha, Nat.lt_of_lt_of_le h1 hb.size, fun j hj => ⟨(hb.cell (p := ⟨b, off + j * 2, none⟩) h1).trans (h2 j hj).1, (hb.cell (p := ⟨b, off + j * 2 + 1, none⟩) h1).trans (h2 j hj).2⟩⟩
theorem Rw.pin {w : World} {lo hi : Nat} {v : Value} {L : List (Int × Int)} (h : Rw w lo hi v L.length (gones L)) (hz : hi ≤ w.heap.size) : PIn w v L := by
  obtain ⟨a, cap, hv, hcp, h⟩ := h
  refine ⟨a, cap, hv, hcp, ?_⟩
  rcases h with h | ⟨g, ha, g1, g2, h3, h4⟩
  · exact .inl (List.length_eq_zero_iff.1 (by have := congrArg List.length h; rw [gones_len] at this; simp only [List.length_nil] at this; omega))
  · refine .inr ⟨g, 0, ha, by omega, fun j hj => ?_⟩
    have l := gones_len L
    have e := gones_at L j hj
    have e1 : j * 2 < (gones L).length := by omega
    have e2 : j * 2 + 1 < (gones L).length := by omega
    rw [List.getElem?_eq_getElem e1, List.getElem?_eq_getElem e2] at e
    simp only [Nat.zero_add]
    exact ⟨(h3 _ e1).trans e.1, (h3 _ e2).trans e.2⟩
theorem Row.inrow {w : World} {lo hi : Nat} {v : Value} {xs : List Int} (h : Row w lo hi v (ints xs)) (hz : hi ≤ w.heap.size) : InRow w v xs := by
  obtain ⟨a, cap, hv, h⟩ := h
  refine ⟨a, cap, by rw [hv, ints_len], ?_⟩
  rcases h with h | ⟨g, ha, g1, g2, h3, h4⟩
  · exact .inl (by simpa using h)
  · refine .inr ⟨g, 0, ha, by omega, fun j hj => ?_⟩
    have := h3 j (by simpa using hj)
    rw [List.getElem_map] at this
    simpa using this
/- epochs: the two rows of a struct of them -/
def Apart (p l : Value) (n m : Nat) : Prop := 0 < n → 0 < m → p.ownBlock ≠ l.ownBlock
structure AR (lo hi : Nat) (p l : Value) (ps : List Int) (L : List (Int × Int)) (W : World) : Prop where
  pins : Row W lo hi p (ints ps)
  limbo : Rw W lo hi l L.length (gones L)
  apart : Apart p l ps.length L.length
structure AM (lo hi : Nat) (p l : Value) (k0 n m : Nat) (W : World) : Prop where
  pins : Row W lo hi p (imarks k0 n)
  limbo : Rw W lo hi l m (imarks (k0 + n) (m * 2))
structure AIn (w : World) (p l : Value) (ps : List Int) (L : List (Int × Int)) : Prop where
  pins : InRow w p ps
  limbo : PIn w l L
theorem AIn.below {w w' : World} {p l : Value} {ps : List Int} {L : List (Int × Int)} (h : AIn w p l ps L) (hb : Below w.heap.size w w') : AIn w' p l ps L := ⟨h.pins.below hb, h.limbo.below hb⟩
theorem AR.loc (lo hi : Nat) (p l : Value) (ps : List Int) (L : List (Int × Int)) : Loc lo hi (AR lo hi p l ps L) :=
  fun w w' h hk => ⟨Row.loc _ _ _ _ w w' h.pins hk, Rw.loc _ _ _ _ _ w w' h.limbo hk, h.apart⟩
theorem AM.loc (lo hi : Nat) (p l : Value) (k0 n m : Nat) : Loc lo hi (AM lo hi p l k0 n m) :=
  fun w w' h hk => ⟨Row.loc _ _ _ _ w w' h.pins hk, Rw.loc _ _ _ _ _ w w' h.limbo hk⟩
theorem AR.below {w w' : World} {lo hi : Nat} {p l : Value} {ps : List Int} {L : List (Int × Int)} (h : AR lo hi p l ps L w) (hb : Below hi w w') : AR lo hi p l ps L w' := AR.loc lo hi p l ps L w w' h (fun k _ hk => hb.block k hk)
theorem AR.wide {w : World} {lo hi lo' hi' : Nat} {p l : Value} {ps : List Int} {L : List (Int × Int)} (h : AR lo hi p l ps L w) (h1 : lo' ≤ lo) (h2 : hi ≤ hi') : AR lo' hi' p l ps L w := ⟨h.pins.wide h1 h2, h.limbo.wide h1 h2, h.apart⟩
theorem AR.form {w : World} {lo hi : Nat} {p l : Value} {ps : List Int} {L : List (Int × Int)} (h : AR lo hi p l ps L w) : ∃ a c b d, p = .slice a ps.length c ∧ l = .slice b L.length d ∧ L.length ≤ d := by
  obtain ⟨a, c, h1⟩ := h.pins.form
  obtain ⟨b, d, h2, h3⟩ := h.limbo.form
  exact ⟨a, c, b, d, h1, h2, h3⟩
theorem AIn.form {w : World} {p l : Value} {ps : List Int} {L : List (Int × Int)} (h : AIn w p l ps L) : ∃ a c b d, p = .slice a ps.length c ∧ l = .slice b L.length d ∧ L.length ≤ d := by
  obtain ⟨a, c, h1, _⟩ := h.pins
  obtain ⟨b, d, h2, h3, _⟩ := h.limbo
  exact ⟨a, c, b, d, h1, h2, h3⟩
theorem AR.ain {w : World} {lo hi : Nat} {p l : Value} {ps : List Int} {L : List (Int × Int)} (h : AR lo hi p l ps L w) (hz : hi ≤ w.heap.size) : AIn w p l ps L := ⟨h.pins.inrow hz, h.limbo.pin hz⟩
theorem apart_of {w w' : World} {l1 h1 l2 h2 : Nat} {p l : Value} {ps : List Int} {L : List (Int × Int)} (r1 : Row w l1 h1 p (ints ps)) (r2 : Rw w' l2 h2 l L.length (gones L)) (h : h1 ≤ l2 ∨ h2 ≤ l1) : Apart p l ps.length L.length := by
  intro n1 n2
  obtain ⟨a, c, rfl, q1⟩ := r1
  obtain ⟨b, d, rfl, -, q2⟩ := r2
  rcases q1 with q1 | ⟨g, rfl, a1, a2, -⟩
  · have := congrArg List.length q1; rw [ints_len] at this; simp only [List.length_nil] at this; omega
  rcases q2 with q2 | ⟨k, rfl, b1, b2, -⟩
  · have := congrArg List.length q2; rw [gones_len] at this; simp only [List.length_nil] at this; omega
  simp [Value.ownBlock]
  omega
theorem AR.nil (lo hi : Nat) (w : World) : AR lo hi (.slice none 0 0) (.slice none 0 0) [] [] w := ⟨⟨none, 0, rfl, .inl rfl⟩, ⟨none, 0, rfl, Nat.le_refl _, .inl rfl⟩, fun h => absurd h (by simp)⟩
/- what a walk knows: cells, and facts that hang on some blocks alone -/
structure Sv (w : World) (cs : List (Nat × Nat × Value)) (rs : List (Nat × Nat × (World → Prop))) (W : World) : Prop where
  below : Below w.heap.size w W
  cells : ∀ c ∈ cs, c.1 < W.heap.size ∧ W.cell? ⟨c.1, c.2.1, none⟩ = some c.2.2
  rows : ∀ r ∈ rs, r.2.1 ≤ W.heap.size ∧ Loc r.1 r.2.1 r.2.2 ∧ r.2.2 W
theorem Sv.start (w : World) : Sv w [] [] w := ⟨Below.refl _ _, fun _ h => (by cases h), fun _ h => (by cases h)⟩
theorem Sv.grow {w W W1 : World} {cs : List (Nat × Nat × Value)} {rs : List (Nat × Nat × (World → Prop))} (h : Sv w cs rs W) (b : Below W.heap.size W W1) : Sv w cs rs W1 :=
  ⟨h.below.trans (b.mono h.below.size), fun c hm => ⟨Nat.lt_of_lt_of_le (h.cells c hm).1 b.size, below_cell b (h.cells c hm).1 (h.cells c hm).2⟩,
    fun r hm => ⟨Nat.le_trans (h.rows r hm).1 b.size, (h.rows r hm).2.1, (h.rows r hm).2.1 W W1 (h.rows r hm).2.2 (fun k _ hk => b.block k (Nat.lt_of_lt_of_le hk (h.rows r hm).1))⟩⟩
theorem Sv.drew {w W : World} {cs : List (Nat × Nat × Value)} {rs : List (Nat × Nat × (World → Prop))} (h : Sv w cs rs W) : Sv w cs rs W.drew := h.grow (Below.refl _ _).drew
theorem Sv.alloc {w W : World} {cs : List (Nat × Nat × Value)} {rs : List (Nat × Nat × (World → Prop))} (h : Sv w cs rs W) (o : Obj) : Sv w cs rs (W.alloc o) := h.grow ((Below.refl _ _).alloc (Nat.le_refl _) _)
theorem Sv.cell {w W : World} {cs : List (Nat × Nat × Value)} {rs : List (Nat × Nat × (World → Prop))} (h : Sv w cs rs W) {b o : Nat} {v : Value} (hb : b < W.heap.size) (hc : W.cell? ⟨b, o, none⟩ = some v) : Sv w ((b, o, v) :: cs) rs W :=
  ⟨h.below, fun c hm => by
    rcases List.mem_cons.1 hm with rfl | hm
    · exact ⟨hb, hc⟩
    · exact h.cells c hm, h.rows⟩
theorem Sv.box {w W : World} {cs : List (Nat × Nat × Value)} {rs : List (Nat × Nat × (World → Prop))} (h : Sv w cs rs W) (x : Value) (T : TypeId) : Sv w ((W.heap.size, 0, x) :: cs) rs (W.alloc (.cells #[x] T)) :=
  (h.alloc _).cell (by simp) (by simp)
theorem Sv.box3 {w W : World} {cs : List (Nat × Nat × Value)} {rs : List (Nat × Nat × (World → Prop))} (h : Sv w cs rs W) (x0 x1 x2 : Value) (T : TypeId) : Sv w ((W.heap.size, 0, x0) :: (W.heap.size, 1, x1) :: (W.heap.size, 2, x2) :: cs) rs (W.alloc (.cells #[x0, x1, x2] T)) :=
  (((h.alloc _).cell (by simp) (by simp)).cell (by simp) (by simp)).cell (by simp) (by simp)
theorem Sv.row {w W : World} {cs : List (Nat × Nat × Value)} {rs : List (Nat × Nat × (World → Prop))} (h : Sv w cs rs W) {lo hi : Nat} {P : World → Prop} (hz : hi ≤ W.heap.size) (l : Loc lo hi P) (r : P W) : Sv w cs ((lo, hi, P) :: rs) W :=
  ⟨h.below, h.cells, fun c hm => by
    rcases List.mem_cons.1 hm with rfl | hm
    · exact ⟨hz, l, r⟩
    · exact h.rows c hm⟩
theorem Sv.less {w W : World} {cs cs' : List (Nat × Nat × Value)} {rs rs' : List (Nat × Nat × (World → Prop))} (h : Sv w cs rs W) (h1 : ∀ x ∈ cs', x ∈ cs) (h2 : ∀ x ∈ rs', x ∈ rs) : Sv w cs' rs' W :=
  ⟨h.below, fun c hm => h.cells c (h1 _ hm), fun r hm => h.rows r (h2 _ hm)⟩
theorem Sv.get {w W : World} {cs : List (Nat × Nat × Value)} {rs : List (Nat × Nat × (World → Prop))} (h : Sv w cs rs W) {b o : Nat} {v : Value} (hm : (b, o, v) ∈ cs) : W.cell? ⟨b, o, none⟩ = some v := (h.cells _ hm).2
theorem Sv.get3 {w W : World} {cs : List (Nat × Nat × Value)} {rs : List (Nat × Nat × (World → Prop))} (h : Sv w cs rs W) {b : Nat} {x0 x1 x2 : Value} (h0 : (b, 0, x0) ∈ cs) (h1 : (b, 1, x1) ∈ cs) (h2 : (b, 2, x2) ∈ cs) : W.cell? ⟨b, 0, none⟩ = some x0 ∧ W.cell? ⟨b, 1, none⟩ = some x1 ∧ W.cell? ⟨b, 2, none⟩ = some x2 := ⟨h.get h0, h.get h1, h.get h2⟩
theorem Sv.lt {w W : World} {cs : List (Nat × Nat × Value)} {rs : List (Nat × Nat × (World → Prop))} (h : Sv w cs rs W) {b o : Nat} {v : Value} (hm : (b, o, v) ∈ cs) : b < W.heap.size := (h.cells _ hm).1
theorem Sv.at {w W : World} {cs : List (Nat × Nat × Value)} {rs : List (Nat × Nat × (World → Prop))} (h : Sv w cs rs W) {lo hi : Nat} {P : World → Prop} (hm : (lo, hi, P) ∈ rs) : hi ≤ W.heap.size ∧ P W := ⟨(h.rows _ hm).1, (h.rows _ hm).2.2⟩
theorem Sv.front1 {w W : World} {cs : List (Nat × Nat × Value)} {a b : Nat × Nat × (World → Prop)} {rs : List (Nat × Nat × (World → Prop))} (h : Sv w cs (a :: b :: rs) W) : Sv w cs (b :: a :: rs) W :=
  h.less (fun _ h => h) (fun x hx => by simp only [List.mem_cons] at hx ⊢; rcases hx with h | h | h <;> simp [h])
theorem Sv.mark1 {w W W1 : World} {cs : List (Nat × Nat × Value)} {rs : List (Nat × Nat × (World → Prop))} {lo hi : Nat} {P Q : World → Prop} (h : Sv w cs ((lo, hi, P) :: rs) W) (o : Out lo hi W W1) (l : Loc lo hi Q) (r : Q W1)
    (hl : w.heap.size ≤ lo) (h1 : ∀ c ∈ cs, c.1 < lo ∨ hi ≤ c.1) (h2 : ∀ q ∈ rs, q.2.1 ≤ lo ∨ hi ≤ q.1) : Sv w cs ((lo, hi, Q) :: rs) W1 := by
  have hz := (h.rows _ (List.mem_cons_self ..)).1
  refine Sv.row ⟨h.below.trans (o.below hl h.below.size), fun c hm => ⟨Nat.lt_of_lt_of_le (h.cells c hm).1 o.size, o.cell (h.cells c hm).1 (h1 c hm) (h.cells c hm).2⟩, fun q hm => ?_⟩ (Nat.le_trans hz o.size) l r
  have hq := h.rows q (List.mem_cons_of_mem _ hm)
  have hs := h2 q hm
  exact ⟨Nat.le_trans hq.1 o.size, hq.2.1, hq.2.1 W W1 hq.2.2 (fun k k1 k2 => o.block k (Nat.lt_of_lt_of_le k2 hq.1) (by rcases hs with hs | hs <;> omega))⟩
theorem Sv.pack {w W : World} {cs : List (Nat × Nat × Value)} {rs : List (Nat × Nat × (World → Prop))} (h : Sv w cs rs W) : ∃ P : World → Prop, P W ∧ (∀ X, P X → P X.drew) ∧ (∀ X Y, P X → Below X.heap.size X Y → P Y) ∧ ∀ X, P X → Sv w cs rs X :=
  ⟨Sv w cs rs, h, fun _ p => p.drew, fun _ _ p b => p.grow b, fun _ p => p⟩

end Go.Proofs.Ytikliofkplbdpaa

namespace Go.Proofs.Ytikliofkplbdpaa
open Go.ChangeShapes Go.WideShapes Go.ChangeAt Go.RowKit
set_option linter.unusedVariables false

theorem infoGone : (Try.prog.info? 65).map (fun i => (i.zero, i.size, i.bytes)) = some (some (.agg #[.int .i64 0, .int .i64 0]), 2, 16) := by kernel_rfl
theorem held_gones_zero (a : Option Addr) (c k0 : Nat) (w : World) :
    Calls Try.prog 41 #[.slice a 0 c, .int .i64 k0] w fun e w' => e = .returned (.int .i64 k0) ∧ w' = w := by
  go_enter Try.func41, Try.ntmps41
  go_wp2
  go_loop [5, 1] (fun i k => i = .int .i64 0 ∧ k = .int .i64 k0) (fun _ _ => 0)
  case atStart => exact ⟨rfl, rfl⟩
  case round =>
    obtain ⟨rfl, rfl⟩ := hrel
    go_wp2
    go_ret
    exact ⟨rfl, rfl⟩
theorem mark_gones_zero (a : Option Addr) (c k0 : Nat) (w : World) :
    Calls Try.prog 40 #[.slice a 0 c, .int .i64 k0] w fun e w' => e = .returned (.int .i64 k0) ∧ w' = w := by
  go_enter Try.func40, Try.ntmps40
  go_wp2
  go_loop [5, 1] (fun i k => i = .int .i64 0 ∧ k = .int .i64 k0) (fun _ _ => 0)
  case atStart => exact ⟨rfl, rfl⟩
  case round =>
    obtain ⟨rfl, rfl⟩ := hrel
    go_wp2
    go_ret
    exact ⟨rfl, rfl⟩

set_option maxHeartbeats 800000 in
set_option maxRecDepth 100000 in
theorem held_gones_some (g c n k0 : Nat) (w : World) (hn : n ≤ 4194304) (h2 : k0 ≤ 8388608)
    (hA : ∀ j, j < n → w.cell? ⟨g, j * 2, none⟩ = some (.int .i64 ((k0 + j * 2 : Nat) : Int)) ∧ w.cell? ⟨g, j * 2 + 1, none⟩ = some (.int .i64 ((k0 + j * 2 + 1 : Nat) : Int))) :
    Calls Try.prog 41 #[.slice (some ⟨g, 0, none⟩) n c, .int .i64 k0] w fun e w' => e = .returned (.int .i64 ((k0 + n * 2 : Nat) : Int)) ∧ w' = w := by
  have HA : Hid _ := hA
  clear hA
  go_enter Try.func41, Try.ntmps41
  go_wp2
  go_loop [5, 1] (fun i kk => ∃ k : Nat, k ≤ n ∧ i = .int .i64 k ∧ kk = .int .i64 ((k0 + k * 2 : Nat) : Int)) (fun i _ => n - (intOf i).toNat)
  case atStart => exact ⟨0, Nat.zero_le _, rfl, rfl⟩
  case round =>
    obtain ⟨k, hk, rfl, rfl⟩ := hrel
    by_cases hlt : k < n
    · obtain ⟨hx1, hx2⟩ := HA.out k hlt
      have hlt' : (k : Int) < (n : Int) := by omega
      go_wp2
      go_round
      case rel => exact ⟨k + 1, by omega, by go_num, by go_num⟩
      case measure => simp [intOf]; omega
    · have HK : Hid (k = n) := (by omega : k = n)
      go_wp2
      go_ret
      exact ⟨ret_ints (by rw [HK.out]), rfl⟩

set_option maxHeartbeats 800000 in
set_option maxRecDepth 100000 in
theorem mark_gones_some (g c n k0 : Nat) (w : World) (hn : n ≤ 4194304) (h2 : k0 ≤ 8388608) (hg : g < w.heap.size)
    (hA : ∀ j, j < n * 2 → ∃ x, w.cell? ⟨g, j, none⟩ = some (.int .i64 x)) (hF : ∀ j, w.frozen? ⟨g, j, none⟩ = false) :
    Calls Try.prog 40 #[.slice (some ⟨g, 0, none⟩) n c, .int .i64 k0] w fun e w' => e = .returned (.int .i64 ((k0 + n * 2 : Nat) : Int)) ∧
      (∀ j, j < n * 2 → w'.cell? ⟨g, j, none⟩ = some (.int .i64 ((k0 + j : Nat) : Int))) ∧ (∀ j, w'.frozen? ⟨g, j, none⟩ = false) ∧ w.grownBy w' (some g) := by
  have HA : Hid _ := hA
  have HF : Hid _ := hF
  clear hA hF
  go_enter Try.func40, Try.ntmps40
  go_wp2
  go_loopw [5, 1] (fun i kk wr => ∃ k : Nat, k ≤ n ∧ i = .int .i64 k ∧ kk = .int .i64 ((k0 + k * 2 : Nat) : Int) ∧ g < wr.heap.size ∧ w.grownBy wr (some g) ∧ Hid ((∀ j, j < k * 2 → wr.cell? ⟨g, j, none⟩ = some (.int .i64 ((k0 + j : Nat) : Int))) ∧ (∀ j, k * 2 ≤ j → j < n * 2 → ∃ x, wr.cell? ⟨g, j, none⟩ = some (.int .i64 x)) ∧ ∀ j, wr.frozen? ⟨g, j, none⟩ = false)) (fun i _ _ => n - (intOf i).toNat)
  case atStart => exact ⟨0, Nat.zero_le _, rfl, rfl, hg, World.grownBy.refl _ _, ⟨fun j hj => by omega, fun j _ hj => HA.out j hj, HF.out⟩⟩
  case round =>
    obtain ⟨k, hk, rfl, rfl, hgr, hb, HS⟩ := hrel
    by_cases hlt : k < n
    · obtain ⟨x, hx⟩ := HS.out.2.1 (k * 2) (Nat.le_refl _) (by omega)
      obtain ⟨y, hy⟩ := HS.out.2.1 (k * 2 + 1) (by omega) (by omega)
      have hz := HS.out.2.2 (k * 2)
      have hz2 := HS.out.2.2 (k * 2 + 1)
      have hlt' : (k : Int) < (n : Int) := by omega
      go_wp2
      go_roundw
      case rel =>
        refine ⟨k + 1, by omega, by go_num, by go_num, by simp; omega, grown_set (grown_set hb _ _) _ _, ⟨fun j hj => ?_, fun j hj1 hj2 => ?_, fun j => ?_⟩⟩
        · by_cases ej : j = k * 2 + 1
          · subst ej; refine (World.cell?_setCell_same _ _ _ (by rw [World.cell?_setCell_other _ _ _ _ (by simp <;> omega)]; exact hy)).trans ?_; simp; omega
          · rw [World.cell?_setCell_other _ _ _ _ (by simp <;> omega)]
            by_cases ej2 : j = k * 2
            · subst ej2; refine (World.cell?_setCell_same _ _ _ hx).trans ?_; simp
            · rw [World.cell?_setCell_other _ _ _ _ (by simp <;> omega)]; exact HS.out.1 j (by omega)
        · rw [World.cell?_setCell_other _ _ _ _ (by simp <;> omega), World.cell?_setCell_other _ _ _ _ (by simp <;> omega)]; exact HS.out.2.1 j (by omega) hj2
        · rw [World.frozen?_setCell, World.frozen?_setCell]; exact HS.out.2.2 j
      case measure => simp [intOf]; omega
    · have HK : Hid (k = n) := (by omega : k = n)
      go_wp2
      go_ret
      exact ⟨ret_ints (by rw [HK.out]), by rw [← HK.out]; exact HS.out.1, HS.out.2.2, hb⟩

theorem imarks_at (k0 n j : Nat) (hj : j < n) : (imarks k0 n)[j]'(by rw [imarks_len]; exact hj) = .int .i64 ((k0 + j : Nat) : Int) := by simp [imarks]
theorem mark_gones (w : World) (lo hi : Nat) (v : Value) (L : List (Int × Int)) (k0 : Nat) (hn : L.length ≤ 4194304) (h2 : k0 ≤ 8388608) (hh : hi ≤ w.heap.size) (r : Rw w lo hi v L.length (gones L)) :
    Calls Try.prog 40 #[v, .int .i64 k0] w fun e w' => e = .returned (.int .i64 ((k0 + L.length * 2 : Nat) : Int)) ∧ Rw w' lo hi v L.length (imarks k0 (L.length * 2)) ∧ ∃ g, w.grownBy w' g ∧ ∀ k, g = some k → 0 < L.length ∧ v.ownBlock = some k ∧ lo ≤ k ∧ k < hi := by
  obtain ⟨a, c, rfl, hcp, q1⟩ := r
  by_cases h0 : L.length = 0
  · rw [h0] at hcp ⊢
    refine (mark_gones_zero a c k0 w).mono ?_
    rintro e w' ⟨rfl, rfl⟩
    exact ⟨by simp, ⟨a, c, rfl, hcp, .inl (by simp [imarks])⟩, none, World.grownBy.refl _ _, fun k h => by cases h⟩
  · rcases q1 with q1 | ⟨g, rfl, g1, g2, q1, q2⟩
    · exact absurd (by have := congrArg List.length q1; rw [gones_len] at this; simp only [List.length_nil] at this; omega) h0
    · have l := gones_len L
      refine (mark_gones_some g c L.length k0 w hn h2 (by omega) (fun j hj => ?_) q2).mono ?_
      · have hm := List.getElem_mem (l := gones L) (n := j) (by omega)
        have := q1 j (by omega)
        simp only [gones, List.mem_flatMap] at hm
        obtain ⟨p, -, hm⟩ := hm
        simp only [List.mem_cons, List.not_mem_nil, or_false] at hm
        rcases hm with hm | hm
        · exact ⟨p.1, this.trans (congrArg some hm)⟩
        · exact ⟨p.2, this.trans (congrArg some hm)⟩
      · rintro e w' ⟨rfl, m1, m2, m3⟩
        exact ⟨rfl, ⟨_, c, rfl, hcp, .inr ⟨g, rfl, g1, g2, fun j hj => by
          rw [imarks_len] at hj
          rw [m1 j hj, imarks_at _ _ _ hj], m2⟩⟩, some g, m3, fun k h => by cases h; exact ⟨by omega, rfl, g1, g2⟩⟩
theorem held_gones (w : World) (lo hi : Nat) (v : Value) (n k0 : Nat) (hn : n ≤ 4194304) (h2 : k0 ≤ 8388608) (r : Rw w lo hi v n (imarks k0 (n * 2))) :
    Calls Try.prog 41 #[v, .int .i64 k0] w fun e w' => e = .returned (.int .i64 ((k0 + n * 2 : Nat) : Int)) ∧ w' = w := by
  obtain ⟨a, c, rfl, -, q1⟩ := r
  by_cases h0 : n = 0
  · subst h0
    exact held_gones_zero a c k0 w
  · rcases q1 with q1 | ⟨g, rfl, g1, g2, q1, q2⟩
    · exact absurd (by have := congrArg List.length q1; rw [imarks_len] at this; simp only [List.length_nil] at this; omega) h0
    · refine held_gones_some g c n k0 w hn h2 (fun j hj => ⟨?_, ?_⟩)
      · rw [q1 (j * 2) (by rw [imarks_len]; omega), imarks_at _ _ _ (by omega)]
      · rw [q1 (j * 2 + 1) (by rw [imarks_len]; omega), imarks_at _ _ _ (by omega)]; rfl

theorem sz_gones (a : Option Addr) (n c : Nat) (l : Int) (w : World) (hn : n ≤ 9223372036854775807) (h1 : 0 ≤ l) (h2 : l ≤ 4194304) :
    Calls Try.prog 30 #[.slice a n c, .int .i64 l] w fun e w' => e = .returned (.int .i64 (if l < n then -1 else l - n)) ∧ w' = w := by
  by_cases h : l < n
  · rw [if_pos h]
    go_enter Try.func30, Try.ntmps30
    go_wp2
    go_ret
    exact ⟨rfl, rfl⟩
  · rw [if_neg h]
    go_enter Try.func30, Try.ntmps30
    go_wp2
    go_ret
    exact ⟨rfl, rfl⟩

set_option maxRecDepth 100000 in
theorem to_gone (x y : Int) (w : World) :
    Calls Try.prog 44 #[.agg #[.int .i64 x, .int .i64 y]] w fun e w' => e = .returned (.agg #[.int .i64 x, .int .i64 y]) ∧ Below w.heap.size w w' := by
  go_enter Try.func44, Try.ntmps44
  go_wp2
  refine bodyPost_ret (v := .agg #[.int .i64 x, .int .i64 y]) (by simp [results, Try.results44, go_sem]) rfl ⟨rfl, ?_⟩
  repeat (first | exact Below.refl _ _ | refine Below.setCell ?_ (by simp <;> omega) _ | refine Below.alloc ?_ (by simp <;> omega) _)

set_option maxRecDepth 100000 in
theorem eq_gone (x y : Int) (w : World) :
    Calls Try.prog 50 #[.agg #[.int .i64 x, .int .i64 y], .agg #[.int .i64 x, .int .i64 y]] w fun e w' => e = .returned (.bool true) ∧ Below w.heap.size w w' := by
  go_enter Try.func50, Try.ntmps50
  go_wp2
  go_ret
  exact ⟨rfl, (((Below.refl _ _).alloc (Nat.le_refl _) _).alloc (by simp) _)⟩

end Go.Proofs.Ytikliofkplbdpaa

namespace Go.Proofs.Ytikliofkplbdpaa
open Go.ChangeShapes Go.WideShapes Go.ChangeAt Go.RowKit
set_option linter.unusedVariables false

theorem made_two (n j : Nat) (hj : j < n) : (madeCells #[Value.int .i64 0, Value.int .i64 0] n)[j]? = some (.int .i64 0) := by
  have h : j % 2 = 0 ∨ j % 2 = 1 := by omega
  rcases h with h | h <;> simp [madeCells, hj, h]

theorem eq_gones_zero (a b : Option Addr) (c d : Nat) (w : World) :
    Calls Try.prog 39 #[.slice a 0 c, .slice b 0 d] w fun e w' => e = .returned (.bool true) ∧ Below w.heap.size w w' := by
  go_enter Try.func39, Try.ntmps39
  go_wp2
  go_loop [5] (fun i => i = .int .i64 0) (fun _ => 0)
  case atStart => rfl
  case round =>
    subst hrel
    go_wp2
    go_ret
    exact ⟨rfl, Below.refl _ _⟩

theorem four_keep {W0 W W' : World} {a b : Nat} {p q r s : Nat} {x y u v : Value} (h : Below W0.heap.size W0 W ∧ W.cell? ⟨a, p, none⟩ = some x ∧ W.cell? ⟨a, q, none⟩ = some y ∧ W.cell? ⟨b, r, none⟩ = some u ∧ W.cell? ⟨b, s, none⟩ = some v ∧ a < W.heap.size ∧ b < W.heap.size) (hb : Below W.heap.size W W') :
    Below W0.heap.size W0 W' ∧ W'.cell? ⟨a, p, none⟩ = some x ∧ W'.cell? ⟨a, q, none⟩ = some y ∧ W'.cell? ⟨b, r, none⟩ = some u ∧ W'.cell? ⟨b, s, none⟩ = some v ∧ a < W'.heap.size ∧ b < W'.heap.size := by
  obtain ⟨h0, h1, h2, h3, h4, h5, h6⟩ := h
  have := hb.size
  exact ⟨below_step h0 hb, below_cell hb h5 h1, below_cell hb h5 h2, below_cell hb h6 h3, below_cell hb h6 h4, by omega, by omega⟩

set_option maxHeartbeats 800000 in
set_option maxRecDepth 100000 in
theorem eq_gones_some (g h c d : Nat) (L : List (Int × Int)) (w : World) (hn : L.length ≤ 4194304) (h0 : 0 < L.length) (hg : g < w.heap.size) (hh : h < w.heap.size)
    (hA : ∀ j (hj : j < L.length), w.cell? ⟨g, j * 2, none⟩ = some (.int .i64 L[j].1) ∧ w.cell? ⟨g, j * 2 + 1, none⟩ = some (.int .i64 L[j].2)) (hB : ∀ j (hj : j < L.length), w.cell? ⟨h, j * 2, none⟩ = some (.int .i64 L[j].1) ∧ w.cell? ⟨h, j * 2 + 1, none⟩ = some (.int .i64 L[j].2)) :
    Calls Try.prog 39 #[.slice (some ⟨g, 0, none⟩) L.length c, .slice (some ⟨h, 0, none⟩) L.length d] w fun e w' => e = .returned (.bool true) ∧ Below w.heap.size w w' := by
  have HA := hidIt hA
  have HB := hidIt hB
  clear hA hB
  go_enter Try.func39, Try.ntmps39
  go_wp2
  go_loopw [5] (fun i wr => ∃ k : Nat, k ≤ L.length ∧ i = .int .i64 k ∧ Below w.heap.size w wr) (fun i _ => L.length - (intOf i).toNat)
  case atStart => exact ⟨0, Nat.zero_le _, rfl, Below.refl _ _⟩
  case round =>
    rename World => wr
    obtain ⟨k, hk, rfl, hb⟩ := hrel
    by_cases hlt : k < L.length
    · have cA := HA.out k hlt
      have cB := HB.out k hlt
      have hlt' : (k : Int) < (L.length : Int) := by omega
      generalize L[k] = x at cA cB
      obtain ⟨x, y⟩ := x
      have hS : Below w.heap.size w wr ∧ wr.cell? ⟨g, k * 2, none⟩ = some (.int .i64 x) ∧ wr.cell? ⟨g, k * 2 + 1, none⟩ = some (.int .i64 y) ∧ wr.cell? ⟨h, k * 2, none⟩ = some (.int .i64 x) ∧ wr.cell? ⟨h, k * 2 + 1, none⟩ = some (.int .i64 y) ∧ g < wr.heap.size ∧ h < wr.heap.size :=
        ⟨hb, below_cell hb hg cA.1, below_cell hb hg cA.2, below_cell hb hh cB.1, below_cell hb hh cB.2, Nat.lt_of_lt_of_le hg hb.size, Nat.lt_of_lt_of_le hh hb.size⟩
      clear cA cB hb
      go_wp2_with fail
      go_region_held3 (fun W => Below w.heap.size w W ∧ W.cell? ⟨g, k * 2, none⟩ = some (.int .i64 x) ∧ W.cell? ⟨g, k * 2 + 1, none⟩ = some (.int .i64 y) ∧ W.cell? ⟨h, k * 2, none⟩ = some (.int .i64 x) ∧ W.cell? ⟨h, k * 2 + 1, none⟩ = some (.int .i64 y) ∧ g < W.heap.size ∧ h < W.heap.size)
        (first | exact four_keep (by assumption) (Below.refl _ _).drew | exact four_keep (by assumption) (by assumption))
        (first | (go_at_call 50; refine (eq_gone x y _).mono ?_; rintro e wa ⟨rfl, ba⟩))
      rename_i hH
      have hb := hH.1
      clear hH hS
      go_wp2
      go_roundw
      case rel => exact ⟨k + 1, by omega, by go_num, hb⟩
      case measure => simp [intOf]; omega
    · go_wp2
      go_ret
      exact ⟨rfl, hb⟩

theorem gones_cell {w : World} {g lo hi : Nat} {L : List (Int × Int)} (h3 : ∀ j (hj : j < (gones L).length), w.cell? ⟨g, j, none⟩ = some (gones L)[j]) : ∀ j (hj : j < L.length), w.cell? ⟨g, j * 2, none⟩ = some (.int .i64 L[j].1) ∧ w.cell? ⟨g, j * 2 + 1, none⟩ = some (.int .i64 L[j].2) := by
  intro j hj
  have l := gones_len L
  have e := gones_at L j hj
  have e1 : j * 2 < (gones L).length := by omega
  have e2 : j * 2 + 1 < (gones L).length := by omega
  rw [List.getElem?_eq_getElem e1, List.getElem?_eq_getElem e2] at e
  exact ⟨(h3 _ e1).trans e.1, (h3 _ e2).trans e.2⟩
theorem gones_zero {L : List (Int × Int)} (h : gones L = []) : L = [] := List.length_eq_zero_iff.1 (by have := congrArg List.length h; rw [gones_len] at this; simp only [List.length_nil] at this; omega)
theorem eq_gones (w : World) (l1 h1 l2 h2 : Nat) (v1 v2 : Value) (L : List (Int × Int)) (hn : L.length ≤ 4194304) (e1 : h1 ≤ w.heap.size) (e2 : h2 ≤ w.heap.size) (r1 : Rw w l1 h1 v1 L.length (gones L)) (r2 : Rw w l2 h2 v2 L.length (gones L)) :
    Calls Try.prog 39 #[v1, v2] w fun e w' => e = .returned (.bool true) ∧ Below w.heap.size w w' := by
  obtain ⟨a, c, rfl, -, q1⟩ := r1
  obtain ⟨b, d, rfl, -, q2⟩ := r2
  rcases q1 with q1 | ⟨g, rfl, _, _, q1, _⟩
  · obtain rfl := gones_zero q1
    exact eq_gones_zero a b c d w
  · rcases q2 with q2 | ⟨h, rfl, _, _, q2, _⟩
    · obtain rfl := gones_zero q2
      exact eq_gones_zero _ b c d w
    · by_cases h0 : 0 < L.length
      · exact eq_gones_some g h c d L w hn h0 (by omega) (by omega) (gones_cell (lo := 0) (hi := 0) q1) (gones_cell (lo := 0) (hi := 0) q2)
      · have e : L.length = 0 := by omega
        rw [e]
        exact eq_gones_zero _ _ c d w

set_option maxHeartbeats 800000 in
set_option maxRecDepth 100000 in
theorem to_gones_some (b off c : Nat) (L : List (Int × Int)) (w : World) (hn : L.length ≤ 4194304) (h0 : 0 < L.length) (hb : b < w.heap.size)
    (hA : ∀ j (hj : j < L.length), w.cell? ⟨b, off + j * 2, none⟩ = some (.int .i64 L[j].1) ∧ w.cell? ⟨b, off + j * 2 + 1, none⟩ = some (.int .i64 L[j].2)) :
    Calls Try.prog 35 #[.slice (some ⟨b, off, none⟩) L.length c] w fun e w' => ∃ v', e = .returned v' ∧ Rw w' w.heap.size w'.heap.size v' L.length (gones L) ∧ Below w.heap.size w w' := by
  obtain ⟨i0, hi, hz0, hz1, hz2⟩ := info_parts infoGone
  have HA := hidIt hA
  clear hA
  go_enter Try.func35, Try.ntmps35
  go_wp2_with (at_make; refine wpList_make_full _ rfl _ _ 29 rfl w.heap.size 65 i0 (.agg #[.int .i64 0, .int .i64 0]) 2 Try.underlying29 hi hz0 hz1 .i64 .i64 _ _ L.length rfl rfl rfl rfl (by rw [hz2]; omega) (by unfold maxLen; omega) (Nat.le_refl _) ?_; intro w1 hown hgrow)
  have hb1 : Below w.heap.size w w1 := (Below.refl _ _).grown hgrow (Nat.le_refl _) (fun k hk => by cases hk)
  have hgz : w.heap.size < w1.heap.size ∧ (∀ j, j < L.length * 2 → ∃ x, w1.cell? ⟨w.heap.size, j, none⟩ = some (.int .i64 x)) ∧ ∀ j, w1.frozen? ⟨w.heap.size, j, none⟩ = false := by
    rcases own_cells2 hown with ⟨h, _⟩ | ⟨g, cap, hv, h1, h2, h3, h4, h5, h6, h7⟩
    · cases h
    · simp at hv
      obtain ⟨rfl, _⟩ := hv
      refine ⟨h2, fun j hj => ⟨0, ?_⟩, h7⟩
      have hl : j < (madeCells (Value.agg #[.int .i64 0, .int .i64 0]).cells (L.length * 2)).toList.length := by omega
      rw [h6 j hl]
      have e := made_two (L.length * 2) j hj
      rw [← e, ← Array.getElem?_toList]
      exact (List.getElem?_eq_getElem hl).symm
  clear hown hgrow
  obtain ⟨hgs, hg1, hg2⟩ := hgz
  have HG := hidIt hg1
  have HF := hidIt hg2
  clear hg1 hg2
  go_wp2
  go_loopw [4] (fun i wr => ∃ k : Nat, k ≤ L.length ∧ i = .int .i64 k ∧ w.heap.size < wr.heap.size ∧ Below w.heap.size w wr ∧ Hid ((∀ j (hj : j < (gones L).length), j < k * 2 → wr.cell? ⟨w.heap.size, j, none⟩ = some (gones L)[j]) ∧ (∀ j, k * 2 ≤ j → j < L.length * 2 → ∃ x, wr.cell? ⟨w.heap.size, j, none⟩ = some (.int .i64 x)) ∧ ∀ j, wr.frozen? ⟨w.heap.size, j, none⟩ = false)) (fun i _ => L.length - (intOf i).toNat)
  case atStart => exact ⟨0, Nat.zero_le _, rfl, hgs, hb1, ⟨fun j _ hj => by omega, fun j _ hj => HG.out j hj, HF.out⟩⟩
  case round =>
    rename World => wr
    obtain ⟨k, hk, rfl, hgr, hbw, HS⟩ := hrel
    by_cases hlt : k < L.length
    · obtain ⟨x, hx⟩ := HS.out.2.1 (k * 2) (Nat.le_refl _) (by omega)
      obtain ⟨x2, hx2⟩ := HS.out.2.1 (k * 2 + 1) (by omega) (by omega)
      have hz := HS.out.2.2 (k * 2)
      have hzz := HS.out.2.2 (k * 2 + 1)
      have hlt' : (k : Int) < (L.length : Int) := by omega
      have hr := (hbw.cell (p := ⟨b, off + k * 2, none⟩) hb).trans (HA.out k hlt).1
      have hr2 := (hbw.cell (p := ⟨b, off + k * 2 + 1, none⟩) hb).trans (HA.out k hlt).2
      have HY := hidIt (gones_at L k hlt)
      generalize L[k].1 = y at hr HY
      generalize L[k].2 = y2 at hr2 HY
      have HX := hidIt (And.intro hx (And.intro hx2 (And.intro hz hzz)))
      clear hx hx2 hz hzz
      go_wp2_with fail
      refine (to_gone y y2 _).mono ?_
      rintro e wt ⟨rfl, bt⟩
      have hx := below_cell bt hgr HX.out.1
      have hx2 := below_cell bt hgr HX.out.2.1
      have hz := below_frozen bt hgr HX.out.2.2.1
      have hzz := below_frozen bt hgr HX.out.2.2.2
      have zt := bt.size
      have BT := hidIt bt
      clear bt hr hr2
      go_wp2
      go_roundw
      case rel =>
        have l := gones_len L
        have hkk : w.heap.size < wt.heap.size := by omega
        refine ⟨k + 1, by omega, by go_num, by simp; omega, ((below_step hbw (BT.out.mono (by omega))).setCell (Nat.le_refl _) _).setCell (Nat.le_refl _) _, ⟨fun j hj hjk => ?_, fun j hj1 hj2 => ?_, fun j => ?_⟩⟩
        · by_cases ej : j = k * 2 + 1
          · subst ej
            refine (World.cell?_setCell_same _ _ _ (by rw [World.cell?_setCell_other _ _ _ _ (by simp <;> omega)]; exact hx2)).trans ?_
            rw [← HY.out.2, List.getElem?_eq_getElem hj]
          · rw [World.cell?_setCell_other _ _ _ _ (by simp <;> omega)]
            by_cases ej2 : j = k * 2
            · subst ej2
              refine (World.cell?_setCell_same _ _ _ hx).trans ?_
              rw [← HY.out.1, List.getElem?_eq_getElem hj]
            · rw [World.cell?_setCell_other _ _ _ _ (by simp <;> omega)]
              exact below_cell BT.out hgr (HS.out.1 j hj (by omega))
        · rw [World.cell?_setCell_other _ _ _ _ (by simp <;> omega), World.cell?_setCell_other _ _ _ _ (by simp <;> omega)]
          obtain ⟨z, hz⟩ := HS.out.2.1 j (by omega) hj2
          exact ⟨z, below_cell BT.out hgr hz⟩
        · rw [World.frozen?_setCell, World.frozen?_setCell]; exact below_frozen BT.out hgr (HS.out.2.2 j)
      case measure => simp [intOf]; omega
    · go_wp2
      go_ret
      refine ⟨.slice (some ⟨w.heap.size, 0, none⟩) L.length L.length, rfl, ⟨_, L.length, rfl, Nat.le_refl _, .inr ⟨w.heap.size, rfl, Nat.le_refl _, hgr, fun j hj => ?_, HS.out.2.2⟩⟩, hbw⟩
      have l := gones_len L
      exact HS.out.1 j hj (by omega)

theorem to_gones_zero (a : Option Addr) (c : Nat) (w : World) :
    Calls Try.prog 35 #[.slice a 0 c] w fun e w' => ∃ v', e = .returned v' ∧ Rw w' w.heap.size w'.heap.size v' 0 [] ∧ Below w.heap.size w w' := by
  obtain ⟨i0, hi, hz0, hz1, hz2⟩ := info_parts infoGone
  go_enter Try.func35, Try.ntmps35
  go_wp2_with (at_make; refine wpList_make_full _ rfl _ _ 29 rfl w.heap.size 65 i0 (.agg #[.int .i64 0, .int .i64 0]) 2 Try.underlying29 hi hz0 hz1 .i64 .i64 _ _ 0 rfl rfl rfl rfl (by omega) (by unfold maxLen; omega) (Nat.le_refl _) ?_; intro w1 hown hgrow)
  have hb1 : Below w.heap.size w w1 := (Below.refl _ _).grown hgrow (Nat.le_refl _) (fun k hk => by cases hk)
  clear hown hgrow
  go_wp2
  go_loop [4] (fun i => i = .int .i64 0) (fun _ => 0)
  case atStart => rfl
  case round =>
    subst hrel
    go_wp2
    go_ret
    exact ⟨.slice (some ⟨w.heap.size, 0, none⟩) 0 0, rfl, ⟨_, 0, rfl, Nat.le_refl _, .inl rfl⟩, hb1⟩

theorem to_gones (w : World) (v : Value) (L : List (Int × Int)) (hn : L.length ≤ 4194304) (h : PIn w v L) :
    Calls Try.prog 35 #[v] w fun e w' => ∃ v', e = .returned v' ∧ Rw w' w.heap.size w'.heap.size v' L.length (gones L) ∧ Below w.heap.size w w' := by
  obtain ⟨a, cap, rfl, -, h⟩ := h
  rcases h with rfl | ⟨b, off, rfl, h1, h2⟩
  · exact to_gones_zero a cap w
  · by_cases h0 : 0 < L.length
    · exact to_gones_some b off cap L w hn h0 h1 h2
    · obtain rfl : L = [] := List.length_eq_zero_iff.1 (by omega)
      exact to_gones_zero _ cap w

end Go.Proofs.Ytikliofkplbdpaa

namespace Go.Proofs.Ytikliofkplbdpaa
open Go.ChangeShapes Go.WideShapes Go.ChangeAt Go.RowKit
set_option linter.unusedVariables false

theorem sz_ages (a : Int) (p l : Option Addr) (n c m d : Nat) (w : World) (hn : n ≤ 9223372036854775807) (hm : m ≤ 9223372036854775807) :
    Calls Try.prog 12 #[.agg #[.int .i64 a, .slice p n c, .slice l m d], .int .i64 1048576] w fun e w' => e = .returned (.int .i64 (if n + m ≤ 1048576 then (1048576 : Int) - n - m else -1)) ∧ Below w.heap.size w w' := by
  by_cases h : n ≤ 1048576
  · by_cases h2 : n + m ≤ 1048576
    · rw [if_pos h2]
      go_enter Try.func12, Try.ntmps12
      go_wp2_with (first | (go_at_call 11; refine (sz_int p n c 1048576 _ hn (by omega) (by omega)).mono ?_; rintro e w' ⟨rfl, rfl⟩; rw [if_neg (by omega)]) | (go_at_call 30; refine (sz_gones l m d _ _ hm (by omega) (by omega)).mono ?_; rintro e w' ⟨rfl, rfl⟩; rw [if_neg (by omega)]))
      go_ret
      exact ⟨rfl, (Below.refl _ _).alloc (Nat.le_refl _) _⟩
    · rw [if_neg h2]
      go_enter Try.func12, Try.ntmps12
      go_wp2_with (first | (go_at_call 11; refine (sz_int p n c 1048576 _ hn (by omega) (by omega)).mono ?_; rintro e w' ⟨rfl, rfl⟩; rw [if_neg (by omega)]) | (go_at_call 30; refine (sz_gones l m d _ _ hm (by omega) (by omega)).mono ?_; rintro e w' ⟨rfl, rfl⟩; rw [if_pos (by omega)]))
      go_ret
      exact ⟨rfl, (Below.refl _ _).alloc (Nat.le_refl _) _⟩
  · rw [if_neg (by omega)]
    go_enter Try.func12, Try.ntmps12
    go_wp2_with (go_at_call 11; refine (sz_int p n c 1048576 _ hn (by omega) (by omega)).mono ?_; rintro e w' ⟨rfl, rfl⟩; rw [if_pos (by omega)])
    go_ret
    exact ⟨rfl, (Below.refl _ _).alloc (Nat.le_refl _) _⟩

theorem Rw.set_below {w : World} {lo hi : Nat} {v : Value} {n : Nat} {xs : List Value} (h : Rw w lo hi v n xs) (p : Addr) (x : Value) (hp : p.block < lo) : Rw (w.setCell p x) lo hi v n xs :=
  Rw.loc lo hi v n xs w _ h (fun k k1 k2 => Below.heap_setCell _ _ _ _ (by omega))
theorem Rw.alloc {w : World} {lo hi : Nat} {v : Value} {n : Nat} {xs : List Value} (h : Rw w lo hi v n xs) (hh : hi ≤ w.heap.size) (o : Obj) : Rw (w.alloc o) lo hi v n xs := h.below ((Below.refl _ _).alloc hh o)

set_option maxRecDepth 100000 in
theorem to_ages (w : World) (a : Int) (p l : Value) (ps : List Int) (L : List (Int × Int)) (hn : ps.length ≤ 4194304) (hm : L.length ≤ 4194304) (h : AIn w p l ps L) :
    Calls Try.prog 17 #[.agg #[.int .i64 a, p, l]] w fun e w' => ∃ p' l', e = .returned (.agg #[.int .i64 a, p', l']) ∧ AR w.heap.size w'.heap.size p' l' ps L w' ∧ Below w.heap.size w w' := by
  have H := hidIt h
  obtain ⟨pa, pc, la, lc, rfl, rfl, -⟩ := h.form
  clear h
  go_enter Try.func17, Try.ntmps17
  go_wp2_with fail
  generalize hW : World.alloc (World.alloc (World.alloc w _) _) _ = W0
  have bW : Below w.heap.size w W0 := by
    rw [← hW]
    exact (((Below.refl w.heap.size w).alloc (Nat.le_refl _) _).alloc (by simp) _).alloc (by simp <;> omega) _
  have zW : W0.heap.size = w.heap.size + 3 := by rw [← hW]; simp
  have cW : W0.cell? ⟨w.heap.size, 0, none⟩ = some (.int .i64 a) ∧ W0.cell? ⟨w.heap.size, 1, none⟩ = some (.slice pa ps.length pc) ∧ W0.cell? ⟨w.heap.size, 2, none⟩ = some (.slice la L.length lc) := by rw [← hW]; simp [go_sem]
  have dW : W0.cell? ⟨w.heap.size + 1, 0, none⟩ = some (.int .i64 0) ∧ W0.cell? ⟨w.heap.size + 1, 1, none⟩ = some (.slice none 0 0) ∧ W0.cell? ⟨w.heap.size + 1, 2, none⟩ = some (.slice none 0 0) := by rw [← hW]; simp [go_sem]
  have eW : W0.cell? ⟨w.heap.size + 1 + 1, 0, none⟩ = some (.int .i64 a) ∧ W0.cell? ⟨w.heap.size + 1 + 1, 1, none⟩ = some (.slice none 0 0) ∧ W0.cell? ⟨w.heap.size + 1 + 1, 2, none⟩ = some (.slice none 0 0) := by rw [← hW]; simp [go_sem]
  have fW : (∀ o, W0.frozen? ⟨w.heap.size + 1, o, none⟩ = false) ∧ (∀ o, W0.frozen? ⟨w.heap.size + 1 + 1, o, none⟩ = false) := by rw [← hW]; simp [go_sem]
  clear hW
  refine (to_int _ _ ps hn (H.out.pins.below bW)).mono ?_
  rintro e w1 ⟨v1, rfl, r1, b1⟩
  have z1 := b1.size
  have R1 := hidIt r1
  obtain ⟨a1, c1, rfl⟩ := r1.form
  clear r1
  have c2 := below_cell b1 (by omega) cW.2.2
  have d0 := below_cell b1 (by omega) dW.1
  have d1 := below_cell b1 (by omega) dW.2.1
  have d2 := below_cell b1 (by omega) dW.2.2
  have e0 := below_cell b1 (by omega) eW.1
  have e1 := below_cell b1 (by omega) eW.2.1
  have e2 := below_cell b1 (by omega) eW.2.2
  have f1 : (∀ o, w1.frozen? ⟨w.heap.size + 1, o, none⟩ = false) ∧ (∀ o, w1.frozen? ⟨w.heap.size + 1 + 1, o, none⟩ = false) := ⟨fun o => below_frozen b1 (by omega) (fW.1 o), fun o => below_frozen b1 (by omega) (fW.2 o)⟩
  obtain ⟨f11, f12⟩ := f1
  have b01 := below_step (bW) (b1.mono (by omega))
  clear cW dW eW fW b1 bW
  go_wp2_with fail
  have b02 : Below w.heap.size w (w1.setCell ⟨w.heap.size + 1 + 1, 1, none⟩ (.slice a1 ps.length c1)) := b01.setCell (by simp <;> omega) _
  refine (to_gones _ _ L hm (H.out.limbo.below b02)).mono ?_
  rintro e w2 ⟨v2, rfl, r2, b2⟩
  have z2 := b2.size
  simp at z2
  have R2 := hidIt r2
  obtain ⟨a2, c2', rfl, -⟩ := r2.form
  clear r2
  have g0 : w2.cell? ⟨w.heap.size + 1, 0, none⟩ = some (.int .i64 0) := below_cell b2 (by simp; omega) (by simp [go_sem, d0])
  have g1 : w2.cell? ⟨w.heap.size + 1, 1, none⟩ = some (.slice none 0 0) := below_cell b2 (by simp; omega) (by simp [go_sem, d1])
  have g2 : w2.cell? ⟨w.heap.size + 1, 2, none⟩ = some (.slice none 0 0) := below_cell b2 (by simp; omega) (by simp [go_sem, d2])
  have h0 : w2.cell? ⟨w.heap.size + 1 + 1, 0, none⟩ = some (.int .i64 a) := below_cell b2 (by simp; omega) (by simp [go_sem, e0])
  have h1 : w2.cell? ⟨w.heap.size + 1 + 1, 1, none⟩ = some (.slice a1 ps.length c1) := below_cell b2 (by simp; omega) (by simp [go_sem, e1])
  have h2 : w2.cell? ⟨w.heap.size + 1 + 1, 2, none⟩ = some (.slice none 0 0) := below_cell b2 (by simp; omega) (by simp [go_sem, e2])
  have k1 : ∀ o, w2.frozen? ⟨w.heap.size + 1, o, none⟩ = false := fun o => below_frozen b2 (by simp; omega) (by simp [go_sem, f11])
  have k2 : ∀ o, w2.frozen? ⟨w.heap.size + 1 + 1, o, none⟩ = false := fun o => below_frozen b2 (by simp; omega) (by simp [go_sem, f12])
  have Q1 := hidIt ((R1.out.set_below ⟨w.heap.size + 1 + 1, 1, none⟩ (.slice a1 ps.length c1) (by show w.heap.size + 1 + 1 < W0.heap.size; omega)).below (b2.mono (by simp)))
  have B2 := hidIt (b02.trans (b2.mono (by simp; omega)))
  clear b2 d0 d1 d2 e0 e1 e2 f11 f12 b01 b02 c2 R1
  go_wp2
  refine bodyPost_ret (v := .agg #[.int .i64 a, .slice a1 ps.length c1, .slice a2 L.length c2']) (by simp [results, Try.results17, go_sem, g0, g1, g2]) rfl ⟨_, _, rfl, ?_, ?_⟩
  · have hz : w1.heap.size ≤ w2.heap.size := z2
    have A1 : Row w2 w.heap.size w2.heap.size (.slice a1 ps.length c1) (ints ps) := Q1.out.wide (by omega) (by omega)
    have A2 : Rw w2 w.heap.size w2.heap.size (.slice a2 L.length c2') L.length (gones L) := R2.out.wide (by simp; omega) (Nat.le_refl _)
    have ap := apart_of Q1.out R2.out (.inl (by simp))
    refine ⟨?_, ?_, ap⟩
    · refine (((((Q1.out.wide (lo' := w.heap.size + 3) (hi' := w2.heap.size) (by omega) (by omega)).set_below _ _ (by simp)).set_below _ _ (by simp)).set_below _ _ (by simp)).set_below _ _ (by simp)).wide (by omega) (by simp)
    · refine (((((R2.out.wide (lo' := w.heap.size + 3) (hi' := w2.heap.size) (by simp; omega) (by omega)).set_below _ _ (by simp)).set_below _ _ (by simp)).set_below _ _ (by simp)).set_below _ _ (by simp)).wide (by omega) (by simp)
  · exact (((B2.out.setCell (by simp <;> omega) _).setCell (by simp <;> omega) _).setCell (by simp <;> omega) _).setCell (by simp <;> omega) _

theorem Rw.grown {w w' : World} {lo hi : Nat} {v : Value} {n : Nat} {xs : List Value} {q : Option Nat} (r : Rw w lo hi v n xs) (hz : hi ≤ w.heap.size) (hg : w.grownBy w' q) (hne : xs ≠ [] → ∀ k, q = some k → v.ownBlock ≠ some k) : Rw w' lo hi v n xs := by
  obtain ⟨a, cap, rfl, hcp, h⟩ := r
  refine ⟨a, cap, rfl, hcp, ?_⟩
  by_cases hx : xs = []
  · exact .inl hx
  · rcases h with h | ⟨g, rfl, h1, h2, h3, h4⟩
    · exact .inl h
    · have hq : w'.heap[g]? = w.heap[g]? := hg.block g (by omega) (fun e => hne hx g e.symm rfl)
      exact .inr ⟨g, rfl, h1, h2, fun j hj => (World.cell?_of_block (a := ⟨g, j, none⟩) hq).trans (h3 j hj), fun j => (World.frozen?_of_block (a := ⟨g, j, none⟩) hq).trans (h4 j)⟩
theorem Row.grown {w w' : World} {lo hi : Nat} {v : Value} {xs : List Value} {q : Option Nat} (r : Row w lo hi v xs) (hz : hi ≤ w.heap.size) (hg : w.grownBy w' q) (hne : xs ≠ [] → ∀ k, q = some k → v.ownBlock ≠ some k) : Row w' lo hi v xs := by
  obtain ⟨a, cap, rfl, h⟩ := r
  refine ⟨a, cap, rfl, ?_⟩
  by_cases hx : xs = []
  · exact .inl hx
  · rcases h with h | ⟨g, rfl, h1, h2, h3, h4⟩
    · exact .inl h
    · have hq : w'.heap[g]? = w.heap[g]? := hg.block g (by omega) (fun e => hne hx g e.symm rfl)
      exact .inr ⟨g, rfl, h1, h2, fun j hj => (World.cell?_of_block (a := ⟨g, j, none⟩) hq).trans (h3 j hj), fun j => (World.frozen?_of_block (a := ⟨g, j, none⟩) hq).trans (h4 j)⟩
theorem mark_int_fine (w : World) (lo hi : Nat) (v : Value) (ps : List Int) (k0 : Nat) (hn : ps.length ≤ 4194304) (h2 : k0 ≤ 4194304) (hh : hi ≤ w.heap.size) (r : Row w lo hi v (ints ps)) :
    Calls Try.prog 26 #[v, .int .i64 k0] w fun e w' => e = .returned (.int .i64 ((k0 + ps.length : Nat) : Int)) ∧ Row w' lo hi v (imarks k0 ps.length) ∧ ∃ g, w.grownBy w' g ∧ ∀ k, g = some k → 0 < ps.length ∧ v.ownBlock = some k ∧ lo ≤ k ∧ k < hi := by
  obtain ⟨a, c, rfl, q1⟩ := r
  rw [ints_len]
  by_cases h0 : ps.length = 0
  · rw [h0]
    refine (mark_int_zero a c k0 w).mono ?_
    rintro e w' ⟨rfl, rfl⟩
    exact ⟨rfl, ⟨a, c, rfl, .inl rfl⟩, none, World.grownBy.refl _ _, fun k h => by cases h⟩
  · rcases q1 with q1 | ⟨g, rfl, g1, g2, q1, q2⟩
    · exact absurd (by simpa using congrArg List.length q1) h0
    · refine (mark_int_some g c ps.length k0 w hn h2 (by omega) (fun j hj => ⟨ps[j], by have := q1 j (by simpa using hj); rw [List.getElem_map] at this; exact this⟩) q2).mono ?_
      rintro e w' ⟨rfl, m1, m2, m3⟩
      exact ⟨rfl, ⟨_, c, by rw [imarks_len], .inr ⟨g, rfl, g1, g2, fun j hj => by
        rw [imarks_len] at hj
        rw [m1 j hj, imarks_at _ _ _ hj], m2⟩⟩, some g, m3, fun k h => by cases h; exact ⟨by omega, rfl, g1, g2⟩⟩
theorem out_fine {w w' : World} {lo hi : Nat} {g : Option Nat} {n : Nat} {v : Value} (hg : w.grownBy w' g) (h : ∀ k, g = some k → 0 < n ∧ v.ownBlock = some k ∧ lo ≤ k ∧ k < hi) : Out lo hi w w' := by
  refine ⟨hg.os, hg.tape, hg.output, hg.size, fun k hk hn => hg.block k hk (fun e => ?_)⟩
  have := h k e.symm
  omega
theorem ne_nil_pos {L : List (Int × Int)} (h : gones L ≠ []) : 0 < L.length := by
  rcases Nat.eq_zero_or_pos L.length with h0 | h0
  · exact absurd (by rw [List.length_eq_zero_iff.1 h0]; rfl) h
  · exact h0
theorem imarks_pos {k0 n : Nat} (h : imarks k0 n ≠ []) : 0 < n := by
  rcases Nat.eq_zero_or_pos n with h0 | h0
  · exact absurd (by rw [h0]; rfl) h
  · exact h0

theorem mark_ages (w : World) (lo hi : Nat) (a : Int) (p l : Value) (ps : List Int) (L : List (Int × Int)) (k0 : Nat) (hn : ps.length ≤ 4194304) (hm : L.length ≤ 4194304) (h2 : k0 ≤ 4194304) (hh : hi ≤ w.heap.size) (r : AR lo hi p l ps L w) :
    Calls Try.prog 27 #[.agg #[.int .i64 a, p, l], .int .i64 k0] w fun e w' => e = .returned (.int .i64 ((k0 + ps.length + L.length * 2 : Nat) : Int)) ∧ AM lo hi p l k0 ps.length L.length w' ∧ Out lo hi w w' := by
  have R := hidIt r
  obtain ⟨pa, pc, la, lc, rfl, rfl, -⟩ := r.form
  clear r
  go_enter Try.func27, Try.ntmps27
  go_wp2_with fail
  refine (mark_int_fine _ lo hi _ ps k0 hn h2 (by simp; omega) (R.out.pins.alloc hh _)).mono ?_
  rintro e w1 ⟨rfl, r1, g, hg, hd⟩
  have z1 := hg.size
  simp at z1
  have o1 := hidIt (out_fine hg hd)
  have c2 : w1.cell? ⟨w.heap.size, 2, none⟩ = some (.slice la L.length lc) := o1.out.cell (by simp) (.inr hh) (by simp [go_sem])
  have r2 := hidIt ((R.out.limbo.alloc hh _).grown (by simp; omega) hg (fun hx k e e2 => R.out.apart (hd k e).1 (ne_nil_pos hx) ((hd k e).2.1.trans e2.symm)))
  have R1 := hidIt r1
  clear hg hd r1
  go_wp2_with fail
  refine (mark_gones _ lo hi _ L (k0 + ps.length) hm (by omega) (by omega) r2.out).mono ?_
  rintro e w2 ⟨rfl, r3, g2, hg2, hd2⟩
  have o2 := hidIt (out_fine hg2 hd2)
  have r4 := hidIt (R1.out.grown (by omega) hg2 (fun hx k e e2 => R.out.apart (imarks_pos hx) (hd2 k e).1 (e2.trans (hd2 k e).2.1.symm)))
  have R3 := hidIt r3
  clear hg2 hd2 r3
  go_wp2
  go_ret
  exact ⟨rfl, ⟨r4.out, R3.out⟩, ((Out.of_below ((Below.refl _ _).alloc (Nat.le_refl _) _)).trans o1.out).trans o2.out⟩

theorem held_ages (w : World) (lo hi : Nat) (a : Int) (p l : Value) (n m k0 : Nat) (hn : n ≤ 4194304) (hm : m ≤ 4194304) (h2 : k0 ≤ 4194304) (hh : hi ≤ w.heap.size) (r : AM lo hi p l k0 n m w) :
    Calls Try.prog 29 #[.agg #[.int .i64 a, p, l], .int .i64 k0] w fun e w' => e = .returned (.int .i64 ((k0 + n + m * 2 : Nat) : Int)) ∧ Below w.heap.size w w' := by
  have R := hidIt r
  obtain ⟨pa, pc, rfl⟩ := r.pins.mform
  obtain ⟨la, lc, rfl, -⟩ := r.limbo.form
  clear r
  go_enter Try.func29, Try.ntmps29
  go_wp2_with fail
  refine (held_int _ lo hi _ n k0 hn h2 (R.out.pins.alloc hh _)).mono ?_
  rintro e w1 ⟨rfl, rfl⟩
  go_wp2_with fail
  refine (held_gones _ lo hi _ m (k0 + n) hm (by omega) (R.out.limbo.alloc hh _)).mono ?_
  rintro e w1 ⟨rfl, rfl⟩
  go_wp2
  go_ret
  exact ⟨rfl, (Below.refl _ _).alloc (Nat.le_refl _) _⟩

theorem eq_ages (w : World) (l1 h1 l2 h2 : Nat) (a : Int) (p1 q1 p2 q2 : Value) (ps : List Int) (L : List (Int × Int)) (hn : ps.length ≤ 4194304) (hm : L.length ≤ 4194304) (e1 : h1 ≤ w.heap.size) (e2 : h2 ≤ w.heap.size) (r1 : AR l1 h1 p1 q1 ps L w) (r2 : AR l2 h2 p2 q2 ps L w) :
    Calls Try.prog 25 #[.agg #[.int .i64 a, p1, q1], .agg #[.int .i64 a, p2, q2]] w fun e w' => e = .returned (.bool true) ∧ Below w.heap.size w w' := by
  have R1 := hidIt r1
  have R2 := hidIt r2
  obtain ⟨pa, pc, la, lc, rfl, rfl, -⟩ := r1.form
  obtain ⟨pb, pd, lb, ld, rfl, rfl, -⟩ := r2.form
  clear r1 r2
  go_enter Try.func25, Try.ntmps25
  go_wp2_with fail
  generalize hW : World.alloc (World.alloc w _) _ = W0
  have bW : Below w.heap.size w W0 := by
    rw [← hW]
    exact ((Below.refl w.heap.size w).alloc (Nat.le_refl _) _).alloc (by simp) _
  have zW : W0.heap.size = w.heap.size + 2 := by rw [← hW]; simp
  have cW : W0.cell? ⟨w.heap.size, 2, none⟩ = some (.slice la L.length lc) ∧ W0.cell? ⟨w.heap.size + 1, 2, none⟩ = some (.slice lb L.length ld) := by rw [← hW]; simp [go_sem]
  clear hW
  refine (eq_int _ l1 h1 l2 h2 _ _ ps hn (R1.out.pins.below (bW.mono e1)) (R2.out.pins.below (bW.mono e2))).mono ?_
  rintro e w1 ⟨rfl, n1, rfl⟩
  have B1 := hidIt (below_drewN bW n1)
  have zz : (W0.drewN n1).heap.size = W0.heap.size := by simp
  have c1 : (W0.drewN n1).cell? ⟨w.heap.size, 2, none⟩ = some (.slice la L.length lc) := by simp [cW.1]
  have c2 : (W0.drewN n1).cell? ⟨w.heap.size + 1, 2, none⟩ = some (.slice lb L.length ld) := by simp [cW.2]
  generalize W0.drewN n1 = w1 at *
  clear bW cW
  go_wp2_with fail
  refine (eq_gones _ l1 h1 l2 h2 _ _ L hm (by omega) (by omega) (R1.out.limbo.below (B1.out.mono e1)) (R2.out.limbo.below (B1.out.mono e2))).mono ?_
  rintro e w2 ⟨rfl, b2⟩
  go_wp2
  go_ret
  exact ⟨rfl, B1.out.trans (b2.mono (by omega))⟩

end Go.Proofs.Ytikliofkplbdpaa

namespace Go.Proofs.Ytikliofkplbdpaa
open Go.ChangeShapes Go.WideShapes Go.ChangeAt Go.RowKit
set_option linter.unusedVariables false

def nodeB (L : List (Int × Int)) (x : Int) : Bool := L.any (fun p => decide (p.1 = x))
def placeN (x : Int) : List (Int × Int) → Nat
  | [] => 0
  | p :: L => if p.1 = x then 0 else placeN x L + 1
def goneAt (L : List (Int × Int)) (k : Nat) : Int × Int := L.getD k (0, 0)
theorem goneAt_eq (L : List (Int × Int)) (k : Nat) (h : k < L.length) : L[k] = goneAt L k := by simp [goneAt, h]
theorem nodeB_take_succ (L : List (Int × Int)) (k : Nat) (x : Int) (h : k < L.length) : nodeB (L.take (k + 1)) x = (nodeB (L.take k) x || decide ((goneAt L k).1 = x)) := by
  rw [← goneAt_eq L k h, List.take_succ_eq_append_getElem h]
  simp only [nodeB, List.any_append, List.any_cons, List.any_nil, Bool.or_false]
theorem nodeB_hit (L : List (Int × Int)) (k : Nat) (x : Int) (h : k < L.length) (e : (goneAt L k).1 = x) : nodeB L x = true := by
  rw [nodeB, List.any_eq_true]
  exact ⟨L[k], List.getElem_mem h, by simp [goneAt_eq L k h, e]⟩
theorem nodeB_false (L : List (Int × Int)) (x : Int) (h : ∀ j, j < L.length → (goneAt L j).1 ≠ x) : nodeB L x = false := by
  rw [nodeB, List.any_eq_false]
  intro p hp
  obtain ⟨j, hj, rfl⟩ := List.mem_iff_getElem.1 hp
  have := h j hj
  rw [← goneAt_eq L j hj] at this
  simpa using this
theorem placeN_eq (L : List (Int × Int)) (k : Nat) (x : Int) (h : k < L.length) (e : (goneAt L k).1 = x) (hf : ∀ j, j < k → (goneAt L j).1 ≠ x) : placeN x L = k := by
  induction L generalizing k with
  | nil => simp at h
  | cons p L ih =>
    cases k with
    | zero =>
      have : p.1 = x := by simpa [goneAt] using e
      simp [placeN, this]
    | succ k =>
      have h0 : p.1 ≠ x := by simpa [goneAt] using hf 0 (by omega)
      rw [placeN, if_neg h0, ih k (by simpa using h) (by simpa [goneAt] using e) (fun j hj => by simpa [goneAt] using hf (j + 1) (by omega))]
def placeI (L : List (Int × Int)) (x : Int) : Int := if nodeB L x = true then (placeN x L : Int) else 0
theorem placeI_hit (L : List (Int × Int)) (k : Nat) (x : Int) (h : k < L.length) (e : (goneAt L k).1 = x) (hf : ∀ j, j < k → (goneAt L j).1 ≠ x) : placeI L x = k := by
  rw [placeI, if_pos (nodeB_hit L k x h e), placeN_eq L k x h e hf]
theorem placeI_miss (L : List (Int × Int)) (x : Int) (h : ∀ j, j < L.length → (goneAt L j).1 ≠ x) : placeI L x = 0 := by
  rw [placeI, if_neg (by simp [nodeB_false L x h])]
theorem nodeB_place (L : List (Int × Int)) (x : Int) (h : nodeB L x = true) : placeN x L < L.length ∧ (goneAt L (placeN x L)).1 = x := by
  induction L with
  | nil => simp [nodeB] at h
  | cons p L ih =>
    by_cases e : p.1 = x
    · simp [placeN, e, goneAt]
    · have h' : nodeB L x = true := by simpa [nodeB, e] using h
      have := ih h'
      rw [placeN, if_neg e]
      refine ⟨by simp; omega, by simpa [goneAt] using this.2⟩
def lastAt (L : List (Int × Int)) : Nat → Int
  | 0 => 0
  | k + 1 => (goneAt L k).2
def stepB (a : Int) (L : List (Int × Int)) (k : Nat) : Bool := decide (lastAt L k ≤ (goneAt L k).2) && decide ((goneAt L k).2 ≤ a) && !nodeB (L.take k) (goneAt L k).1
def limB (a : Int) (L : List (Int × Int)) : Nat → Bool
  | 0 => true
  | k + 1 => limB a L k && stepB a L k
theorem limB_last (a : Int) (L : List (Int × Int)) (k : Nat) (h : limB a L k = true) : 0 ≤ lastAt L k := by
  induction k with
  | zero => simp [lastAt]
  | succ k ih =>
    simp only [limB, Bool.and_eq_true] at h
    have h1 := ih h.1
    simp only [stepB, Bool.and_eq_true, decide_eq_true_eq] at h
    simp only [lastAt]
    omega
theorem limB_stop (a : Int) (L : List (Int × Int)) (k m : Nat) (h : stepB a L k = false) (hm : k < m) : limB a L m = false := by
  induction m with
  | zero => omega
  | succ m ih =>
    by_cases e : k = m
    · subst e; simp [limB, h]
    · simp [limB, ih (by omega)]
def pinB (a p : Int) : Bool := decide (p = -1) || decide (p = a) || decide (p = a - 1)
def okB (a : Int) (ps : List Int) (L : List (Int × Int)) : Bool :=
  decide (0 ≤ a ∧ a ≤ 4294967295) && decide (1 ≤ ps.length ∧ ps.length ≤ 8) && ps.all (pinB a) && (decide (L.length ≤ 100) && limB a L L.length)
theorem okB_len {a : Int} {ps : List Int} {L : List (Int × Int)} (h : okB a ps L = true) : 0 ≤ a ∧ a ≤ 4294967295 ∧ 1 ≤ ps.length ∧ ps.length ≤ 8 ∧ L.length ≤ 100 ∧ (∀ p ∈ ps, p = -1 ∨ p = a ∨ p = a - 1) ∧ limB a L L.length = true := by
  simp only [okB, Bool.and_eq_true, decide_eq_true_eq, List.all_eq_true] at h
  obtain ⟨⟨⟨h1, h2⟩, h3⟩, h4, h5⟩ := h
  refine ⟨h1.1, h1.2, h2.1, h2.2, h4, fun p hp => ?_, h5⟩
  have := h3 p hp
  simp [pinB] at this
  omega

end Go.Proofs.Ytikliofkplbdpaa

namespace Go.Proofs.Ytikliofkplbdpaa
open Go.ChangeShapes Go.WideShapes Go.ChangeAt Go.RowKit
set_option linter.unusedVariables false

theorem PIn.at {w : World} {b off : Nat} {L : List (Int × Int)} (h2 : ∀ j (hj : j < L.length), w.cell? ⟨b, off + j * 2, none⟩ = some (.int .i64 L[j].1) ∧ w.cell? ⟨b, off + j * 2 + 1, none⟩ = some (.int .i64 L[j].2)) (k : Nat) (hk : k < L.length) : w.cell? ⟨b, off + k * 2, none⟩ = some (.int .i64 (goneAt L k).1) ∧ w.cell? ⟨b, off + k * 2 + 1, none⟩ = some (.int .i64 (goneAt L k).2) := by
  have := h2 k hk
  rwa [goneAt_eq L k hk] at this
theorem PIn.take {w : World} {a : Option Addr} {cap : Nat} {L : List (Int × Int)} (h : PIn w (.slice a L.length cap) L) (k : Nat) (hk : k ≤ L.length) : PIn w (.slice a k cap) (L.take k) := by
  obtain ⟨a', cap', hv, hc, h⟩ := h
  simp at hv
  obtain ⟨rfl, rfl⟩ := hv
  have e : (L.take k).length = k := by simp; omega
  refine ⟨a, cap, by rw [e], by omega, ?_⟩
  rcases h with rfl | ⟨b, off, ha, h1, h2⟩
  · left; simp
  · refine .inr ⟨b, off, ha, h1, fun j hj => ?_⟩
    rw [e] at hj
    have := h2 j (by omega)
    simpa using this

set_option maxHeartbeats 800000 in
set_option maxRecDepth 100000 in
theorem impl_place_some (b off c : Nat) (L : List (Int × Int)) (x : Int) (w : World) (hn : L.length ≤ 4194304) (hb : b < w.heap.size)
    (h2 : ∀ j (hj : j < L.length), w.cell? ⟨b, off + j * 2, none⟩ = some (.int .i64 L[j].1) ∧ w.cell? ⟨b, off + j * 2 + 1, none⟩ = some (.int .i64 L[j].2)) :
    Calls Try.prog 51 #[.slice (some ⟨b, off, none⟩) L.length c, .int .i64 x] w fun e w' => e = .returned (.tuple #[.int .i64 (placeI L x), .bool (nodeB L x)]) ∧ Below w.heap.size w w' := by
  have HA := hidIt (PIn.at h2)
  clear h2
  go_enter Try.func51, Try.ntmps51
  go_wp2
  go_loopw [10] (fun i wr => ∃ k : Nat, k ≤ L.length ∧ i = .int .i64 k ∧ Below w.heap.size w wr ∧ Hid (∀ j, j < k → (goneAt L j).1 ≠ x)) (fun i _ => L.length - (intOf i).toNat)
  case atStart => exact ⟨0, Nat.zero_le _, rfl, Below.refl _ _, fun j hj => by omega⟩
  case round =>
    rename World => wr
    obtain ⟨k, hk, rfl, hbw, HF⟩ := hrel
    by_cases hlt : k < L.length
    · have c1 := below_cell hbw hb (HA.out k hlt).1
      have c2 := below_cell hbw hb (HA.out k hlt).2
      have hlt' : (k : Int) < (L.length : Int) := by omega
      have HY := hidIt (And.intro (placeI_hit L k x hlt) (nodeB_hit L k x hlt))
      have HX := hidIt (HF.out)
      by_cases hx : (goneAt L k).1 = x
      · have HE := hidIt (And.intro (HY.out.1 hx HX.out) (HY.out.2 hx))
        have hz := hbw.size
        rw [hx] at c1
        generalize (goneAt L k).2 = y at c2
        clear hx
        go_wp2
        refine bodyPost_ret (v := .tuple #[.int .i64 k, .bool true]) (by simp [results, Try.results51, go_sem]) rfl ⟨by rw [HE.out.1, HE.out.2], hbw.alloc hz _⟩
      · have hz := hbw.size
        have HE := hidIt hx
        generalize (goneAt L k).2 = y at c2
        generalize hq : (goneAt L k).1 = q at c1 hx
        have HQ := hidIt hq
        clear hq
        have hx2 : (q == x) = false := by simpa using hx
        clear hx
        go_wp2
        go_roundw
        case rel =>
          refine ⟨k + 1, by omega, by go_num, hbw.alloc hz _, fun j hj => ?_⟩
          by_cases e : j = k
          · subst e; exact HE.out
          · exact HX.out j (by omega)
        case measure => simp [intOf]; omega
    · have HE := hidIt (And.intro (placeI_miss L x (fun j hj => HF.out j (by omega))) (nodeB_false L x (fun j hj => HF.out j (by omega))))
      go_wp2
      refine bodyPost_ret (v := .tuple #[.int .i64 0, .bool false]) (by simp [results, Try.results51, go_sem]) rfl ⟨by rw [HE.out.1, HE.out.2], hbw⟩
theorem impl_place_zero (a : Option Addr) (c : Nat) (x : Int) (w : World) :
    Calls Try.prog 51 #[.slice a 0 c, .int .i64 x] w fun e w' => e = .returned (.tuple #[.int .i64 (placeI [] x), .bool (nodeB [] x)]) ∧ Below w.heap.size w w' := by
  go_enter Try.func51, Try.ntmps51
  go_wp2
  go_loop [10] (fun i => i = .int .i64 0) (fun _ => 0)
  case atStart => rfl
  case round =>
    subst hrel
    go_wp2
    refine bodyPost_ret (v := .tuple #[.int .i64 0, .bool false]) (by simp [results, Try.results51, go_sem]) rfl ⟨rfl, Below.refl _ _⟩
theorem impl_place (w : World) (v : Value) (L : List (Int × Int)) (x : Int) (hn : L.length ≤ 4194304) (h : PIn w v L) :
    Calls Try.prog 51 #[v, .int .i64 x] w fun e w' => e = .returned (.tuple #[.int .i64 (placeI L x), .bool (nodeB L x)]) ∧ Below w.heap.size w w' := by
  obtain ⟨a, cap, rfl, -, h⟩ := h
  rcases h with rfl | ⟨b, off, rfl, h1, h2⟩
  · exact impl_place_zero a cap x w
  · exact impl_place_some b off cap L x w hn h1 h2

set_option maxHeartbeats 800000 in
set_option maxRecDepth 100000 in
theorem spec_node_some (b off c : Nat) (L : List (Int × Int)) (x : Int) (w : World) (hn : L.length ≤ 4194304) (hb : b < w.heap.size)
    (h2 : ∀ j (hj : j < L.length), w.cell? ⟨b, off + j * 2, none⟩ = some (.int .i64 L[j].1) ∧ w.cell? ⟨b, off + j * 2 + 1, none⟩ = some (.int .i64 L[j].2)) :
    Calls Try.prog 43 #[.slice (some ⟨b, off, none⟩) L.length c, .int .i64 x] w fun e w' => e = .returned (.bool (nodeB L x)) ∧ Below w.heap.size w w' := by
  have HA := hidIt (PIn.at h2)
  clear h2
  go_enter Try.func43, Try.ntmps43
  go_wp2
  go_loopw [9] (fun i wr => ∃ k : Nat, k ≤ L.length ∧ i = .int .i64 k ∧ Below w.heap.size w wr ∧ Hid (∀ j, j < k → (goneAt L j).1 ≠ x)) (fun i _ => L.length - (intOf i).toNat)
  case atStart => exact ⟨0, Nat.zero_le _, rfl, Below.refl _ _, fun j hj => by omega⟩
  case round =>
    rename World => wr
    obtain ⟨k, hk, rfl, hbw, HF⟩ := hrel
    by_cases hlt : k < L.length
    · have c1 := below_cell hbw hb (HA.out k hlt).1
      have c2 := below_cell hbw hb (HA.out k hlt).2
      have hlt' : (k : Int) < (L.length : Int) := by omega
      have HY := hidIt (nodeB_hit L k x hlt)
      have HX := hidIt (HF.out)
      by_cases hx : (goneAt L k).1 = x
      · have HE := hidIt (HY.out hx)
        have hz := hbw.size
        rw [hx] at c1
        generalize (goneAt L k).2 = y at c2
        clear hx
        go_wp2
        go_ret
        exact ⟨ret_boolx (by rw [HE.out]), hbw.alloc hz _⟩
      · have hz := hbw.size
        have HE := hidIt hx
        generalize (goneAt L k).2 = y at c2
        generalize hq : (goneAt L k).1 = q at c1 hx
        have HQ := hidIt hq
        clear hq
        have hx2 : (q == x) = false := by simpa using hx
        clear hx
        go_wp2
        go_roundw
        case rel =>
          refine ⟨k + 1, by omega, by go_num, hbw.alloc hz _, fun j hj => ?_⟩
          by_cases e : j = k
          · subst e; exact HE.out
          · exact HX.out j (by omega)
        case measure => simp [intOf]; omega
    · have HE := hidIt (nodeB_false L x (fun j hj => HF.out j (by omega)))
      go_wp2
      go_ret
      exact ⟨ret_boolx (by rw [HE.out]), hbw⟩
theorem spec_node_zero (a : Option Addr) (c : Nat) (x : Int) (w : World) :
    Calls Try.prog 43 #[.slice a 0 c, .int .i64 x] w fun e w' => e = .returned (.bool (nodeB [] x)) ∧ Below w.heap.size w w' := by
  go_enter Try.func43, Try.ntmps43
  go_wp2
  go_loop [9] (fun i => i = .int .i64 0) (fun _ => 0)
  case atStart => rfl
  case round =>
    subst hrel
    go_wp2
    go_ret
    exact ⟨rfl, Below.refl _ _⟩
theorem spec_node (w : World) (v : Value) (L : List (Int × Int)) (x : Int) (hn : L.length ≤ 4194304) (h : PIn w v L) :
    Calls Try.prog 43 #[v, .int .i64 x] w fun e w' => e = .returned (.bool (nodeB L x)) ∧ Below w.heap.size w w' := by
  obtain ⟨a, cap, rfl, -, h⟩ := h
  rcases h with rfl | ⟨b, off, rfl, h1, h2⟩
  · exact spec_node_zero a cap x w
  · exact spec_node_some b off cap L x w hn h1 h2
theorem spec_node_none (a : Option Addr) (c : Nat) (x : Int) (w : World) :
    Calls Try.prog 43 #[.slice a 0 c, .int .i64 x] w fun e w' => e = .returned (.bool false) ∧ w' = w := by
  go_enter Try.func43, Try.ntmps43
  go_wp2
  go_loop [9] (fun i => i = .int .i64 0) (fun _ => 0)
  case atStart => rfl
  case round =>
    subst hrel
    go_wp2
    go_ret
    exact ⟨rfl, rfl⟩

end Go.Proofs.Ytikliofkplbdpaa

namespace Go.Proofs.Ytikliofkplbdpaa
open Go.ChangeShapes Go.WideShapes Go.ChangeAt Go.RowKit
set_option linter.unusedVariables false

theorem impl_isnum (n : Int) (w : World) :
    Calls Try.prog 45 #[.int .i64 n] w fun e w' => e = .returned (.bool (decide (0 ≤ n ∧ n ≤ 4294967295))) ∧ w' = w := by
  by_cases h0 : 0 ≤ n
  · by_cases h1 : n ≤ 4294967295
    · have e : decide (0 ≤ n ∧ n ≤ 4294967295) = true := decide_eq_true ⟨h0, h1⟩
      rw [e]
      go_enter Try.func45, Try.ntmps45
      go_wp2
      go_ret
      exact ⟨rfl, rfl⟩
    · have e : decide (0 ≤ n ∧ n ≤ 4294967295) = false := decide_eq_false (by omega)
      rw [e]
      go_enter Try.func45, Try.ntmps45
      go_wp2
      go_ret
      exact ⟨rfl, rfl⟩
  · have e : decide (0 ≤ n ∧ n ≤ 4294967295) = false := decide_eq_false (by omega)
    rw [e]
    go_enter Try.func45, Try.ntmps45
    go_wp2
    go_ret
    exact ⟨rfl, rfl⟩
theorem spec_isnum (n : Int) (w : World) :
    Calls Try.prog 42 #[.int .i64 n] w fun e w' => e = .returned (.bool (decide (0 ≤ n ∧ n ≤ 4294967295))) ∧ w' = w := by
  by_cases h0 : 0 ≤ n
  · by_cases h1 : n ≤ 4294967295
    · have e : decide (0 ≤ n ∧ n ≤ 4294967295) = true := decide_eq_true ⟨h0, h1⟩
      rw [e]
      go_enter Try.func42, Try.ntmps42
      go_wp2
      go_ret
      exact ⟨rfl, rfl⟩
    · have e : decide (0 ≤ n ∧ n ≤ 4294967295) = false := decide_eq_false (by omega)
      rw [e]
      go_enter Try.func42, Try.ntmps42
      go_wp2
      go_ret
      exact ⟨rfl, rfl⟩
  · have e : decide (0 ≤ n ∧ n ≤ 4294967295) = false := decide_eq_false (by omega)
    rw [e]
    go_enter Try.func42, Try.ntmps42
    go_wp2
    go_ret
    exact ⟨rfl, rfl⟩

theorem all_stop {ps : List Int} {k : Nat} {f : Int → Bool} (hk : k < ps.length) (h : f ps[k] = false) : ps.all f = false := by
  rw [List.all_eq_false]
  exact ⟨ps[k], List.getElem_mem hk, by simp [h]⟩
theorem all_full {ps : List Int} {f : Int → Bool} (h : ∀ j (hj : j < ps.length), f ps[j] = true) : ps.all f = true := by
  rw [List.all_eq_true]
  intro x hx
  obtain ⟨j, hj, rfl⟩ := List.mem_iff_getElem.1 hx
  exact h j hj

set_option maxHeartbeats 800000 in
set_option maxRecDepth 100000 in
theorem impl_arepins_some (b off c : Nat) (ps : List Int) (a : Int) (w : World) (h1 : 1 ≤ ps.length) (h8 : ps.length ≤ 8) (a0 : 0 ≤ a) (a1 : a ≤ 4294967295)
    (h2 : ∀ j (hj : j < ps.length), w.cell? ⟨b, off + j, none⟩ = some (.int .i64 ps[j])) :
    Calls Try.prog 46 #[.slice (some ⟨b, off, none⟩) ps.length c, .int .i64 a] w fun e w' => e = .returned (.bool (ps.all (pinB a))) ∧ w' = w := by
  have HA := hidIt h2
  clear h2
  have g1 : ¬ ((ps.length : Int) < 1) := by omega
  have g2 : ¬ ((8 : Int) < (ps.length : Int)) := by omega
  go_enter Try.func46, Try.ntmps46
  go_wp2
  go_loop [17] (fun i => ∃ k : Nat, k ≤ ps.length ∧ i = .int .i64 k ∧ Hid (∀ j (hj : j < ps.length), j < k → pinB a ps[j] = true)) (fun i => ps.length - (intOf i).toNat)
  case atStart => exact ⟨0, Nat.zero_le _, rfl, fun j _ hj => by omega⟩
  case round =>
    obtain ⟨k, hk, rfl, HF⟩ := hrel
    by_cases hlt : k < ps.length
    · have c1 := HA.out k hlt
      have hlt' : (k : Int) < (ps.length : Int) := by omega
      have HS := hidIt (fun (h : pinB a ps[k] = false) => all_stop hlt h)
      have HG : Hid (pinB a ps[k] = true → ∀ j (hj : j < ps.length), j < k + 1 → pinB a ps[j] = true) := fun h j hj hjk => by
        by_cases e : j = k
        · subst e; exact h
        · exact HF.out j hj (by omega)
      generalize ps[k] = p at c1 HS HG
      by_cases e1 : p = -1
      · subst e1
        have hp := hidIt (HG.out (by simp [pinB]))
        clear HG HS
        go_wp2
        go_round
        case rel => exact ⟨k + 1, by omega, by go_num, hp.out⟩
        case measure => simp [intOf]; omega
      · by_cases e2 : p = a
        · subst e2
          have hp := hidIt (HG.out (by simp [pinB]))
          clear HG HS
          go_wp2
          go_round
          case rel => exact ⟨k + 1, by omega, by go_num, hp.out⟩
          case measure => simp [intOf]; omega
        · by_cases e3 : p = a - 1
          · subst e3
            have hp := hidIt (HG.out (by simp [pinB]))
            clear HG HS
            go_wp2
            go_round
            case rel => exact ⟨k + 1, by omega, by go_num, hp.out⟩
            case measure => simp [intOf]; omega
          · have hp := hidIt (HS.out (by simp [pinB, e1, e2, e3]))
            clear HG HS
            have f1 : (p != -1) = true := by simpa using e1
            have f2 : (p != a) = true := by simpa using e2
            have f3 : (p != a - 1) = true := by simpa using e3
            clear e1 e2 e3
            go_wp2
            go_ret
            exact ⟨ret_boolx (by rw [hp.out]), rfl⟩
    · have hp := hidIt (all_full (f := pinB a) (fun j hj => HF.out j hj (by omega)))
      go_wp2
      go_ret
      exact ⟨ret_boolx (by rw [hp.out]), rfl⟩

theorem impl_arepins_no (v : Option Addr) (n c : Nat) (a : Int) (w : World) (h : ¬ (1 ≤ n ∧ n ≤ 8)) :
    Calls Try.prog 46 #[.slice v n c, .int .i64 a] w fun e w' => e = .returned (.bool false) ∧ w' = w := by
  by_cases h0 : n < 1
  · obtain rfl : n = 0 := by omega
    go_enter Try.func46, Try.ntmps46
    go_wp2
    go_ret
    exact ⟨rfl, rfl⟩
  · have g1 : ¬ ((n : Int) < 1) := by omega
    have g2 : (8 : Int) < (n : Int) := by omega
    go_enter Try.func46, Try.ntmps46
    go_wp2
    go_ret
    exact ⟨rfl, rfl⟩
theorem impl_arepins (w : World) (v : Value) (ps : List Int) (a : Int) (a0 : 0 ≤ a) (a1 : a ≤ 4294967295) (h : InRow w v ps) :
    Calls Try.prog 46 #[v, .int .i64 a] w fun e w' => e = .returned (.bool (decide (1 ≤ ps.length ∧ ps.length ≤ 8) && ps.all (pinB a))) ∧ w' = w := by
  obtain ⟨s, cap, rfl, h⟩ := h
  by_cases hl : 1 ≤ ps.length ∧ ps.length ≤ 8
  · rw [decide_eq_true hl, Bool.true_and]
    rcases h with rfl | ⟨b, off, rfl, h1, h2⟩
    · simp at hl
    · exact impl_arepins_some b off cap ps a w hl.1 hl.2 a0 a1 h2
  · rw [decide_eq_false hl, Bool.false_and]
    exact impl_arepins_no s ps.length cap a w hl

end Go.Proofs.Ytikliofkplbdpaa

namespace Go.Proofs.Ytikliofkplbdpaa
open Go.ChangeShapes Go.WideShapes Go.ChangeAt Go.RowKit
set_option linter.unusedVariables false

theorem two_keep {W0 W W' : World} {b p q : Nat} {x y : Value} (h : Below W0.heap.size W0 W ∧ W.cell? ⟨b, p, none⟩ = some x ∧ W.cell? ⟨b, q, none⟩ = some y ∧ b < W.heap.size) (hb : Below W.heap.size W W') :
    Below W0.heap.size W0 W' ∧ W'.cell? ⟨b, p, none⟩ = some x ∧ W'.cell? ⟨b, q, none⟩ = some y ∧ b < W'.heap.size := by
  obtain ⟨h0, h1, h2, h3⟩ := h
  have := hb.size
  exact ⟨below_step h0 hb, below_cell hb h3 h1, below_cell hb h3 h2, by omega⟩
theorem stepB_no {a : Int} {L : List (Int × Int)} {k : Nat} {T : Bool} {x y la : Int} (hT : nodeB (L.take k) x = T) (hx : (goneAt L k).1 = x) (hy : (goneAt L k).2 = y) (hl : lastAt L k = la) (h : T = true ∨ y < la ∨ a < y) : stepB a L k = false := by
  subst hx hy hl hT
  simp only [stepB]
  rcases h with h | h | h
  · simp [h]
  · have : ¬ (lastAt L k ≤ (goneAt L k).2) := by omega
    simp [this]
  · have : ¬ ((goneAt L k).2 ≤ a) := by omega
    simp [this]
theorem stepB_yes {a : Int} {L : List (Int × Int)} {k : Nat} {T : Bool} {x y la : Int} (hT : nodeB (L.take k) x = T) (hx : (goneAt L k).1 = x) (hy : (goneAt L k).2 = y) (hl : lastAt L k = la) (h1 : T = false) (h2 : la ≤ y) (h3 : y ≤ a) : stepB a L k = true := by
  subst hx hy hl hT
  simp [stepB, h1, h2, h3]

set_option maxHeartbeats 1600000 in
set_option maxRecDepth 100000 in
theorem impl_islimbo_some (b off cap : Nat) (L : List (Int × Int)) (a : Int) (w : World) (hn : L.length ≤ 100) (hc : L.length ≤ cap) (hb : b < w.heap.size)
    (h2 : ∀ j (hj : j < L.length), w.cell? ⟨b, off + j * 2, none⟩ = some (.int .i64 L[j].1) ∧ w.cell? ⟨b, off + j * 2 + 1, none⟩ = some (.int .i64 L[j].2)) :
    Calls Try.prog 47 #[.slice (some ⟨b, off, none⟩) L.length cap, .int .i64 a] w fun e w' => e = .returned (.bool (limB a L L.length)) ∧ Below w.heap.size w w' := by
  have HA := hidIt (PIn.at h2)
  have HP : Hid (PIn w (.slice (some ⟨b, off, none⟩) L.length cap) L) := ⟨_, cap, rfl, hc, .inr ⟨b, off, rfl, hb, h2⟩⟩
  clear h2
  have g1 : ¬ ((100 : Int) < (L.length : Int)) := by omega
  go_enter Try.func47, Try.ntmps47
  go_wp2
  go_loopw [15, 5] (fun i la wr => ∃ k : Nat, k ≤ L.length ∧ i = .int .i64 k ∧ la = .int .i64 (lastAt L k) ∧ Below w.heap.size w wr ∧ Hid (limB a L k = true)) (fun i _ _ => L.length - (intOf i).toNat)
  case atStart => exact ⟨0, Nat.zero_le _, rfl, rfl, Below.refl _ _, rfl⟩
  case round =>
    rename World => wr
    obtain ⟨k, hk, rfl, rfl, hbw, HF⟩ := hrel
    by_cases hlt : k < L.length
    · have c1 := below_cell hbw hb (HA.out k hlt).1
      have c2 := below_cell hbw hb (HA.out k hlt).2
      have hlt' : (k : Int) < (L.length : Int) := by omega
      have hkc : k ≤ cap := by omega
      have hkc' : (k : Int) ≤ (cap : Int) := by omega
      generalize hx : (goneAt L k).1 = x at c1
      generalize hy : (goneAt L k).2 = y at c2
      generalize hl : lastAt L k = la
      have HX := hidIt (And.intro hx (And.intro hy hl))
      have hz := hbw.size
      have hS : Below w.heap.size w (wr.alloc (.cells #[.int .i64 x, .int .i64 y] 65)) ∧ (wr.alloc (.cells #[.int .i64 x, .int .i64 y] 65)).cell? ⟨wr.heap.size, 0, none⟩ = some (.int .i64 x) ∧ (wr.alloc (.cells #[.int .i64 x, .int .i64 y] 65)).cell? ⟨wr.heap.size, 1, none⟩ = some (.int .i64 y) ∧ wr.heap.size < (wr.alloc (.cells #[.int .i64 x, .int .i64 y] 65)).heap.size :=
        ⟨hbw.alloc hz _, by simp [go_sem], by simp [go_sem], by simp⟩
      clear hx hy hl hbw
      go_wp2_with fail
      clear c1 c2
      go_region_held3 (fun W => Below w.heap.size w W ∧ W.cell? ⟨wr.heap.size, 0, none⟩ = some (.int .i64 x) ∧ W.cell? ⟨wr.heap.size, 1, none⟩ = some (.int .i64 y) ∧ wr.heap.size < W.heap.size)
        (first | exact two_keep (by assumption) (Below.refl _ _).drew | exact two_keep (by assumption) (by assumption))
        (first | (go_at_call 51; refine (impl_place _ _ (L.take k) x (by simp; omega) ((HP.out.take k hk).below (And.left (by assumption)))).mono ?_; rintro e wa ⟨rfl, ba⟩))
      all_goals
        rename_i hH
        clear hS ba
        generalize hT : nodeB (L.take k) x = T
        generalize placeI (L.take k) x = pI
        have HT := hidIt hT
        clear hT
        obtain ⟨hb2, d1, d2, -⟩ := hH
        cases T with
        | true =>
          have HN := hidIt (limB_stop a L k L.length (stepB_no HT.out HX.out.1 HX.out.2.1 HX.out.2.2 (.inl rfl)) hlt)
          go_wp2
          go_ret
          exact ⟨ret_boolx (by rw [HN.out]), hb2⟩
        | false =>
          by_cases e1 : y < la
          · have HN := hidIt (limB_stop a L k L.length (stepB_no HT.out HX.out.1 HX.out.2.1 HX.out.2.2 (.inr (.inl e1))) hlt)
            go_wp2
            go_ret
            exact ⟨ret_boolx (by rw [HN.out]), hb2⟩
          · by_cases e2 : a < y
            · have HN := hidIt (limB_stop a L k L.length (stepB_no HT.out HX.out.1 HX.out.2.1 HX.out.2.2 (.inr (.inr e2))) hlt)
              go_wp2
              go_ret
              exact ⟨ret_boolx (by rw [HN.out]), hb2⟩
            · have HN := hidIt (stepB_yes (a := a) HT.out HX.out.1 HX.out.2.1 HX.out.2.2 rfl (by omega) (by omega))
              go_wp2
              go_roundw
              case rel => exact ⟨k + 1, by omega, by go_num, by simp only [lastAt]; rw [HX.out.2.1], hb2, by show limB a L (k + 1) = true; rw [limB, HF.out, HN.out]; rfl⟩
              case measure => simp [intOf]; omega
    · have HE : Hid (limB a L L.length = true) := (by have := HF.out; rwa [show k = L.length by omega] at this : limB a L L.length = true)
      go_wp2
      go_ret
      exact ⟨ret_boolx (by rw [HE.out]), hbw⟩
theorem impl_islimbo_zero (s : Option Addr) (c : Nat) (a : Int) (w : World) :
    Calls Try.prog 47 #[.slice s 0 c, .int .i64 a] w fun e w' => e = .returned (.bool true) ∧ Below w.heap.size w w' := by
  go_enter Try.func47, Try.ntmps47
  go_wp2
  go_loop [15] (fun i => i = .int .i64 0) (fun _ => 0)
  case atStart => rfl
  case round =>
    subst hrel
    go_wp2
    go_ret
    exact ⟨rfl, Below.refl _ _⟩
theorem impl_islimbo_no (s : Option Addr) (n c : Nat) (a : Int) (w : World) (h : 100 < n) :
    Calls Try.prog 47 #[.slice s n c, .int .i64 a] w fun e w' => e = .returned (.bool false) ∧ Below w.heap.size w w' := by
  have g1 : (100 : Int) < (n : Int) := by omega
  go_enter Try.func47, Try.ntmps47
  go_wp2
  go_ret
  exact ⟨rfl, Below.refl _ _⟩
theorem impl_islimbo (w : World) (v : Value) (L : List (Int × Int)) (a : Int) (h : PIn w v L) :
    Calls Try.prog 47 #[v, .int .i64 a] w fun e w' => e = .returned (.bool (decide (L.length ≤ 100) && limB a L L.length)) ∧ Below w.heap.size w w' := by
  obtain ⟨s, cap, rfl, hc, h⟩ := h
  by_cases hl : L.length ≤ 100
  · rw [decide_eq_true hl, Bool.true_and]
    rcases h with rfl | ⟨b, off, rfl, h1, h2⟩
    · exact impl_islimbo_zero s cap a w
    · exact impl_islimbo_some b off cap L a w hl hc h1 h2
  · rw [decide_eq_false hl, Bool.false_and]
    exact impl_islimbo_no s L.length cap a w (by omega)

set_option maxRecDepth 100000 in
theorem impl_agesok (w : World) (a : Int) (p l : Value) (ps : List Int) (L : List (Int × Int)) (h : AIn w p l ps L) :
    Calls Try.prog 36 #[.agg #[.int .i64 a, p, l]] w fun e w' => e = .returned (.bool (okB a ps L)) ∧ Below w.heap.size w w' := by
  have H := hidIt (h.below ((Below.refl w.heap.size w).alloc (Nat.le_refl _) (.cells #[.int .i64 a, p, l] 31)))
  obtain ⟨pa, pc, la, lc, rfl, rfl, -⟩ := h.form
  clear h
  by_cases h0 : 0 ≤ a ∧ a ≤ 4294967295
  · have e0 := decide_eq_true h0
    have HO : Hid (okB a ps L = (decide (1 ≤ ps.length ∧ ps.length ≤ 8) && ps.all (pinB a) && (decide (L.length ≤ 100) && limB a L L.length))) := (by rw [okB, e0, Bool.true_and] : okB a ps L = _)
    obtain ⟨a0, a1⟩ := h0
    generalize hP : (decide (1 ≤ ps.length ∧ ps.length ≤ 8) && ps.all (pinB a)) = P at HO
    generalize hQ : (decide (L.length ≤ 100) && limB a L L.length) = Q at HO
    have HP := hidIt hP
    have HQ := hidIt hQ
    clear hP hQ
    go_enter Try.func36, Try.ntmps36
    cases P with
    | true =>
      go_wp2_with (first | (go_at_call 45; refine (impl_isnum a _).mono ?_; rintro e w1 ⟨rfl, rfl⟩; rw [e0]) | (go_at_call 46; refine (impl_arepins _ _ ps a a0 a1 H.out.pins).mono ?_; rintro e w1 ⟨rfl, rfl⟩; rw [HP.out]) | (go_at_call 47; refine (impl_islimbo _ _ L a H.out.limbo).mono ?_; rintro e w1 ⟨rfl, b1⟩; rw [HQ.out]))
      go_ret
      exact ⟨ret_boolx (by rw [HO.out]; simp), below_step ((Below.refl w.heap.size w).alloc (Nat.le_refl _) _) b1⟩
    | false =>
      go_wp2_with (first | (go_at_call 45; refine (impl_isnum a _).mono ?_; rintro e w1 ⟨rfl, rfl⟩; rw [e0]) | (go_at_call 46; refine (impl_arepins _ _ ps a a0 a1 H.out.pins).mono ?_; rintro e w1 ⟨rfl, rfl⟩; rw [HP.out]))
      go_ret
      exact ⟨ret_boolx (by rw [HO.out]; simp), (Below.refl w.heap.size w).alloc (Nat.le_refl _) _⟩
  · have e0 := decide_eq_false h0
    have HO : Hid (okB a ps L = false) := (by rw [okB, e0]; simp : okB a ps L = false)
    clear h0
    go_enter Try.func36, Try.ntmps36
    go_wp2_with (go_at_call 45; refine (impl_isnum a _).mono ?_; rintro e w1 ⟨rfl, rfl⟩; rw [e0])
    go_ret
    exact ⟨ret_boolx (by rw [HO.out]), (Below.refl w.heap.size w).alloc (Nat.le_refl _) _⟩

end Go.Proofs.Ytikliofkplbdpaa

namespace Go.Proofs.Ytikliofkplbdpaa
open Go.ChangeShapes Go.WideShapes Go.ChangeAt Go.RowKit
set_option linter.unusedVariables false

theorem okB_no1 {a : Int} {ps : List Int} {L : List (Int × Int)} (h : ¬ (0 ≤ a ∧ a ≤ 4294967295) ∨ ps.length < 1 ∨ 8 < ps.length ∨ 100 < L.length) : okB a ps L = false := by
  rcases h with h | h | h | h
  · simp only [okB, decide_eq_false h, Bool.false_and]
  · have e : ¬ (1 ≤ ps.length ∧ ps.length ≤ 8) := by omega
    simp only [okB, decide_eq_false e, Bool.false_and, Bool.and_false]
  · have e : ¬ (1 ≤ ps.length ∧ ps.length ≤ 8) := by omega
    simp only [okB, decide_eq_false e, Bool.false_and, Bool.and_false]
  · have e : ¬ (L.length ≤ 100) := by omega
    simp only [okB, decide_eq_false e, Bool.false_and, Bool.and_false]
theorem okB_pins {a : Int} {ps : List Int} {L : List (Int × Int)} (h : ps.all (pinB a) = false) : okB a ps L = false := by
  simp only [okB, h, Bool.false_and, Bool.and_false]
theorem okB_limbo {a : Int} {ps : List Int} {L : List (Int × Int)} (h0 : 0 ≤ a ∧ a ≤ 4294967295) (h1 : 1 ≤ ps.length ∧ ps.length ≤ 8) (h2 : L.length ≤ 100) (h3 : ps.all (pinB a) = true) : okB a ps L = limB a L L.length := by
  simp only [okB, decide_eq_true h0, decide_eq_true h1, decide_eq_true h2, h3, Bool.true_and]

theorem spec_agesok_no (w : World) (a : Int) (pa la : Option Addr) (n c m d : Nat) (h : ¬ (0 ≤ a ∧ a ≤ 4294967295) ∨ n < 1 ∨ 8 < n ∨ 100 < m) :
    Calls Try.prog 32 #[.agg #[.int .i64 a, .slice pa n c, .slice la m d]] w fun e w' => e = .returned (.bool false) ∧ Below w.heap.size w w' := by
  by_cases h0 : 0 ≤ a ∧ a ≤ 4294967295
  · have e0 := decide_eq_true h0
    clear h0
    by_cases h1 : n < 1
    · have g1 : (n : Int) < 1 := by omega
      go_enter Try.func32, Try.ntmps32
      go_wp2_with (go_at_call 42; refine (spec_isnum a _).mono ?_; rintro e w1 ⟨rfl, rfl⟩; rw [e0])
      go_ret
      exact ⟨rfl, (Below.refl w.heap.size w).alloc (Nat.le_refl _) _⟩
    · have g1 : ¬ ((n : Int) < 1) := by omega
      by_cases h2 : 8 < n
      · have g2 : (8 : Int) < (n : Int) := by omega
        go_enter Try.func32, Try.ntmps32
        go_wp2_with (go_at_call 42; refine (spec_isnum a _).mono ?_; rintro e w1 ⟨rfl, rfl⟩; rw [e0])
        go_ret
        exact ⟨rfl, (Below.refl w.heap.size w).alloc (Nat.le_refl _) _⟩
      · have g2 : ¬ ((8 : Int) < (n : Int)) := by omega
        have g3 : (100 : Int) < (m : Int) := by
          have := of_decide_eq_true e0
          omega
        go_enter Try.func32, Try.ntmps32
        go_wp2_with (go_at_call 42; refine (spec_isnum a _).mono ?_; rintro e w1 ⟨rfl, rfl⟩; rw [e0])
        go_ret
        exact ⟨rfl, (Below.refl w.heap.size w).alloc (Nat.le_refl _) _⟩
  · have e0 := decide_eq_false h0
    clear h0 h
    go_enter Try.func32, Try.ntmps32
    go_wp2_with (go_at_call 42; refine (spec_isnum a _).mono ?_; rintro e w1 ⟨rfl, rfl⟩; rw [e0])
    go_ret
    exact ⟨rfl, (Below.refl w.heap.size w).alloc (Nat.le_refl _) _⟩

set_option maxHeartbeats 1600000 in
set_option maxRecDepth 100000 in
theorem spec_agesok_yes (w : World) (a : Int) (p l : Value) (ps : List Int) (L : List (Int × Int)) (h : AIn w p l ps L) (a0 : 0 ≤ a) (a1 : a ≤ 4294967295) (n1 : 1 ≤ ps.length) (n8 : ps.length ≤ 8) (m1 : L.length ≤ 100) :
    Calls Try.prog 32 #[.agg #[.int .i64 a, p, l]] w fun e w' => e = .returned (.bool (okB a ps L)) ∧ Below w.heap.size w w' := by
  have e0 := decide_eq_true (And.intro a0 a1)
  obtain ⟨pa, pc, la, lc, rfl, rfl, hcap⟩ := h.form
  have HB := hidIt ((Below.refl w.heap.size w).alloc (Nat.le_refl _) (.cells #[.int .i64 a, .slice pa ps.length pc, .slice la L.length lc] 31))
  have HL := hidIt (h.limbo.below HB.out)
  obtain ⟨pa', pc', hpv, hp⟩ := h.pins.below HB.out
  simp at hpv
  obtain ⟨rfl, rfl⟩ := hpv
  rcases hp with hp | ⟨b, off, rfl, hb, hp⟩
  · rw [hp] at n1; simp at n1
  have HP := hidIt hp
  have HPI := hidIt (okB_pins (a := a) (ps := ps) (L := L))
  have HLI := hidIt (okB_limbo (L := L) (And.intro a0 a1) (And.intro n1 n8) m1)
  have g1 : ¬ ((ps.length : Int) < 1) := by omega
  have g2 : ¬ ((8 : Int) < (ps.length : Int)) := by omega
  have g3 : ¬ ((100 : Int) < (L.length : Int)) := by omega
  clear h hp hb
  go_enter Try.func32, Try.ntmps32
  go_wp2_with (go_at_call 42; refine (spec_isnum a _).mono ?_; rintro e w1 ⟨rfl, rfl⟩; rw [e0])
  generalize hW : World.alloc w _ = W1 at HB HL HP
  have c0 : W1.cell? ⟨w.heap.size, 0, none⟩ = some (.int .i64 a) := by rw [← hW]; simp [go_sem]
  have c1 : W1.cell? ⟨w.heap.size, 1, none⟩ = some (.slice (some ⟨b, off, none⟩) ps.length pc) := by rw [← hW]; simp [go_sem]
  have c2 : W1.cell? ⟨w.heap.size, 2, none⟩ = some (.slice la L.length lc) := by rw [← hW]; simp [go_sem]
  have z1 : w.heap.size < W1.heap.size := by rw [← hW]; simp
  clear hW
  go_loop [32] (fun i => ∃ k : Nat, k ≤ ps.length ∧ i = .int .i64 k ∧ Hid (∀ j (hj : j < ps.length), j < k → pinB a ps[j] = true)) (fun i => ps.length - (intOf i).toNat)
  case atStart => exact ⟨0, Nat.zero_le _, rfl, fun j _ hj => by omega⟩
  case round =>
    obtain ⟨k, hk, rfl, HF⟩ := hrel
    by_cases hlt : k < ps.length
    · have c1 := HP.out k hlt
      have hlt' : (k : Int) < (ps.length : Int) := by omega
      have HS := hidIt (fun (h : pinB a ps[k] = false) => HPI.out (all_stop hlt h))
      have HG : Hid (pinB a ps[k] = true → ∀ j (hj : j < ps.length), j < k + 1 → pinB a ps[j] = true) := fun h j hj hjk => by
        by_cases e : j = k
        · subst e; exact h
        · exact HF.out j hj (by omega)
      generalize ps[k] = p at c1 HS HG
      by_cases e1 : p = -1
      · subst e1
        have hp := hidIt (HG.out (by simp [pinB]))
        clear HG HS
        go_wp2
        go_round
        case rel => exact ⟨k + 1, by omega, by go_num, hp.out⟩
        case measure => simp [intOf]; omega
      · by_cases e2 : p = a
        · subst e2
          have hp := hidIt (HG.out (by simp [pinB]))
          clear HG HS
          go_wp2
          go_round
          case rel => exact ⟨k + 1, by omega, by go_num, hp.out⟩
          case measure => simp [intOf]; omega
        · by_cases e3 : p = a - 1
          · have hp := hidIt (HG.out (by simp [pinB, e3]))
            clear HG HS
            have f0 : ¬ p < 0 := by omega
            subst e3
            go_wp2
            go_round
            case rel => exact ⟨k + 1, by omega, by go_num, hp.out⟩
            case measure => simp [intOf]; omega
          · have hp := hidIt (HS.out (by simp [pinB, e1, e2, e3]))
            clear HG HS
            have f1 : (p != -1) = true := by simpa using e1
            have f2 : (p != a) = true := by simpa using e2
            have f3 : (p != a - 1) = true := by simpa using e3
            clear e1 e2 e3
            by_cases f0 : p < 0
            · go_wp2
              go_ret
              exact ⟨ret_boolx (by rw [hp.out]), HB.out⟩
            · go_wp2
              go_ret
              exact ⟨ret_boolx (by rw [hp.out]), HB.out⟩
    · have HE := hidIt (HLI.out (all_full (f := pinB a) (fun j hj => HF.out j hj (by omega))))
      clear HF HP c1
      go_wp2
      go_loopw [59] (fun i wr => ∃ k : Nat, k ≤ L.length ∧ i = .int .i64 k ∧ Below W1.heap.size W1 wr ∧ Hid (limB a L k = true)) (fun i _ => L.length - (intOf i).toNat)
      case atStart => exact ⟨0, Nat.zero_le _, rfl, Below.refl _ _, rfl⟩
      case round =>
        rename World => wr
        obtain ⟨k, hk, rfl, hbw, HF⟩ := hrel
        by_cases hlt : k < L.length
        · have HLL := hidIt HL.out
          obtain ⟨la', lc', hlv, -, hl⟩ := HL.out
          simp at hlv
          obtain ⟨rfl, rfl⟩ := hlv
          rcases hl with hl | ⟨b2, off2, rfl, hb2, hl⟩
          · rw [hl] at hlt; simp at hlt
          have HA := hidIt (PIn.at hl)
          clear hl
          have d1 := below_cell hbw hb2 (HA.out k hlt).1
          have d2 := below_cell hbw hb2 (HA.out k hlt).2
          have hlt' : (k : Int) < (L.length : Int) := by omega
          have hkc : k ≤ lc := by omega
          have hkc' : (k : Int) ≤ (lc : Int) := by omega
          have hlast := limB_last a L k HF.out
          generalize hx : (goneAt L k).1 = x at d1
          generalize hy : (goneAt L k).2 = y at d2
          generalize hla : lastAt L k = q at hlast
          have HX := hidIt (And.intro hx (And.intro hy hla))
          clear hx hy hla
          have hz := hbw.size
          have zB : w.heap.size < wr.heap.size := by omega
          have k0 := below_cell hbw z1 c0
          have k2 := below_cell hbw z1 c2
          go_wp2_with fail
          generalize hW2 : World.alloc wr _ = W2
          have zW2 : W2.heap.size = wr.heap.size + 1 := by rw [← hW2]; simp
          have hY : Hid (Below W1.heap.size W1 W2) := (by rw [← hW2]; exact hbw.alloc hz _ : Below W1.heap.size W1 W2)
          have HZ := hidIt (HB.out.trans (hY.out.mono (by omega)))
          have H2 := hidIt (HLL.out.below hY.out)
          have p0 : W2.cell? ⟨w.heap.size, 0, none⟩ = some (.int .i64 a) := below_cell hY.out z1 c0
          have p2 : W2.cell? ⟨w.heap.size, 2, none⟩ = some (.slice (some ⟨b2, off2, none⟩) L.length lc) := below_cell hY.out z1 c2
          have p3 : W2.cell? ⟨wr.heap.size, 0, none⟩ = some (.int .i64 x) := by rw [← hW2]; simp [go_sem]
          have p4 : W2.cell? ⟨wr.heap.size, 1, none⟩ = some (.int .i64 y) := by rw [← hW2]; simp [go_sem]
          clear hW2 hbw d1 d2 k0 k2 c0 c2
          by_cases e1 : y < 0
          · have HN := hidIt (limB_stop a L k L.length (stepB_no (a := a) rfl HX.out.1 HX.out.2.1 HX.out.2.2 (.inr (.inl (by omega)))) hlt)
            have d1 := decide_eq_true e1
            clear e1
            go_quiet (fail)
            go_wp2
            go_ret
            exact ⟨ret_boolx (by rw [HE.out, HN.out]), below_drewN HZ.out _⟩
          · have d1 := decide_eq_false e1
            by_cases e2 : a < y
            · have HN := hidIt (limB_stop a L k L.length (stepB_no (a := a) rfl HX.out.1 HX.out.2.1 HX.out.2.2 (.inr (.inr e2))) hlt)
              have d2 := decide_eq_true e2
              clear e1 e2
              go_quiet (fail)
              go_wp2
              go_ret
              exact ⟨ret_boolx (by rw [HE.out, HN.out]), below_drewN HZ.out _⟩
            · have d2 := decide_eq_false e2
              rcases k with _ | k
              · obtain rfl : q = 0 := HX.out.2.2.symm
                have HN := hidIt (stepB_yes (a := a) (L := L) (k := 0) (T := false) (by simp [nodeB]) HX.out.1 HX.out.2.1 HX.out.2.2 rfl (by omega) (by omega))
                clear e1 e2
                go_quiet (first | (go_at_call 43; refine Calls.quiet_of_same (spec_node_none _ _ x _)))
                go_wp2
                go_roundw
                case rel => exact ⟨1, by omega, by go_num, below_drewN hY.out _, by show limB a L (0 + 1) = true; rw [limB, HF.out, HN.out]; rfl⟩
                case measure => simp [intOf]; omega
              · have HQ : Hid ((goneAt L k).2 = q) := HX.out.2.2
                have p5 : W2.cell? ⟨b2, off2 + k * 2 + 1, none⟩ = some (.int .i64 q) := below_cell hY.out hb2 (by rw [(HA.out k (by omega)).2, HQ.out])
                have hb3' : b2 < W2.heap.size := by have := hY.out.size; omega
                have hj : (k : Int) < (L.length : Int) := by omega
                have hj0 : (0 : Int) ≤ (k : Int) := by omega
                have hjw : IntKind.i64.wrap ((k : Int) + 1 - 1) = (k : Int) := by rw [show (k : Int) + 1 - 1 = k by omega]; exact wrap_small _ (by omega) (by omega)
                have hjl : (k : Int) + 1 ≤ (lc : Int) := by omega
                have hjm : (0 : Int) ≤ (k : Int) + 1 := by omega
                have hjx : IntKind.i64.wrap (k : Int) = (k : Int) := wrap_small _ (by omega) (by omega)
                have d3 : decide (0 < (k : Int) + 1) = true := decide_eq_true (by omega)
                by_cases e3 : y < q
                · have HN := hidIt (limB_stop a L (k + 1) L.length (stepB_no (a := a) rfl HX.out.1 HX.out.2.1 HX.out.2.2 (.inr (.inl e3))) hlt)
                  have d4 := decide_eq_true e3
                  clear e1 e2 e3
                  go_quiet (fail)
                  go_wp2
                  go_ret
                  exact ⟨ret_boolx (by rw [HE.out, HN.out]), below_drewN HZ.out _⟩
                · have d4 := decide_eq_false e3
                  have HO := hidIt (And.intro (Int.not_lt.1 e3) (Int.not_lt.1 e2))
                  clear e1 e2 e3
                  have PC := hidIt (fun W (h : Below W2.heap.size W2 W) => (⟨below_cell h (by omega) p0, below_cell h (by omega) p2, below_cell h (by omega) p3, below_cell h (by omega) p4, below_cell h (by omega) p5⟩ : W.cell? ⟨w.heap.size, 0, none⟩ = some (.int .i64 a) ∧ W.cell? ⟨w.heap.size, 2, none⟩ = some (.slice (some ⟨b2, off2, none⟩) L.length lc) ∧ W.cell? ⟨wr.heap.size, 0, none⟩ = some (.int .i64 x) ∧ W.cell? ⟨wr.heap.size, 1, none⟩ = some (.int .i64 y) ∧ W.cell? ⟨b2, off2 + k * 2 + 1, none⟩ = some (.int .i64 q)))
                  have h7 := and_mk PC.out (Below.refl _ W2)
                  go_region_held3 (fun W => Below W2.heap.size W2 W ∧ W.cell? ⟨w.heap.size, 0, none⟩ = some (.int .i64 a) ∧ W.cell? ⟨w.heap.size, 2, none⟩ = some (.slice (some ⟨b2, off2, none⟩) L.length lc) ∧ W.cell? ⟨wr.heap.size, 0, none⟩ = some (.int .i64 x) ∧ W.cell? ⟨wr.heap.size, 1, none⟩ = some (.int .i64 y) ∧ W.cell? ⟨b2, off2 + k * 2 + 1, none⟩ = some (.int .i64 q))
                    (first | exact and_mk PC.out (Below.drew (And.left (by assumption))) | exact and_mk PC.out (below_step (And.left (by assumption)) (by assumption)))
                    (first | (go_at_call 43; refine (spec_node _ _ (L.take (k + 1)) x (by simp; omega) ((H2.out.take (k + 1) hk).below (And.left (by assumption)))).mono ?_; rintro e wa ⟨rfl, ba⟩))
                  all_goals
                    rename_i hH
                    have hb3 := hH.1
                    clear hH h7 PC ba
                    generalize hT : nodeB (L.take (k + 1)) x = T
                    have HT := hidIt hT
                    clear hT
                    cases T with
                    | true =>
                      have HN := hidIt (limB_stop a L (k + 1) L.length (stepB_no (a := a) HT.out HX.out.1 HX.out.2.1 HX.out.2.2 (.inl rfl)) hlt)
                      go_wp2
                      go_ret
                      exact ⟨ret_boolx (by rw [HE.out, HN.out]), HZ.out.trans (hb3.mono (by omega))⟩
                    | false =>
                      have HN := hidIt (stepB_yes (a := a) HT.out HX.out.1 HX.out.2.1 HX.out.2.2 rfl (by have := HO.out; omega) (by have := HO.out; omega))
                      go_wp2
                      go_roundw
                      case rel => exact ⟨(k + 1) + 1, by omega, by go_num, hY.out.trans (hb3.mono (by omega)), by show limB a L ((k + 1) + 1) = true; rw [limB, HF.out, HN.out]; rfl⟩
                      case measure => simp [intOf]; omega
        · have HE2 : Hid (okB a ps L = true) := (by rw [HE.out]; have := HF.out; rwa [show k = L.length by omega] at this : okB a ps L = true)
          go_wp2
          go_ret
          exact ⟨ret_boolx (by rw [HE2.out]), below_step HB.out (hbw.mono (by omega))⟩

theorem spec_agesok (w : World) (a : Int) (p l : Value) (ps : List Int) (L : List (Int × Int)) (h : AIn w p l ps L) :
    Calls Try.prog 32 #[.agg #[.int .i64 a, p, l]] w fun e w' => e = .returned (.bool (okB a ps L)) ∧ Below w.heap.size w w' := by
  by_cases hc : ¬ (0 ≤ a ∧ a ≤ 4294967295) ∨ ps.length < 1 ∨ 8 < ps.length ∨ 100 < L.length
  · rw [okB_no1 hc]
    obtain ⟨pa, pc, la, lc, rfl, rfl, -⟩ := h.form
    exact spec_agesok_no w a pa la ps.length pc L.length lc hc
  · exact spec_agesok_yes w a p l ps L h (by omega) (by omega) (by omega) (by omega) (by omega)

end Go.Proofs.Ytikliofkplbdpaa

namespace Go.Proofs.Ytikliofkplbdpaa
open Go.ChangeShapes Go.WideShapes Go.ChangeAt Go.RowKit
set_option linter.unusedVariables false

theorem Row.ofSome {w : World} {lo hi : Nat} {v : Value} {xs : List Int} (h : Row w lo hi v (ints xs)) (h0 : 0 < xs.length) :
    ∃ g c, v = .slice (some ⟨g, 0, none⟩) xs.length c ∧ lo ≤ g ∧ g < hi ∧ (∀ j (hj : j < xs.length), w.cell? ⟨g, j, none⟩ = some (.int .i64 xs[j])) ∧ ∀ j, w.frozen? ⟨g, j, none⟩ = false := by
  obtain ⟨a, c, rfl, q⟩ := h
  rcases q with q | ⟨g, rfl, h1, h2, h3, h4⟩
  · have : xs = [] := by simpa using q
    subst this; simp at h0
  · exact ⟨g, c, by rw [ints_len], h1, h2, fun j hj => by have := h3 j (by simpa using hj); rw [List.getElem_map] at this; exact this, h4⟩
theorem Row.ofCells {w : World} {lo hi g c : Nat} {xs : List Int} (h1 : lo ≤ g) (h2 : g < hi) (h3 : ∀ j (hj : j < xs.length), w.cell? ⟨g, j, none⟩ = some (.int .i64 xs[j])) (h4 : ∀ j, w.frozen? ⟨g, j, none⟩ = false) :
    Row w lo hi (.slice (some ⟨g, 0, none⟩) xs.length c) (ints xs) :=
  ⟨_, c, by rw [ints_len], .inr ⟨g, rfl, h1, h2, fun j hj => by rw [List.getElem_map]; exact h3 j (by simpa using hj), h4⟩⟩
theorem Row.put {w : World} {lo hi g n c : Nat} {xs : List Int} (h : Row w lo hi (.slice (some ⟨g, 0, none⟩) n c) (ints xs)) (i : Nat) (hi' : i < xs.length) (y : Int) :
    Row (w.setCell ⟨g, i, none⟩ (.int .i64 y)) lo hi (.slice (some ⟨g, 0, none⟩) n c) (ints (xs.set i y)) := by
  obtain ⟨g', c', e, h1, h2, h3, h4⟩ := h.ofSome (by omega)
  simp at e
  obtain ⟨rfl, rfl, rfl⟩ := e
  have := Row.ofCells (w := w.setCell ⟨g, i, none⟩ (.int .i64 y)) (c := c) (xs := xs.set i y) h1 h2 (fun j hj => by
    by_cases ej : j = i
    · subst ej
      rw [World.cell?_setCell_same _ _ _ (h3 j hi')]; simp
    · rw [World.cell?_setCell_other _ _ _ _ (by simp <;> omega), h3 j (by simpa using hj), List.getElem_set_ne (by omega)]) (fun j => by rw [World.frozen?_setCell]; exact h4 j)
  rwa [List.length_set] at this

end Go.Proofs.Ytikliofkplbdpaa

namespace Go.Proofs.Ytikliofkplbdpaa
open Go.ChangeShapes Go.WideShapes Go.ChangeAt Go.RowKit
set_option linter.unusedVariables false

theorem at_new {W : World} {o : Obj} {k : Nat} (hk : k = W.heap.size) : (W.alloc o).heap[k]? = some o := by subst hk; exact heap_alloc_new _ _
theorem at_old {W : World} {o : Obj} {k : Nat} {x : Option Obj} (hk : k < W.heap.size) (h : W.heap[k]? = x) : (W.alloc o).heap[k]? = x := (Below.heap_alloc _ _ _ hk).trans h
theorem at_set {W : World} {p : Addr} {v : Value} {k : Nat} {x : Option Obj} (hk : k ≠ p.block) (h : W.heap[k]? = x) : (W.setCell p v).heap[k]? = x := (Below.heap_setCell _ _ _ _ hk).trans h
theorem at_drew {W : World} {k : Nat} {x : Option Obj} (h : W.heap[k]? = x) : W.drew.heap[k]? = x := h

end Go.Proofs.Ytikliofkplbdpaa

namespace Go.Proofs.Ytikliofkplbdpaa
open Go.ChangeShapes Go.WideShapes Go.ChangeAt Go.RowKit
set_option linter.unusedVariables false

theorem run_copy_over {P : Program} (w : World) (dT sT ty elem : TypeId) (g dLen dCap : Nat) (sp : Option Addr) (sLen sCap : Nat) (cur : Array Value) (t : TypeId) (cs : List Value) (size : Nat)
    (hu : P.underlying dT = some (.slice elem)) (hs : (P.info? elem).map (·.size) = some size) (hg : w.heap[g]? = some (.cells cur t (0, 0))) (hle : sLen ≤ dLen) (hn : cs.length = sLen * size)
    (hsrc : 0 < cs.length → ∃ ad, sp = some ad ∧ ∀ j v, cs[j]? = some v → w.cell? (ad.add j) = some v) (hfit : cs.length ≤ cur.size) (h1 : ∀ v ∈ cs, v.oneCell' = true) (h0 : 0 < size) :
    (Builtin.copy_ #[dT, sT] ty #[.slice (some ⟨g, 0, none⟩) dLen dCap, .slice sp sLen sCap]).run P w = .ok (goInt sLen) (w.setRow g (cs ++ cur.toList.drop cs.length).toArray) := by
  have hmin : Nat.min sLen dLen = sLen := Nat.min_eq_left hle
  have hst := run_storeCells_at P g 0 t cs 0 cur w hg (by simpa using hfit) h1
  cases hq : P.info? elem with
  | none => simp [hq] at hs
  | some i =>
    have hi : i.size = size := by simpa [hq] using hs
    have hf : (Builtin.firstCells size sLen (.slice sp sLen sCap)).run P w = .ok cs.toArray w := by
      by_cases hp : 0 < cs.length
      · obtain ⟨ad, rfl, hc⟩ := hsrc hp
        exact run_firstCells_some w size sLen ad sLen sCap cs hn hc
      · have hz : cs = [] := List.length_eq_zero_iff.1 (by omega)
        subst hz
        cases sp with
        | none => exact run_firstCells_none w size sLen sLen sCap
        | some ad => exact run_firstCells_some w size sLen ad sLen sCap [] hn (fun j v h => by simp at h)
    simp [Builtin.copy_, run_underlying hu, Builtin.lenOf, sizeOf, typeInfo, hq, hi, hmin, hf, hst]
theorem copy_over_ex {P : Program} (w : World) (dT sT ty elem : TypeId) (g dLen dCap : Nat) (sp : Option Addr) (sLen sCap : Nat) (cur : Array Value) (t : TypeId) (cs : List Value) (size : Nat)
    (hu : P.underlying dT = some (.slice elem)) (hs : (P.info? elem).map (·.size) = some size) (hg : w.heap[g]? = some (.cells cur t (0, 0))) (hle : sLen ≤ dLen) (hn : cs.length = sLen * size)
    (hsrc : 0 < cs.length → ∃ ad, sp = some ad ∧ ∀ j v, cs[j]? = some v → w.cell? (ad.add j) = some v) (hfit : cs.length ≤ cur.size) (h1 : ∀ v ∈ cs, v.oneCell' = true) (h0 : 0 < size) :
    ∃ w', (Builtin.copy_ #[dT, sT] ty #[.slice (some ⟨g, 0, none⟩) dLen dCap, .slice sp sLen sCap]).run P w = .ok (goInt sLen) w' ∧ Hid (w'.heap[g]? = some (.cells (cs ++ cur.toList.drop cs.length).toArray t (0, 0)) ∧ w.grownBy w' (some g)) :=
  ⟨_, run_copy_over w dT sT ty elem g dLen dCap sp sLen sCap cur t cs size hu hs hg hle hn hsrc hfit h1 h0, ⟨setRow_heap w g cur _ t _ hg, ⟨rfl, rfl, rfl, by simp [World.setRow], fun k _ hk => setRow_other w g k _ (fun e => hk (by rw [e]))⟩⟩⟩
theorem wpList_copy_over {P : Program} {w : World} {ops : Array Oper} {rest : List Oper} {o : Oper} {a : Act} {Q : Exit → Act → World → Prop} (hgd : o.guard = none) (d s : Operand) (dT sT : TypeId)
    (ho : o.op = .call { callee := .builtin .copy, args := #[d, s], argTypes := #[dT, sT] }) (elem : TypeId) (size : Nat) (hu : P.underlying dT = some (.slice elem)) (hs : (P.info? elem).map (·.size) = some size) (h0 : 0 < size)
    (g dLen dCap : Nat) (sp : Option Addr) (sLen sCap : Nat) (hd : a.eval d = .slice (some ⟨g, 0, none⟩) dLen dCap) (hsv : a.eval s = .slice sp sLen sCap) (cur : Array Value) (t : TypeId) (hg : w.heap[g]? = some (.cells cur t (0, 0)))
    (cs : List Value) (hle : sLen ≤ dLen) (hn : cs.length = sLen * size) (hsrc : 0 < cs.length → ∃ ad, sp = some ad ∧ ∀ j v, cs[j]? = some v → w.cell? (ad.add j) = some v) (hfit : cs.length ≤ cur.size) (h1 : ∀ v ∈ cs, v.oneCell' = true)
    (h : ∀ w', Hid (w'.heap[g]? = some (.cells (cs ++ cur.toList.drop cs.length).toArray t (0, 0)) ∧ w.grownBy w' (some g)) → wpList P ops Q rest (a.put o.dst (goInt sLen)) w') : wpList P ops Q (o :: rest) a w := by
  refine wpList_plain hgd fun K hK => ?_
  have hrun := run_copy_over (P := P) w dT sT o.type elem g dLen dCap sp sLen sCap cur t cs size hu hs hg hle hn hsrc hfit h1 h0
  unfold Oper.wp
  simp [execOp, ho, resolve, invoke, builtin, hd, hsv, hrun, Result.andThen]
  exact hK _ _ (h _ ⟨setRow_heap w g cur _ t _ hg, ⟨rfl, rfl, rfl, by simp [World.setRow], fun k _ hk => setRow_other w g k _ (fun e => hk (by rw [e]))⟩⟩)
theorem step_copy_over {P : Program} {w : World} {ops : Array Oper} {o : Oper} {a : Act} {K : Act → World → Prop} {Q : Exit → Act → World → Prop} {E : Prop} (hgd : o.guard = none) (d s : Operand) (dT sT : TypeId)
    (ho : o.op = .call { callee := .builtin .copy, args := #[d, s], argTypes := #[dT, sT] }) (elem : TypeId) (size : Nat) (hu : P.underlying dT = some (.slice elem)) (hs : (P.info? elem).map (·.size) = some size) (h0 : 0 < size)
    (g dLen dCap : Nat) (sp : Option Addr) (sLen sCap : Nat) (hd : a.eval d = .slice (some ⟨g, 0, none⟩) dLen dCap) (hsv : a.eval s = .slice sp sLen sCap) (cur : Array Value) (t : TypeId) (hg : w.heap[g]? = some (.cells cur t (0, 0)))
    (cs : List Value) (hle : sLen ≤ dLen) (hn : cs.length = sLen * size) (hsrc : 0 < cs.length → ∃ ad, sp = some ad ∧ ∀ j v, cs[j]? = some v → w.cell? (ad.add j) = some v) (hfit : cs.length ≤ cur.size) (h1 : ∀ v ∈ cs, v.oneCell' = true)
    (h : ∀ w', Hid (w'.heap[g]? = some (.cells (cs ++ cur.toList.drop cs.length).toArray t (0, 0)) ∧ w.grownBy w' (some g)) → K (a.put o.dst (goInt sLen)) w') :
    if Region.wanted o (yielded ops a.tmps) = true then Oper.wp P o a w K Q else E := by
  have hw : Region.wanted o (yielded ops a.tmps) = true := by simp [Region.wanted, hgd]
  rw [if_pos hw]
  have hrun := run_copy_over (P := P) w dT sT o.type elem g dLen dCap sp sLen sCap cur t cs size hu hs hg hle hn hsrc hfit h1 h0
  unfold Oper.wp
  simp [execOp, ho, resolve, invoke, builtin, hd, hsv, hrun, Result.andThen]
  exact h _ ⟨setRow_heap w g cur _ t _ hg, ⟨rfl, rfl, rfl, by simp [World.setRow], fun k _ hk => setRow_other w g k _ (fun e => hk (by rw [e]))⟩⟩
/- append of a row onto an empty slice of no room -/
theorem step_append_new {P : Program} {w : World} {ops : Array Oper} {o : Oper} {a : Act} {K : Act → World → Prop} {Q : Exit → Act → World → Prop} {E : Prop} (hgd : o.guard = none) (s x : Operand) (t : TypeId)
    (ho : o.op = .call { callee := .builtin .append, args := #[s, x], argTypes := #[t, t] }) (e : TypeId) (i : TypeInfo) (z : Value) (size bytes : Nat) (ht : P.underlying t = some (.slice e)) (hi : P.info? e = some i) (hz : i.zero = some z)
    (hsize : i.size = size) (hby : i.bytes = bytes) (hzs : z.cells.size = size) (g : Addr) (hs : a.eval s = .slice (some g) 0 0) (ad : Addr) (m c : Nat) (news : List Value) (hx : a.eval x = .slice (some ad) m c) (hl : news.length = m * size)
    (hnews : ∀ j u, news[j]? = some u → w.cell? (ad.add j) = some u) (hm : 0 < m) (h63 : m ≤ maxLen) (hbytes : m * bytes ≤ 140737488355328)
    (h : ∀ Zs cap, Hid (m ≤ cap ∧ cap ≤ maxLen ∧ Zs.size = cap * size ∧ Zs.toList.take (m * size) = news) → K (a.put o.dst (.slice (some ⟨w.heap.size, 0, none⟩) m cap)) (w.drew.alloc (.cells Zs e))) :
    if Region.wanted o (yielded ops a.tmps) = true then Oper.wp P o a w K Q else E := by
  have hw : Region.wanted o (yielded ops a.tmps) = true := by simp [Region.wanted, hgd]
  rw [if_pos hw]
  subst hsize hby
  have hr := run_append_grow (P := P) w t o.type e i z ht hi hz g 0 0 [] (by simp) (fun j v h => by simp at h) ad m c news hl hnews (by omega) (by simp only [maxLen] at h63; omega) (growslice_fits (by omega) (by simpa using hbytes))
  have hge := grownCap_ge w (0 + m) 0 e
  have hcm := grownCap_le_maxLen w (0 + m) 0 e (by simpa using h63)
  unfold Oper.wp execOp
  simp only [ho, resolve, invoke, builtin, Sem.run_bind, Sem.run_pure, Result.andThen_ok, List.map_toArray, List.map_cons, List.map_nil, hs, hx, hr]
  have e0 : 0 + m = m := by omega
  rw [e0] at hge hcm ⊢
  refine h _ _ ⟨hge, hcm, ?_, ?_⟩
  · simp only [Array.size_append, List.size_toArray, List.length_nil, size_zeroCells, hzs, hl]
    rw [Nat.zero_add, ← Nat.add_mul]
    congr 1
    omega
  · simp only [Array.toList_append, List.nil_append]
    rw [← hl]
    exact List.take_left
theorem step_append_zero {P : Program} {w : World} {ops : Array Oper} {o : Oper} {a : Act} {K : Act → World → Prop} {Q : Exit → Act → World → Prop} {E : Prop} (hgd : o.guard = none) (s x : Operand) (t : TypeId)
    (ho : o.op = .call { callee := .builtin .append, args := #[s, x], argTypes := #[t, t] }) (e : TypeId) (i : TypeInfo) (ht : P.underlying t = some (.slice e)) (hi : P.info? e = some i)
    (g : Addr) (hs : a.eval s = .slice (some g) 0 0) (sp : Option Addr) (c : Nat) (hx : a.eval x = .slice sp 0 c)
    (h : K (a.put o.dst (.slice (some g) 0 0)) w) :
    if Region.wanted o (yielded ops a.tmps) = true then Oper.wp P o a w K Q else E := by
  have hw : Region.wanted o (yielded ops a.tmps) = true := by simp [Region.wanted, hgd]
  rw [if_pos hw]
  have hr : (Builtin.append_ #[t, t] o.type #[.slice (some g) 0 0, .slice sp 0 c]).run P w = .ok (.slice (some g) 0 0) w := by
    cases sp <;> simp [Builtin.append_, run_underlying ht, sizeOf, typeInfo, hi, Builtin.lenOf, Builtin.firstCells, loadCells, loadCellsFrom, storeCells]
  unfold Oper.wp execOp
  simp only [ho, resolve, invoke, builtin, Sem.run_bind, Sem.run_pure, Result.andThen_ok, List.map_toArray, List.map_cons, List.map_nil, hs, hx, hr]
  exact h

end Go.Proofs.Ytikliofkplbdpaa

namespace Go.Proofs.Ytikliofkplbdpaa
open Go.ChangeShapes Go.WideShapes Go.ChangeAt Go.RowKit
set_option linter.unusedVariables false

structure AO (lo : Nat) (p l : Value) (ps : List Int) (L : List (Int × Int)) (W : World) : Prop where
  pins : W.ownsRow lo 3 1 p ps.length (ints ps)
  limbo : W.ownsRow lo 65 2 l L.length (gones L)
  apart : ∀ g, p.ownBlock = some g → l.ownBlock = some g → False
theorem AO.ar {lo : Nat} {p l : Value} {ps : List Int} {L : List (Int × Int)} {W : World} (h : AO lo p l ps L W) : AR lo W.heap.size p l ps L W := by
  refine ⟨Row.of_owns h.pins, Rw.of_owns h.limbo, fun h1 h2 e => ?_⟩
  obtain ⟨g, cap, hv, -, -⟩ := h.pins.form h1
  exact h.apart g (by rw [hv]; rfl) (by rw [← e, hv]; rfl)
theorem own_of_block {W : World} {lo g n cap size : Nat} {e : TypeId} {cur : Array Value} {xs : List Value} (hg : W.heap[g]? = some (.cells cur e (0, 0))) (hl : lo ≤ g) (hn : n ≤ cap) (hc : cap ≤ maxLen) (hs : cur.size = cap * size) (hx : xs.length = n * size) (ht : cur.toList.take (n * size) = xs) :
    W.ownsRow lo e size (.slice (some ⟨g, 0, none⟩) n cap) n xs := ⟨hx, .inr ⟨g, cap, cur, rfl, hl, hg, hn, hc, hs, ht⟩⟩
/- two rows that were made and a struct that holds them, in whatever order -/
structure Cp (W2 W : World) (a : Int) (n m : Nat) (Z1 Z2 : Array Value) (b g1 g2 : Nat) : Prop where
  below : Below W2.heap.size W2 W
  hb : W2.heap.size ≤ b ∧ b < W.heap.size
  h1 : W2.heap.size ≤ g1 ∧ g1 < W.heap.size
  h2 : W2.heap.size ≤ g2 ∧ g2 < W.heap.size
  ne : b ≠ g1 ∧ b ≠ g2 ∧ g1 ≠ g2
  c0 : W.cell? ⟨b, 0, none⟩ = some (.int .i64 a)
  c1 : W.cell? ⟨b, 1, none⟩ = some (.slice (some ⟨g1, 0, none⟩) n n)
  c2 : W.cell? ⟨b, 2, none⟩ = some (.slice (some ⟨g2, 0, none⟩) m m)
  row1 : W.heap[g1]? = some (.cells Z1 3 (0, 0))
  row2 : W.heap[g2]? = some (.cells Z2 65 (0, 0))
def CpS (W2 : World) (a : Int) (n m : Nat) (Z1 Z2 : Array Value) (s : Value) (W : World) : Prop := ∃ b g1 g2, s = .pointer (some ⟨b, 0, none⟩) ∧ Cp W2 W a n m Z1 Z2 b g1 g2

theorem blk0 {W2 : World} {N : Nat} (hN : W2.heap.size = N) (o1 o2 o3 : Obj) : (((W2.alloc o1).alloc o2).alloc o3).drew.heap[N]? = some o1 := by
  subst hN
  show (((W2.alloc o1).alloc o2).alloc o3).heap[W2.heap.size]? = _
  rw [Below.heap_alloc _ _ _ (by simp; omega), Below.heap_alloc _ _ _ (by simp)]
  exact heap_alloc_new _ _
theorem blk1 {W2 : World} {N : Nat} (hN : W2.heap.size = N) (o1 o2 o3 : Obj) : (((W2.alloc o1).alloc o2).alloc o3).drew.heap[N + 1]? = some o2 := by
  subst hN
  show (((W2.alloc o1).alloc o2).alloc o3).heap[W2.heap.size + 1]? = _
  rw [Below.heap_alloc _ _ _ (by simp)]
  have := heap_alloc_new (W2.alloc o1) o2
  simpa using this
theorem blk2 {W2 : World} {N : Nat} (hN : W2.heap.size = N) (o1 o2 o3 : Obj) : (((W2.alloc o1).alloc o2).alloc o3).drew.heap[N + 1 + 1]? = some o3 := by
  subst hN
  show (((W2.alloc o1).alloc o2).alloc o3).heap[W2.heap.size + 1 + 1]? = _
  have := heap_alloc_new ((W2.alloc o1).alloc o2) o3
  simpa using this
theorem cp_mk {W2 : World} {N : Nat} {a : Int} {n m : Nat} {Z1 Z2 : Array Value} {b g1 g2 : Nat} {o1 o2 o3 : Obj} (hN : W2.heap.size = N)
    (hb : (((W2.alloc o1).alloc o2).alloc o3).drew.heap[b]? = some (.cells #[.int .i64 a, .slice (some ⟨g1, 0, none⟩) n n, .slice (some ⟨g2, 0, none⟩) m m] 31 (0, 0)))
    (h1 : (((W2.alloc o1).alloc o2).alloc o3).drew.heap[g1]? = some (.cells Z1 3 (0, 0))) (h2 : (((W2.alloc o1).alloc o2).alloc o3).drew.heap[g2]? = some (.cells Z2 65 (0, 0)))
    (hr : N ≤ b ∧ N ≤ g1 ∧ N ≤ g2 ∧ b ≠ g1 ∧ b ≠ g2 ∧ g1 ≠ g2) : CpS W2 a n m Z1 Z2 (.pointer (some ⟨b, 0, none⟩)) (((W2.alloc o1).alloc o2).alloc o3).drew := by
  subst hN
  refine ⟨b, g1, g2, rfl, ⟨((((Below.refl _ _).alloc (Nat.le_refl _) _).alloc (by simp) _).alloc (by simp; omega) _).drew, ⟨hr.1, (Array.getElem?_eq_some_iff.1 hb).1⟩, ⟨hr.2.1, (Array.getElem?_eq_some_iff.1 h1).1⟩, ⟨hr.2.2.1, (Array.getElem?_eq_some_iff.1 h2).1⟩, hr.2.2.2, ?_, ?_, ?_, h1, h2⟩⟩
  all_goals simp only [World.cell?, hb]; rfl

theorem inrow_src {w : World} {s : Option Addr} {c : Nat} {ps : List Int} (h : InRow w (.slice s ps.length c) ps) : 0 < (ints ps).length → ∃ ad, s = some ad ∧ ∀ j v, (ints ps)[j]? = some v → w.cell? (ad.add j) = some v := by
  intro hp
  obtain ⟨a, cap, hv, h⟩ := h
  simp at hv
  obtain ⟨rfl, rfl⟩ := hv
  rcases h with rfl | ⟨b, off, rfl, -, h2⟩
  · simp at hp
  · refine ⟨_, rfl, fun j v hj => ?_⟩
    have hadd : (⟨b, off, none⟩ : Addr).add j = ⟨b, off + j, none⟩ := by unfold Addr.add; split <;> simp_all
    obtain ⟨hlt, he⟩ := List.getElem?_eq_some_iff.1 hj
    rw [hadd, ← he, h2 j (by simpa using hlt)]
    simp
theorem pin_src {w : World} {s : Option Addr} {c : Nat} {L : List (Int × Int)} (h : PIn w (.slice s L.length c) L) : 0 < (gones L).length → ∃ ad, s = some ad ∧ ∀ j v, (gones L)[j]? = some v → w.cell? (ad.add j) = some v := by
  intro hp
  have l := gones_len L
  obtain ⟨a, cap, hv, -, h⟩ := h
  simp at hv
  obtain ⟨rfl, rfl⟩ := hv
  rcases h with rfl | ⟨b, off, rfl, -, h2⟩
  · simp [gones_nil] at hp
  · refine ⟨_, rfl, fun j v hj => ?_⟩
    have hadd : (⟨b, off, none⟩ : Addr).add j = ⟨b, off + j, none⟩ := by unfold Addr.add; split <;> simp_all
    obtain ⟨hlt, he⟩ := List.getElem?_eq_some_iff.1 hj
    rw [hadd]
    have hk : j / 2 < L.length := by omega
    have e := gones_at L (j / 2) hk
    have c := h2 (j / 2) hk
    rcases (by omega : j = j / 2 * 2 ∨ j = j / 2 * 2 + 1) with ej | ej
    · rw [← ej, hj] at e
      rw [← ej] at c
      rw [c.1, ← e.1]
    · rw [← ej, hj] at e
      rw [Nat.add_assoc, ← ej] at c
      rw [c.2, ← e.2]
theorem far {w w' : World} {g b o : Nat} {x : Option Value} (h : w.grownBy w' (some g)) (hb : b < w.heap.size) (hn : b ≠ g) (hx : w.cell? ⟨b, o, none⟩ = x) : w'.cell? ⟨b, o, none⟩ = x := (h.cell_far ⟨b, o, none⟩ hb (by simpa using hn)).trans hx
theorem far_frozen {w w' : World} {g b o : Nat} {x : Bool} (h : w.grownBy w' (some g)) (hb : b < w.heap.size) (hn : b ≠ g) (hx : w.frozen? ⟨b, o, none⟩ = x) : w'.frozen? ⟨b, o, none⟩ = x := (h.frozen_far ⟨b, o, none⟩ hb (by simpa using hn)).trans hx
theorem far_block {w w' : World} {g b : Nat} {x : Option Obj} (h : w.grownBy w' (some g)) (hb : b < w.heap.size) (hn : b ≠ g) (hx : w.heap[b]? = x) : w'.heap[b]? = x := (h.block b hb (by simpa using hn)).trans hx
theorem far_below {w0 w w' : World} {g : Nat} (b : Below w0.heap.size w0 w) (h : w.grownBy w' (some g)) (hg : w0.heap.size ≤ g) : Below w0.heap.size w0 w' := b.grown h b.size (fun k hk => by cases hk; exact hg)

set_option maxHeartbeats 1600000 in
set_option maxRecDepth 100000 in
theorem impl_copyages (w : World) (a : Int) (p l : Value) (ps : List Int) (L : List (Int × Int)) (hn : ps.length ≤ 4194304) (hm : L.length ≤ 4194304) (h : AIn w p l ps L) :
    Calls Try.prog 20 #[.agg #[.int .i64 a, p, l]] w fun e w' => ∃ p' l', e = .returned (.agg #[.int .i64 a, p', l']) ∧ AO w.heap.size p' l' ps L w' ∧ Below w.heap.size w w' := by
  obtain ⟨i1, hi1, hy0, hy1, hy2⟩ := info_parts info3
  obtain ⟨i2, hi2, hz0, hz1, hz2⟩ := info_parts infoGone
  have H := hidIt h
  obtain ⟨pa, pc, la, lc, rfl, rfl, -⟩ := h.form
  clear h
  have mk1 : ∀ W, (Instr.makeSlice 22 (.int .i64 (ps.length : Int)) (.int .i64 (ps.length : Int))).run Try.prog W = .ok (.slice (some ⟨W.heap.size, 0, none⟩) ps.length ps.length) (W.alloc (.cells (madeCells (Value.int .i64 0).cells (ps.length * 1)) 3)) := fun W => by
    have := run_make (P := Try.prog) W 22 3 i1 (.int .i64 0) Try.underlying22 hi1 hy0 .i64 .i64 ps.length ps.length (by omega) (Int.le_refl _) (by rw [hy2]; omega) (by omega)
    rw [hy1] at this
    simpa using this
  have mk2 : ∀ W, (Instr.makeSlice 29 (.int .i64 (L.length : Int)) (.int .i64 (L.length : Int))).run Try.prog W = .ok (.slice (some ⟨W.heap.size, 0, none⟩) L.length L.length) (W.alloc (.cells (madeCells (Value.agg #[.int .i64 0, .int .i64 0]).cells (L.length * 2)) 65)) := fun W => by
    have := run_make (P := Try.prog) W 29 65 i2 (.agg #[.int .i64 0, .int .i64 0]) Try.underlying29 hi2 hz0 .i64 .i64 L.length L.length (by omega) (Int.le_refl _) (by rw [hz2]; omega) (by omega)
    rw [hz1] at this
    simpa using this
  have q1 : (madeCells (Value.int .i64 0).cells (ps.length * 1)).size = ps.length * 1 := size_madeCells _ _
  have q2 : (madeCells (Value.agg #[.int .i64 0, .int .i64 0]).cells (L.length * 2)).size = L.length * 2 := size_madeCells _ _
  generalize madeCells (Value.int .i64 0).cells (ps.length * 1) = Z1 at mk1 q1
  generalize madeCells (Value.agg #[.int .i64 0, .int .i64 0]).cells (L.length * 2) = Z2 at mk2 q2
  have Q := hidIt (And.intro q1 q2)
  clear q1 q2
  go_enter Try.func20, Try.ntmps20
  go_wp2_with fail
  generalize hW : World.alloc (World.alloc w _) _ = W2
  have bW : Hid (Below w.heap.size w W2) := (by rw [← hW]; exact ((Below.refl w.heap.size w).alloc (Nat.le_refl _) _).alloc (by simp) _ : Below w.heap.size w W2)
  have zW : W2.heap.size = w.heap.size + 2 := by rw [← hW]; simp
  have c0 : W2.cell? ⟨w.heap.size, 0, none⟩ = some (.int .i64 a) := by rw [← hW]; simp [go_sem]
  have c1 : W2.cell? ⟨w.heap.size, 1, none⟩ = some (.slice pa ps.length pc) := by rw [← hW]; simp [go_sem]
  have c2 : W2.cell? ⟨w.heap.size, 2, none⟩ = some (.slice la L.length lc) := by rw [← hW]; simp [go_sem]
  have d0 : W2.cell? ⟨w.heap.size + 1, 0, none⟩ = some (.int .i64 0) := by rw [← hW]; simp [go_sem]
  have d1 : W2.cell? ⟨w.heap.size + 1, 1, none⟩ = some (.slice none 0 0) := by rw [← hW]; simp [go_sem]
  have d2 : W2.cell? ⟨w.heap.size + 1, 2, none⟩ = some (.slice none 0 0) := by rw [← hW]; simp [go_sem]
  have f0 : ∀ o, W2.frozen? ⟨w.heap.size + 1, o, none⟩ = false := by rw [← hW]; simp [go_sem]
  clear hW
  have l0 : w.heap.size < W2.heap.size := by omega
  have l1 : w.heap.size < W2.heap.size + 1 := by omega
  have l2 : w.heap.size < W2.heap.size + 1 + 1 := by omega
  go_cut [3] from 4 to 14 (fun x3 wc => CpS W2 a ps.length L.length Z1 Z2 x3 wc)
  case first =>
    go_region
    all_goals
      go_wp2_with fail
      go_meet
      first
        | exact cp_mk zW (blk2 zW _ _ _) (blk0 zW _ _ _) (blk1 zW _ _ _) (by omega)
        | exact cp_mk zW (blk1 zW _ _ _) (blk0 zW _ _ _) (blk2 zW _ _ _) (by omega)
        | exact cp_mk zW (blk2 zW _ _ _) (blk1 zW _ _ _) (blk0 zW _ _ _) (by omega)
        | exact cp_mk zW (blk1 zW _ _ _) (blk2 zW _ _ _) (blk0 zW _ _ _) (by omega)
        | exact cp_mk zW (blk0 zW _ _ _) (blk1 zW _ _ _) (blk2 zW _ _ _) (by omega)
        | exact cp_mk zW (blk0 zW _ _ _) (blk2 zW _ _ _) (blk1 zW _ _ _) (by omega)
  case rest =>
  rename World => w3
  obtain ⟨b, g1, g2, rfl, cp⟩ := hcut
  have CP := hidIt cp
  obtain ⟨eb0, eb1⟩ := cp.hb
  obtain ⟨e10, e11⟩ := cp.h1
  obtain ⟨e20, e21⟩ := cp.h2
  obtain ⟨n1, n2, n3⟩ := cp.ne
  have k0 := cp.c0
  have k1 := cp.c1
  have k2 := cp.c2
  have m1 := below_cell cp.below l0 c1
  have m2 := below_cell cp.below l0 c2
  have D0 := below_cell cp.below (by omega) d0
  have D1 := below_cell cp.below (by omega) d1
  have D2 := below_cell cp.below (by omega) d2
  have F0 : ∀ o, w3.frozen? ⟨w.heap.size + 1, o, none⟩ = false := fun o => below_frozen cp.below (by omega) (f0 o)
  have HP := hidIt (H.out.below (bW.out.trans (cp.below.mono (by omega))))
  clear cp c0 c1 c2 d0 d1 d2 f0
  have SRC1 := hidIt (inrow_src HP.out.pins)
  have zz := CP.out.below.size
  have BW := hidIt (bW.out.trans (CP.out.below.mono (by omega)))
  obtain ⟨w4, hr4, h4⟩ := copy_over_ex (P := Try.prog) w3 22 22 3 3 g1 ps.length ps.length pa ps.length pc Z1 3 (ints ps) 1 Try.underlying22 (by rw [hi1]; simp [hy1]) CP.out.row1 (Nat.le_refl _) (by simp) SRC1.out (by rw [Q.out.1]; simp) (ints_one ps) (by omega)
  have G4 := hidIt h4.out.2
  have B4 := hidIt (far_below BW.out G4.out (by omega))
  have z4 := G4.out.size
  have R4 : Hid (w4.heap[g1]? = some (.cells (ints ps).toArray 3 (0, 0))) := by
    have := h4.out.1
    rw [List.drop_eq_nil_of_le (by simp [Q.out.1])] at this
    rw [List.append_nil] at this
    exact this
  have S4 := hidIt (far_block G4.out e21 (by omega) CP.out.row2)
  have SRC2 := hidIt (pin_src (H.out.limbo.below B4.out))
  have k0x := far G4.out eb1 n1 k0
  have k1x := far G4.out eb1 n1 k1
  have k2x := far G4.out eb1 n1 k2
  have m2x := far G4.out (by omega) (by omega) m2
  have D0x := far G4.out (by omega) (by omega) D0
  have D1x := far G4.out (by omega) (by omega) D1
  have D2x := far G4.out (by omega) (by omega) D2
  have F0x : ∀ o, w4.frozen? ⟨w.heap.size + 1, o, none⟩ = false := fun o => far_frozen G4.out (by omega) (by omega) (F0 o)
  clear h4 SRC1
  obtain ⟨w5, hr5, h5⟩ := copy_over_ex (P := Try.prog) w4 29 29 3 65 g2 L.length L.length la L.length lc Z2 65 (gones L) 2 Try.underlying29 (by rw [hi2]; simp [hz1]) S4.out (Nat.le_refl _) (gones_len L) SRC2.out (by rw [Q.out.2, gones_len]; omega) (gones_one L) (by omega)
  have G5 := hidIt h5.out.2
  have B5 := hidIt (far_below B4.out G5.out (by omega))
  have z5 := G5.out.size
  have S5 : Hid (w5.heap[g2]? = some (.cells (gones L).toArray 65 (0, 0))) := by
    have := h5.out.1
    rw [List.drop_eq_nil_of_le (by simp [Q.out.2, gones_len])] at this
    rw [List.append_nil] at this
    exact this
  have R5 := hidIt (far_block G5.out (by omega) n3 R4.out)
  have k0y := far G5.out (by omega) n2 k0x
  have k1y := far G5.out (by omega) n2 k1x
  have k2y := far G5.out (by omega) n2 k2x
  have D0y := far G5.out (by omega) (by omega) D0x
  have D1y := far G5.out (by omega) (by omega) D1x
  have D2y := far G5.out (by omega) (by omega) D2x
  have F0y : ∀ o, w5.frozen? ⟨w.heap.size + 1, o, none⟩ = false := fun o => far_frozen G5.out (by omega) (by omega) (F0x o)
  clear h5 SRC2 k2 m2 k0 k0x k1x D0 D1 D2 D0x D1x D2x F0 F0x
  go_wp2
  refine bodyPost_ret (v := .agg #[.int .i64 a, .slice (some ⟨g1, 0, none⟩) ps.length ps.length, .slice (some ⟨g2, 0, none⟩) L.length L.length]) (by simp [results, Try.results20, go_sem, D0y, D1y, D2y]) rfl ⟨_, _, rfl, ⟨?_, ?_, ?_⟩, ?_⟩
  · refine own_of_block (cur := (ints ps).toArray) ?_ (by omega) (Nat.le_refl _) (by unfold maxLen; omega) (by simp) (by simp) (List.take_of_length_le (by simp))
    rw [Below.heap_setCell _ _ _ _ (by show g1 ≠ w.heap.size + 1; omega), Below.heap_setCell _ _ _ _ (by show g1 ≠ w.heap.size + 1; omega), Below.heap_setCell _ _ _ _ (by show g1 ≠ w.heap.size + 1; omega)]
    exact R5.out
  · refine own_of_block (cur := (gones L).toArray) ?_ (by omega) (Nat.le_refl _) (by unfold maxLen; omega) (by simp [gones_len]) (gones_len L) (by rw [← gones_len]; simp)
    rw [Below.heap_setCell _ _ _ _ (by show g2 ≠ w.heap.size + 1; omega), Below.heap_setCell _ _ _ _ (by show g2 ≠ w.heap.size + 1; omega), Below.heap_setCell _ _ _ _ (by show g2 ≠ w.heap.size + 1; omega)]
    exact S5.out
  · intro g hg1 hg2
    simp [Value.ownBlock] at hg1 hg2
    omega
  · exact ((B5.out.setCell (by simp) _).setCell (by simp) _).setCell (by simp) _

end Go.Proofs.Ytikliofkplbdpaa

namespace Go.Proofs.Ytikliofkplbdpaa
open Go.ChangeShapes Go.WideShapes Go.ChangeAt Go.RowKit
set_option linter.unusedVariables false

/- what the model's copy leaves: two rows of its own, in the result -/
def CsR (w : World) (a : Int) (ps : List Int) (L : List (Int × Int)) (W : World) : Prop :=
  ∃ p l, W.cell? ⟨w.heap.size + 1, 0, none⟩ = some (.int .i64 a) ∧ W.cell? ⟨w.heap.size + 1, 1, none⟩ = some p ∧ W.cell? ⟨w.heap.size + 1, 2, none⟩ = some l ∧ AO w.heap.size p l ps L W ∧ Below w.heap.size w W
theorem own_empty {W : World} {lo g : Nat} {e : TypeId} {size : Nat} (hg : W.heap[g]? = some (.cells #[] e (0, 0))) (hl : lo ≤ g) : W.ownsRow lo e size (.slice (some ⟨g, 0, none⟩) 0 0) 0 [] := own_of_block hg hl (Nat.le_refl _) (by unfold maxLen; omega) (by simp) (by simp) (by simp)

theorem s_al {w W : World} {x0 x1 x2 : Value} (h : Below w.heap.size w W ∧ W.cell? ⟨w.heap.size, 0, none⟩ = some x0 ∧ W.cell? ⟨w.heap.size, 1, none⟩ = some x1 ∧ W.cell? ⟨w.heap.size, 2, none⟩ = some x2 ∧ w.heap.size + 2 ≤ W.heap.size) (o : Obj) : Below w.heap.size w (W.alloc o) ∧ (W.alloc o).cell? ⟨w.heap.size, 0, none⟩ = some x0 ∧ (W.alloc o).cell? ⟨w.heap.size, 1, none⟩ = some x1 ∧ (W.alloc o).cell? ⟨w.heap.size, 2, none⟩ = some x2 ∧ w.heap.size + 2 ≤ (W.alloc o).heap.size := by
  obtain ⟨h0, h1, h2, h3, h4⟩ := h
  have b : Below W.heap.size W (W.alloc o) := (Below.refl _ _).alloc (Nat.le_refl _) _
  exact ⟨below_step h0 b, below_cell b (by omega) h1, below_cell b (by omega) h2, below_cell b (by omega) h3, by simp; omega⟩
theorem s_drew {w W : World} {x0 x1 x2 : Value} (h : Below w.heap.size w W ∧ W.cell? ⟨w.heap.size, 0, none⟩ = some x0 ∧ W.cell? ⟨w.heap.size, 1, none⟩ = some x1 ∧ W.cell? ⟨w.heap.size, 2, none⟩ = some x2 ∧ w.heap.size + 2 ≤ W.heap.size) : Below w.heap.size w W.drew ∧ W.drew.cell? ⟨w.heap.size, 0, none⟩ = some x0 ∧ W.drew.cell? ⟨w.heap.size, 1, none⟩ = some x1 ∧ W.drew.cell? ⟨w.heap.size, 2, none⟩ = some x2 ∧ w.heap.size + 2 ≤ W.drew.heap.size := ⟨h.1.drew, h.2⟩
theorem s_st {w W : World} {x0 x1 x2 : Value} (h : Below w.heap.size w W ∧ W.cell? ⟨w.heap.size, 0, none⟩ = some x0 ∧ W.cell? ⟨w.heap.size, 1, none⟩ = some x1 ∧ W.cell? ⟨w.heap.size, 2, none⟩ = some x2 ∧ w.heap.size + 2 ≤ W.heap.size) (o : Nat) (v : Value) : Below w.heap.size w (W.setCell ⟨w.heap.size + 1, o, none⟩ v) ∧ (W.setCell ⟨w.heap.size + 1, o, none⟩ v).cell? ⟨w.heap.size, 0, none⟩ = some x0 ∧ (W.setCell ⟨w.heap.size + 1, o, none⟩ v).cell? ⟨w.heap.size, 1, none⟩ = some x1 ∧ (W.setCell ⟨w.heap.size + 1, o, none⟩ v).cell? ⟨w.heap.size, 2, none⟩ = some x2 ∧ w.heap.size + 2 ≤ (W.setCell ⟨w.heap.size + 1, o, none⟩ v).heap.size := by
  obtain ⟨h0, h1, h2, h3, h4⟩ := h
  have ne : ∀ i, (⟨w.heap.size + 1, o, none⟩ : Addr) ≠ ⟨w.heap.size, i, none⟩ := fun i e => by simp at e
  exact ⟨h0.setCell (by simp) _, by rw [World.cell?_setCell_other _ _ _ _ (ne _)]; exact h1, by rw [World.cell?_setCell_other _ _ _ _ (ne _)]; exact h2, by rw [World.cell?_setCell_other _ _ _ _ (ne _)]; exact h3, by simpa using h4⟩

set_option maxHeartbeats 1600000 in
set_option maxRecDepth 100000 in
theorem spec_copy_some (w : World) (a : Int) (p l : Value) (ps : List Int) (L : List (Int × Int)) (hn : ps.length ≤ 4194304) (hm : L.length ≤ 4194304) (hp : 0 < ps.length) (hl : 0 < L.length) (h : AIn w p l ps L) :
    Calls Try.prog 34 #[.agg #[.int .i64 a, p, l]] w fun e w' => ∃ p' l', e = .returned (.agg #[.int .i64 a, p', l']) ∧ AO w.heap.size p' l' ps L w' ∧ Below w.heap.size w w' := by
  obtain ⟨i1, hi1, hy0, hy1, hy2⟩ := info_parts info3
  obtain ⟨i2, hi2, hz0, hz1, hz2⟩ := info_parts infoGone
  have H := hidIt h
  obtain ⟨pa, pc, la, lc, rfl, rfl, -⟩ := h.form
  clear h
  go_enter Try.func34, Try.ntmps34
  go_wp2_with fail
  generalize hW : World.alloc (World.alloc w _) _ = W2
  have bW : Hid (Below w.heap.size w W2) := (by rw [← hW]; exact ((Below.refl w.heap.size w).alloc (Nat.le_refl _) _).alloc (by simp) _ : Below w.heap.size w W2)
  have zW : W2.heap.size = w.heap.size + 2 := by rw [← hW]; simp
  have c0 : W2.cell? ⟨w.heap.size, 0, none⟩ = some (.int .i64 a) := by rw [← hW]; simp [go_sem]
  have c1 : W2.cell? ⟨w.heap.size, 1, none⟩ = some (.slice pa ps.length pc) := by rw [← hW]; simp [go_sem]
  have c2 : W2.cell? ⟨w.heap.size, 2, none⟩ = some (.slice la L.length lc) := by rw [← hW]; simp [go_sem]
  have d0 : W2.cell? ⟨w.heap.size + 1, 0, none⟩ = some (.int .i64 0) := by rw [← hW]; simp [go_sem]
  have d1 : W2.cell? ⟨w.heap.size + 1, 1, none⟩ = some (.slice none 0 0) := by rw [← hW]; simp [go_sem]
  have d2 : W2.cell? ⟨w.heap.size + 1, 2, none⟩ = some (.slice none 0 0) := by rw [← hW]; simp [go_sem]
  have f0 : ∀ o, W2.frozen? ⟨w.heap.size + 1, o, none⟩ = false := by rw [← hW]; simp [go_sem]
  clear hW
  have l0 : w.heap.size < W2.heap.size := by omega
  have HI := hidIt (H.out.below bW.out)
  obtain ⟨ad1, rfl, sr1⟩ := inrow_src HI.out.pins (by simpa using hp)
  obtain ⟨ad2, rfl, sr2⟩ := pin_src HI.out.limbo (by rw [gones_len]; omega)
  have SR1 : Hid (∀ W, Below w.heap.size w W → ∀ j v, (ints ps)[j]? = some v → W.cell? (ad1.add j) = some v) := fun W hb j v hj => by
    obtain ⟨ad, he, hs⟩ := inrow_src (H.out.pins.below hb) (by simpa using hp)
    cases he
    exact hs j v hj
  have SR2 : Hid (∀ W, Below w.heap.size w W → ∀ j v, (gones L)[j]? = some v → W.cell? (ad2.add j) = some v) := fun W hb j v hj => by
    obtain ⟨ad, he, hs⟩ := pin_src (H.out.limbo.below hb) (by rw [gones_len]; omega)
    cases he
    exact hs j v hj
  clear sr1 sr2
  go_cut [] from 3 to 13 (fun wc => CsR w a ps L wc)
  case first =>
    have hS : Below w.heap.size w W2 ∧ W2.cell? ⟨w.heap.size, 0, none⟩ = some (.int .i64 a) ∧ W2.cell? ⟨w.heap.size, 1, none⟩ = some (.slice (some ad1) ps.length pc) ∧ W2.cell? ⟨w.heap.size, 2, none⟩ = some (.slice (some ad2) L.length lc) ∧ w.heap.size + 2 ≤ W2.heap.size := ⟨bW.out, c0, c1, c2, by omega⟩
    go_region_held3 (fun W => Below w.heap.size w W ∧ W.cell? ⟨w.heap.size, 0, none⟩ = some (.int .i64 a) ∧ W.cell? ⟨w.heap.size, 1, none⟩ = some (.slice (some ad1) ps.length pc) ∧ W.cell? ⟨w.heap.size, 2, none⟩ = some (.slice (some ad2) L.length lc) ∧ w.heap.size + 2 ≤ W.heap.size)
      (first | ((repeat (first | (with_reducible assumption) | (with_reducible refine s_drew ?_) | (with_reducible refine s_al ?_ _) | (with_reducible refine s_st ?_ _ _))); done))
      (first
      | (refine step_append_new rfl (.tmp 5) (.tmp 7) 22 rfl 3 i1 (.int .i64 0) 1 8 Try.underlying22 hi1 hy0 hy1 hy2 rfl _ rfl ad1 ps.length pc (ints ps) rfl (by simp) (SR1.out _ (And.left (by assumption))) hp (by unfold maxLen; omega) (by omega) ?_; intro Zs1 cap1 hZ1)
      | (refine step_append_new rfl (.tmp 9) (.tmp 11) 29 rfl 65 i2 (.agg #[.int .i64 0, .int .i64 0]) 2 16 Try.underlying29 hi2 hz0 hz1 hz2 rfl _ rfl ad2 L.length lc (gones L) rfl (gones_len L) (SR2.out _ (And.left (by assumption))) hl (by unfold maxLen; omega) (by omega) ?_; intro Zs2 cap2 hZ2))
    all_goals
      go_wp2_with fail
      go_meet
      refine ⟨_, _, by simp [go_sem, zW, d0], by simp [go_sem, zW, d1]; rfl, by simp [go_sem, zW, d2]; rfl, ⟨?_, ?_, ?_⟩, ?_⟩
      · refine own_of_block (cur := Zs1) ?_ (by omega) hZ1.out.1 hZ1.out.2.1 hZ1.out.2.2.1 (by simp) hZ1.out.2.2.2
        (repeat (first | (with_reducible refine at_drew ?_) | (with_reducible refine at_new ?_; (focus (first | (simp; done) | (simp <;> omega) | omega)); done) | (with_reducible refine at_old ?_ ?_; (focus (first | (simp; done) | (simp <;> omega) | omega))) | (with_reducible refine at_set ?_ ?_; (focus (first | (simp; done) | (simp <;> omega) | omega)))))
      · refine own_of_block (cur := Zs2) ?_ (by omega) hZ2.out.1 hZ2.out.2.1 hZ2.out.2.2.1 (gones_len L) hZ2.out.2.2.2
        (repeat (first | (with_reducible refine at_drew ?_) | (with_reducible refine at_new ?_; (focus (first | (simp; done) | (simp <;> omega) | omega)); done) | (with_reducible refine at_old ?_ ?_; (focus (first | (simp; done) | (simp <;> omega) | omega))) | (with_reducible refine at_set ?_ ?_; (focus (first | (simp; done) | (simp <;> omega) | omega)))))
      · intro g hg1 hg2
        simp [Value.ownBlock] at hg1 hg2
        omega
      · (repeat (first | exact bW.out | refine Below.drew ?_ | refine Below.alloc ?_ (by simp <;> omega) _ | refine Below.setCell ?_ (by simp <;> omega) _))
  case rest =>
  obtain ⟨p, l, e0, e1, e2, ao, bl⟩ := hcut
  rename World => w3
  have AO3 := hidIt ao
  have B3 := hidIt bl
  clear ao bl c0 c1 c2 d0 d1 d2 f0
  go_wp2
  exact bodyPost_ret (v := .agg #[.int .i64 a, p, l]) (by simp [results, Try.results34, go_sem, e0, e1, e2]) rfl ⟨_, _, rfl, AO3.out, B3.out⟩

set_option maxHeartbeats 1600000 in
set_option maxRecDepth 100000 in
theorem spec_copy_zero (w : World) (a : Int) (p l : Value) (ps : List Int) (hn : ps.length ≤ 4194304) (hp : 0 < ps.length) (h : AIn w p l ps []) :
    Calls Try.prog 34 #[.agg #[.int .i64 a, p, l]] w fun e w' => ∃ p' l', e = .returned (.agg #[.int .i64 a, p', l']) ∧ AO w.heap.size p' l' ps [] w' ∧ Below w.heap.size w w' := by
  obtain ⟨i1, hi1, hy0, hy1, hy2⟩ := info_parts info3
  obtain ⟨i2, hi2, hz0, hz1, hz2⟩ := info_parts infoGone
  have H := hidIt h
  obtain ⟨pa, pc, la, lc, rfl, rfl, -⟩ := h.form
  clear h
  go_enter Try.func34, Try.ntmps34
  go_wp2_with fail
  generalize hW : World.alloc (World.alloc w _) _ = W2
  have bW : Hid (Below w.heap.size w W2) := (by rw [← hW]; exact ((Below.refl w.heap.size w).alloc (Nat.le_refl _) _).alloc (by simp) _ : Below w.heap.size w W2)
  have zW : W2.heap.size = w.heap.size + 2 := by rw [← hW]; simp
  have c0 : W2.cell? ⟨w.heap.size, 0, none⟩ = some (.int .i64 a) := by rw [← hW]; simp [go_sem]
  have c1 : W2.cell? ⟨w.heap.size, 1, none⟩ = some (.slice pa ps.length pc) := by rw [← hW]; simp [go_sem]
  have c2 : W2.cell? ⟨w.heap.size, 2, none⟩ = some (.slice la 0 lc) := by rw [← hW]; simp [go_sem]
  have d0 : W2.cell? ⟨w.heap.size + 1, 0, none⟩ = some (.int .i64 0) := by rw [← hW]; simp [go_sem]
  have d1 : W2.cell? ⟨w.heap.size + 1, 1, none⟩ = some (.slice none 0 0) := by rw [← hW]; simp [go_sem]
  have d2 : W2.cell? ⟨w.heap.size + 1, 2, none⟩ = some (.slice none 0 0) := by rw [← hW]; simp [go_sem]
  have f0 : ∀ o, W2.frozen? ⟨w.heap.size + 1, o, none⟩ = false := by rw [← hW]; simp [go_sem]
  clear hW
  have l0 : w.heap.size < W2.heap.size := by omega
  have HI := hidIt (H.out.below bW.out)
  obtain ⟨ad1, rfl, sr1⟩ := inrow_src HI.out.pins (by simpa using hp)
  have SR1 : Hid (∀ W, Below w.heap.size w W → ∀ j v, (ints ps)[j]? = some v → W.cell? (ad1.add j) = some v) := fun W hb j v hj => by
    obtain ⟨ad, he, hs⟩ := inrow_src (H.out.pins.below hb) (by simpa using hp)
    cases he
    exact hs j v hj
  clear sr1
  go_cut [] from 3 to 13 (fun wc => CsR w a ps [] wc)
  case first =>
    have hS : Below w.heap.size w W2 ∧ W2.cell? ⟨w.heap.size, 0, none⟩ = some (.int .i64 a) ∧ W2.cell? ⟨w.heap.size, 1, none⟩ = some (.slice (some ad1) ps.length pc) ∧ W2.cell? ⟨w.heap.size, 2, none⟩ = some (.slice la 0 lc) ∧ w.heap.size + 2 ≤ W2.heap.size := ⟨bW.out, c0, c1, c2, by omega⟩
    go_region_held3 (fun W => Below w.heap.size w W ∧ W.cell? ⟨w.heap.size, 0, none⟩ = some (.int .i64 a) ∧ W.cell? ⟨w.heap.size, 1, none⟩ = some (.slice (some ad1) ps.length pc) ∧ W.cell? ⟨w.heap.size, 2, none⟩ = some (.slice la 0 lc) ∧ w.heap.size + 2 ≤ W.heap.size)
      (first | ((repeat (first | (with_reducible assumption) | (with_reducible refine s_drew ?_) | (with_reducible refine s_al ?_ _) | (with_reducible refine s_st ?_ _ _))); done))
      (first
      | (refine step_append_new rfl (.tmp 5) (.tmp 7) 22 rfl 3 i1 (.int .i64 0) 1 8 Try.underlying22 hi1 hy0 hy1 hy2 rfl _ rfl ad1 ps.length pc (ints ps) rfl (by simp) (SR1.out _ (And.left (by assumption))) hp (by unfold maxLen; omega) (by omega) ?_; intro Zs1 cap1 hZ1)
      | (refine step_append_zero rfl (.tmp 9) (.tmp 11) 29 rfl 65 i2 Try.underlying29 hi2 _ rfl la lc rfl ?_))
    all_goals
      go_wp2_with fail
      go_meet
      refine ⟨_, _, by simp [go_sem, zW, d0], by simp [go_sem, zW, d1]; rfl, by simp [go_sem, zW, d2]; rfl, ⟨?_, ?_, ?_⟩, ?_⟩
      · refine own_of_block (cur := Zs1) ?_ (by omega) hZ1.out.1 hZ1.out.2.1 hZ1.out.2.2.1 (by simp) hZ1.out.2.2.2
        (repeat (first | (with_reducible refine at_drew ?_) | (with_reducible refine at_new ?_; (focus (first | (simp; done) | (simp <;> omega) | omega)); done) | (with_reducible refine at_old ?_ ?_; (focus (first | (simp; done) | (simp <;> omega) | omega))) | (with_reducible refine at_set ?_ ?_; (focus (first | (simp; done) | (simp <;> omega) | omega)))))
      · refine own_empty ?_ (by omega)
        (repeat (first | (with_reducible refine at_drew ?_) | (with_reducible refine at_new ?_; (focus (first | (simp; done) | (simp <;> omega) | omega)); done) | (with_reducible refine at_old ?_ ?_; (focus (first | (simp; done) | (simp <;> omega) | omega))) | (with_reducible refine at_set ?_ ?_; (focus (first | (simp; done) | (simp <;> omega) | omega)))))
      · intro g hg1 hg2
        simp [Value.ownBlock] at hg1 hg2
        omega
      · (repeat (first | exact bW.out | refine Below.drew ?_ | refine Below.alloc ?_ (by simp <;> omega) _ | refine Below.setCell ?_ (by simp <;> omega) _))
  case rest =>
  obtain ⟨p, l, e0, e1, e2, ao, bl⟩ := hcut
  rename World => w3
  have AO3 := hidIt ao
  have B3 := hidIt bl
  clear ao bl c0 c1 c2 d0 d1 d2 f0
  go_wp2
  exact bodyPost_ret (v := .agg #[.int .i64 a, p, l]) (by simp [results, Try.results34, go_sem, e0, e1, e2]) rfl ⟨_, _, rfl, AO3.out, B3.out⟩

theorem spec_copyages (w : World) (a : Int) (p l : Value) (ps : List Int) (L : List (Int × Int)) (hn : ps.length ≤ 4194304) (hm : L.length ≤ 4194304) (hp : 0 < ps.length) (h : AIn w p l ps L) :
    Calls Try.prog 34 #[.agg #[.int .i64 a, p, l]] w fun e w' => ∃ p' l', e = .returned (.agg #[.int .i64 a, p', l']) ∧ AO w.heap.size p' l' ps L w' ∧ Below w.heap.size w w' := by
  by_cases hl : 0 < L.length
  · exact spec_copy_some w a p l ps L hn hm hp hl h
  · obtain rfl : L = [] := List.length_eq_zero_iff.1 (by omega)
    exact spec_copy_zero w a p l ps hn hp h

end Go.Proofs.Ytikliofkplbdpaa

namespace Go.Proofs.Ytikliofkplbdpaa
open Go.ChangeShapes Go.WideShapes Go.ChangeAt Go.RowKit
set_option linter.unusedVariables false

def setOk (a : Int) (ps : List Int) (L : List (Int × Int)) (h : Int) (pinned : Bool) : Bool := okB a ps L && decide (0 ≤ h ∧ h < (ps.length : Int)) && ((ps.getD h.toNat 0 != -1) == pinned)
def setA (B : Bool) (a : Int) : Int := if B = true then a else 0
def setP (B : Bool) (ps : List Int) (h y : Int) : List Int := if B = true then ps.set h.toNat y else []
def setLm (B : Bool) (L : List (Int × Int)) : List (Int × Int) := if B = true then L else []
theorem AR.put {W : World} {lo hi g c : Nat} {l : Value} {ps : List Int} {L : List (Int × Int)} (h : AR lo hi (.slice (some ⟨g, 0, none⟩) ps.length c) l ps L W) (hz : hi ≤ W.heap.size) (i : Nat) (hi' : i < ps.length) (y : Int) : AR lo hi (.slice (some ⟨g, 0, none⟩) ps.length c) l (ps.set i y) L (W.setCell ⟨g, i, none⟩ (.int .i64 y)) := by
  refine ⟨h.pins.put i hi' y, h.limbo.grown hz (q := some g) ⟨rfl, rfl, rfl, by simp, fun k _ hk => Below.heap_setCell _ _ _ _ (fun e => hk (by rw [e]))⟩ (fun hx k hk e => ?_), by have := h.apart; simpa using this⟩
  cases hk
  exact h.apart (by omega) (ne_nil_pos hx) e.symm
theorem AR.set_out {W : World} {lo hi : Nat} {p l : Value} {ps : List Int} {L : List (Int × Int)} (h : AR lo hi p l ps L W) {b o : Nat} {v : Value} (hb : b < lo ∨ hi ≤ b) : AR lo hi p l ps L (W.setCell ⟨b, o, none⟩ v) :=
  AR.loc lo hi p l ps L W _ h (fun k k1 k2 => Below.heap_setCell _ _ _ _ (by show k ≠ b; omega))
theorem AR.alloc {W : World} {lo hi : Nat} {p l : Value} {ps : List Int} {L : List (Int × Int)} (h : AR lo hi p l ps L W) (hz : hi ≤ W.heap.size) (o : Obj) : AR lo hi p l ps L (W.alloc o) := h.below ((Below.refl _ _).alloc hz o)
/- what a function of epochs answers: epochs of its own, and a word -/
def AAns (A : Int) (PS : List Int) (LS : List (Int × Int)) (B : Bool) (w : World) (e : Ending) (w' : World) : Prop :=
  ∃ p' l', e = .returned (.tuple #[.agg #[.int .i64 A, p', l'], .bool B]) ∧ AR w.heap.size w'.heap.size p' l' PS LS w' ∧ Below w.heap.size w w'
theorem setOk_no1 {a : Int} {ps : List Int} {L : List (Int × Int)} {h : Int} {q : Bool} (e : okB a ps L = false) : setOk a ps L h q = false := by simp [setOk, e]
theorem setOk_no2 {a : Int} {ps : List Int} {L : List (Int × Int)} {h : Int} {q : Bool} (e : ¬ (0 ≤ h ∧ h < (ps.length : Int))) : setOk a ps L h q = false := by simp only [setOk, decide_eq_false e, Bool.and_false, Bool.false_and]
theorem setOk_in {a : Int} {ps : List Int} {L : List (Int × Int)} {i : Nat} {q : Bool} (e : okB a ps L = true) (hi : i < ps.length) : setOk a ps L (i : Int) q = ((ps[i] != -1) == q) := by
  have h1 : decide (0 ≤ (i : Int) ∧ (i : Int) < (ps.length : Int)) = true := decide_eq_true ⟨by omega, by omega⟩
  simp only [setOk, e, h1, Bool.true_and]
  simp [hi]

theorem setOk_true {a : Int} {ps : List Int} {L : List (Int × Int)} {h : Int} {q : Bool} (e : setOk a ps L h q = true) : okB a ps L = true ∧ ∃ (i : Nat) (hi : i < ps.length), h = i ∧ ((ps[i] != -1) == q) = true := by
  have h1 : okB a ps L = true := by
    cases hB : okB a ps L with
    | true => rfl
    | false => rw [setOk_no1 hB] at e; cases e
  have h2 : 0 ≤ h ∧ h < (ps.length : Int) := by
    by_cases hc : 0 ≤ h ∧ h < (ps.length : Int)
    · exact hc
    · rw [setOk_no2 hc] at e; cases e
  obtain ⟨i, rfl⟩ : ∃ i : Nat, h = i := ⟨h.toNat, by omega⟩
  have hi : i < ps.length := by omega
  exact ⟨h1, i, hi, rfl, by rw [← setOk_in (L := L) h1 hi]; exact e⟩
theorem AAns.none {w w' : World} {e : Ending} (h : e = .returned (.tuple #[.agg #[.int .i64 0, .slice none 0 0, .slice none 0 0], .bool false]) ∧ Below w.heap.size w w') : AAns 0 [] [] false w e w' := ⟨_, _, h.1, AR.nil _ _ _, h.2⟩

end Go.Proofs.Ytikliofkplbdpaa

namespace Go.Proofs.Ytikliofkplbdpaa
open Go.ChangeShapes Go.WideShapes Go.ChangeAt Go.RowKit
set_option linter.unusedVariables false

def retOk (a : Int) (ps : List Int) (L : List (Int × Int)) (x : Int) : Bool := okB a ps L && !nodeB L x && decide (L.length ≠ 100)
def retP (B : Bool) (ps : List Int) : List Int := if B = true then ps else []
def retL (B : Bool) (L : List (Int × Int)) (x a : Int) : List (Int × Int) := if B = true then L ++ [(x, a)] else []
theorem gones_snoc (L : List (Int × Int)) (x a : Int) : gones (L ++ [(x, a)]) = gones L ++ [.int .i64 x, .int .i64 a] := by rw [gones_app]; rfl
theorem AO.grow {lo : Nat} {p l : Value} {ps : List Int} {L : List (Int × Int)} {W W' : World} (h : AO lo p l ps L W) (b : Below W.heap.size W W') : AO lo p l ps L W' := ⟨own_below h.pins b, own_below h.limbo b, h.apart⟩
theorem AO.app {lo : Nat} {p l : Value} {ps : List Int} {L : List (Int × Int)} {W W' : World} {x a : Int} {g cap : Nat} (h : AO lo p l ps L W)
    (ho : W'.ownsRow lo 65 2 (.slice (some ⟨g, 0, none⟩) (L.length + 1) cap) (L.length + 1) (gones L ++ [.int .i64 x, .int .i64 a])) (hg : W.grownBy W' l.ownBlock) (hat : l.ownBlock = some g ∨ g = W.heap.size) : AO lo p (.slice (some ⟨g, 0, none⟩) (L.length + 1) cap) ps (L ++ [(x, a)]) W' := by
  refine ⟨h.pins.kept hg ?_, by rw [gones_snoc]; simpa using ho, ?_⟩
  · cases hu : p.ownBlock with
    | none => exact .inl rfl
    | some k => exact .inr fun e => h.apart k hu e.symm
  · intro k hk hk2
    simp [Value.ownBlock] at hk2
    subst hk2
    rcases hat with hat | hat
    · exact h.apart g hk hat
    · have := (h.pins.lt g hk).2; omega
theorem AO.set {lo : Nat} {p l : Value} {ps : List Int} {L : List (Int × Int)} {W : World} (h : AO lo p l ps L W) {b o : Nat} {v : Value} (hp : p.ownBlock ≠ some b) (hl : l.ownBlock ≠ some b) : AO lo p l ps L (W.setCell ⟨b, o, none⟩ v) := by
  have hg : W.grownBy (W.setCell ⟨b, o, none⟩ v) (some b) := ⟨rfl, rfl, rfl, by simp, fun k _ hk => Below.heap_setCell _ _ _ _ (fun e => hk (by rw [e]))⟩
  exact ⟨h.pins.kept hg (.inr hp), h.limbo.kept hg (.inr hl), h.apart⟩
theorem AO.low {lo : Nat} {p l : Value} {ps : List Int} {L : List (Int × Int)} {W : World} (h : AO lo p l ps L W) {b o : Nat} {v : Value} (hb : b < lo) : AO lo p l ps L (W.setCell ⟨b, o, none⟩ v) :=
  h.set (fun e => by have := (h.pins.lt b e).1; omega) (fun e => by have := (h.limbo.lt b e).1; omega)
theorem AR.ofAO {lo lo' : Nat} {p l : Value} {ps : List Int} {L : List (Int × Int)} {W : World} (h : AO lo p l ps L W) (hl : lo' ≤ lo) : AR lo' W.heap.size p l ps L W := h.ar.wide hl (Nat.le_refl _)
theorem farv {w w' : World} {v : Value} {b o : Nat} {x : Option Value} (h : w.grownBy w' v.ownBlock) (hb : b < w.heap.size) (hn : ∀ k, v.ownBlock = some k → k ≠ b) (hx : w.cell? ⟨b, o, none⟩ = x) : w'.cell? ⟨b, o, none⟩ = x := (h.cell_far ⟨b, o, none⟩ hb (fun e => hn b e.symm rfl)).trans hx
theorem farv_frozen {w w' : World} {v : Value} {b o : Nat} {x : Bool} (h : w.grownBy w' v.ownBlock) (hb : b < w.heap.size) (hn : ∀ k, v.ownBlock = some k → k ≠ b) (hx : w.frozen? ⟨b, o, none⟩ = x) : w'.frozen? ⟨b, o, none⟩ = x := (h.frozen_far ⟨b, o, none⟩ hb (fun e => hn b e.symm rfl)).trans hx
theorem retOk_no {a : Int} {ps : List Int} {L : List (Int × Int)} {x : Int} (h : okB a ps L = false ∨ nodeB L x = true ∨ L.length = 100) : retOk a ps L x = false := by
  rcases h with h | h | h <;> simp [retOk, h]
theorem retOk_yes {a : Int} {ps : List Int} {L : List (Int × Int)} {x : Int} (h : retOk a ps L x = true) : okB a ps L = true ∧ nodeB L x = false ∧ L.length ≠ 100 := by
  simp only [retOk, Bool.and_eq_true, Bool.not_eq_true', decide_eq_true_eq] at h
  exact ⟨h.1.1, h.1.2, h.2⟩
theorem retOk_cases {a : Int} {ps : List Int} {L : List (Int × Int)} {x : Int} (h : retOk a ps L x = false) : okB a ps L = false ∨ nodeB L x = true ∨ L.length = 100 := by
  cases h1 : okB a ps L with
  | false => exact .inl rfl
  | true =>
    cases h2 : nodeB L x with
    | true => exact .inr (.inl rfl)
    | false =>
      simp [retOk, h1, h2] at h
      exact .inr (.inr h)

end Go.Proofs.Ytikliofkplbdpaa
