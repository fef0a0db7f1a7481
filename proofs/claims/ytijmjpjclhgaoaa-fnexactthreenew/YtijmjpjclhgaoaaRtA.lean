/- Contracts of functions of the program and of its model, and plain lemmas: several texts in one. -/
import Derived.Test.YtijmjpjclhgaoaaRows
import Derived.WalkKit
import Derived.ProofKit
import Derived.OpenShut
import Derived.ShutString
import Derived.Laws.RangeString
import Derived.Laws.RangeAny
import Derived.WalkSpells
import Derived.WalkSmall
import Derived.Lib.OthersKept
import Derived.Deep.QuietTactic
import Derived.BigQuiet
import Derived.Laws.OwnMore
import Derived.Deep.RegionHeld3
import Derived.Lib.ItoaNum
import Derived.Laws.IdiomStrings
import Derived.Deep.RegionWith
import Derived.ChangeOld
import Derived.Below
import Derived.Deep.Slices

namespace Go.Proofs.Ytijmjpjclhgaoaa
open Go.ChangeShapes Go.WideShapes Go.ChangeAt Go.RowKit
set_option linter.unusedVariables false

theorem own_below {w w' : World} {base : Nat} {e : TypeId} {size : Nat} {v : Value} {n : Nat} {xs : List Value} (h : w.ownsRow base e size v n xs) (hb : Below w.heap.size w w') : w'.ownsRow base e size v n xs := by
  refine ⟨h.1, ?_⟩
  rcases h.2 with hn | ⟨g, cap, cur, rfl, hbg, hgg, rest⟩
  · exact .inl hn
  · exact .inr ⟨g, cap, cur, rfl, hbg, by rw [hb.block g (Array.getElem?_eq_some_iff.1 hgg).1]; exact hgg, rest⟩
theorem own_mono {w : World} {base base' : Nat} {e : TypeId} {size : Nat} {v : Value} {n : Nat} {xs : List Value} (h : w.ownsRow base e size v n xs) (hb : base' ≤ base) : w.ownsRow base' e size v n xs := by
  refine ⟨h.1, ?_⟩
  rcases h.2 with hn | ⟨g, cap, cur, rfl, hbg, rest⟩
  · exact .inl hn
  · exact .inr ⟨g, cap, cur, rfl, by omega, rest⟩
theorem own_cells {w : World} {base : Nat} {e : TypeId} {v : Value} {n : Nat} {xs : List Value} (h : w.ownsRow base e 1 v n xs) :
    (v = .slice none 0 0 ∧ n = 0 ∧ xs = []) ∨ ∃ g cap, v = .slice (some ⟨g, 0, none⟩) n cap ∧ base ≤ g ∧ g < w.heap.size ∧ n ≤ cap ∧ cap ≤ maxLen ∧ xs.length = n ∧ (∀ j (hj : j < xs.length), w.cell? ⟨g, j, none⟩ = some xs[j]) ∧ (∀ j, w.frozen? ⟨g, j, none⟩ = false) := by
  rcases h.2 with ⟨rfl, hn⟩ | ⟨g, cap, cur, rfl, hbg, hgg, hnc, hcm, hcs, htk⟩
  · exact .inl ⟨rfl, hn, List.length_eq_zero_iff.1 (by rw [h.1, hn])⟩
  · refine .inr ⟨g, cap, rfl, hbg, (Array.getElem?_eq_some_iff.1 hgg).1, hnc, hcm, by rw [h.1]; omega, fun j hj => ?_, fun j => ?_⟩
    · have := h.cells (g := g) rfl j xs[j] (List.getElem?_eq_getElem hj)
      have hadd : (⟨g, 0, none⟩ : Addr).add j = ⟨g, j, none⟩ := by unfold Addr.add; split <;> simp_all
      rwa [hadd] at this
    · simp [World.frozen?, hgg]
def cutTo (s : ByteArray) (m : UInt8) : Nat → List ByteArray × Nat
  | 0 => ([], 0)
  | k + 1 => if s.get! k = m then ((cutTo s m k).1 ++ [s.extract (cutTo s m k).2 k], k + 1) else cutTo s m k
theorem cutTo_hit (s : ByteArray) (m : UInt8) (k : Nat) (h : s.get! k = m) : cutTo s m (k + 1) = ((cutTo s m k).1 ++ [s.extract (cutTo s m k).2 k], k + 1) := by
  rw [cutTo, if_pos h]
theorem cutTo_miss (s : ByteArray) (m : UInt8) (k : Nat) (h : ¬ s.get! k = m) : cutTo s m (k + 1) = cutTo s m k := by
  rw [cutTo, if_neg h]
theorem cutTo_bd (s : ByteArray) (m : UInt8) (k : Nat) : (cutTo s m k).2 ≤ k ∧ (cutTo s m k).1.length ≤ k := by
  induction k with
  | zero => simp [cutTo]
  | succ k ih =>
    by_cases h : s.get! k = m
    · rw [cutTo_hit s m k h]; simp; omega
    · rw [cutTo_miss s m k h]; omega
theorem cutTo_skip (s : ByteArray) (m : UInt8) (a n : Nat) (h : ∀ j, a ≤ j → j < a + n → ¬ s.get! j = m) : cutTo s m (a + n) = cutTo s m a := by
  induction n with
  | zero => rfl
  | succ n ih =>
    rw [← Nat.add_assoc, cutTo_miss s m (a + n) (h (a + n) (by omega) (by omega))]
    exact ih (fun j h1 h2 => h j h1 (by omega))
def cutAll (s : ByteArray) (m : UInt8) : List ByteArray := (cutTo s m s.size).1 ++ [s.extract (cutTo s m s.size).2 s.size]
theorem cutAll_len (s : ByteArray) (m : UInt8) : 1 ≤ (cutAll s m).length ∧ (cutAll s m).length ≤ s.size + 1 := by
  have := cutTo_bd s m s.size
  unfold cutAll; simp; omega
theorem get_bang (s : ByteArray) (k : Nat) (h : k < s.size) : s.get! k = s[k] := by
  have := get_at s k h
  simpa using this
theorem decode_cont (s : ByteArray) (pos : Nat) (h : pos < s.size) (ha : 128 ≤ (s[pos]'h).toNat) :
    pos + (Utf8.decode s pos).2 ≤ s.size ∧ ∀ j, pos ≤ j → j < pos + (Utf8.decode s pos).2 → 128 ≤ (s.get! j).toNat := by
  have h0 : 128 ≤ (s.get! pos).toNat := by rw [get_bang s pos h]; exact ha
  have hn : ¬ (s.get! (pos + 0)).toNat < 128 := by simpa using h0
  have one : ∀ j, pos ≤ j → j < pos + 1 → 128 ≤ (s.get! j).toNat := fun j h1 h2 => by
    obtain rfl : j = pos := by omega
    exact h0
  unfold Utf8.decode
  simp only [hn, if_false]
  repeat' split
  all_goals first
    | exact ⟨by omega, one⟩
    | (rename_i hc _
       simp only [Bool.and_eq_true, decide_eq_true_eq, beq_iff_eq] at hc
       refine ⟨by omega, fun j h1 h2 => ?_⟩
       have hj : j = pos ∨ j = pos + 1 ∨ j = pos + 2 ∨ j = pos + 3 := by simp only at h2; omega
       rcases hj with rfl | rfl | rfl | rfl
       · exact h0
       all_goals (simp only at h2; omega))

end Go.Proofs.Ytijmjpjclhgaoaa

namespace Go.Proofs.Ytijmjpjclhgaoaa
open Go.ChangeShapes Go.WideShapes Go.ChangeAt Go.RowKit
set_option linter.unusedVariables false

def Row (w : World) (lo hi : Nat) (v : Value) (xs : List Value) : Prop :=
  ∃ a cap, v = .slice a xs.length cap ∧ (xs = [] ∨ ∃ g, a = some ⟨g, 0, none⟩ ∧ lo ≤ g ∧ g < hi ∧ (∀ j (hj : j < xs.length), w.cell? ⟨g, j, none⟩ = some xs[j]) ∧ ∀ j, w.frozen? ⟨g, j, none⟩ = false)
theorem Row.of_owns {w : World} {base : Nat} {e : TypeId} {v : Value} {n : Nat} {xs : List Value} (h : w.ownsRow base e 1 v n xs) : Row w base w.heap.size v xs := by
  rcases own_cells h with ⟨rfl, hn, rfl⟩ | ⟨g, cap, rfl, h1, h2, h3, h4, h5, h6, h7⟩
  · exact ⟨none, 0, rfl, .inl rfl⟩
  · exact ⟨_, cap, by rw [h5], .inr ⟨g, rfl, h1, h2, h6, h7⟩⟩
theorem Row.below {w w' : World} {lo hi : Nat} {v : Value} {xs : List Value} (h : Row w lo hi v xs) (hb : Below hi w w') : Row w' lo hi v xs := by
  obtain ⟨a, cap, hv, h⟩ := h
  refine ⟨a, cap, hv, ?_⟩
  rcases h with h | ⟨g, ha, h1, h2, h3, h4⟩
  · exact .inl h
  · exact .inr ⟨g, ha, h1, h2, fun j hj => (hb.cell (p := ⟨g, j, none⟩) h2).trans (h3 j hj), fun j => (hb.frozen (p := ⟨g, j, none⟩) h2).trans (h4 j)⟩
theorem Row.up {w : World} {lo hi hi' : Nat} {v : Value} {xs : List Value} (h : Row w lo hi v xs) (hb : hi ≤ hi') : Row w lo hi' v xs := by
  obtain ⟨a, cap, hv, h⟩ := h
  refine ⟨a, cap, hv, ?_⟩
  rcases h with h | ⟨g, ha, h1, h2, h3⟩
  · exact .inl h
  · exact .inr ⟨g, ha, h1, by omega, h3⟩
theorem Row.drewN {w : World} {lo hi : Nat} {v : Value} {xs : List Value} (h : Row w lo hi v xs) (n : Nat) : Row (w.drewN n) lo hi v xs :=
  h.below (below_drewN (Below.refl _ _) n)

end Go.Proofs.Ytijmjpjclhgaoaa

namespace Go.Proofs.Ytijmjpjclhgaoaa
open Go.ChangeShapes Go.WideShapes Go.ChangeAt Go.RowKit
set_option linter.unusedVariables false

theorem bcell {W w1 : World} (hb : Below W.heap.size W w1) : (∀ b o, b < W.heap.size → w1.cell? ⟨b, o, none⟩ = W.cell? ⟨b, o, none⟩) ∧ (∀ b o, b < W.heap.size → w1.frozen? ⟨b, o, none⟩ = W.frozen? ⟨b, o, none⟩) :=
  ⟨fun b o h => hb.cell (p := ⟨b, o, none⟩) h, fun b o h => hb.frozen (p := ⟨b, o, none⟩) h⟩
theorem hidIt {p : Prop} (h : p) : Hid p := h
theorem below_cell {B : Nat} {w w' : World} {b o : Nat} {x : Option Value} (h : Below B w w') (hb : b < B) (hx : w.cell? ⟨b, o, none⟩ = x) : w'.cell? ⟨b, o, none⟩ = x := (h.cell (p := ⟨b, o, none⟩) hb).trans hx
theorem below_frozen {B : Nat} {w w' : World} {b o : Nat} {x : Bool} (h : Below B w w') (hb : b < B) (hx : w.frozen? ⟨b, o, none⟩ = x) : w'.frozen? ⟨b, o, none⟩ = x := (h.frozen (p := ⟨b, o, none⟩) hb).trans hx
theorem have_intro {P Q : Prop} (h : P) (k : P → Q) : Q := k h
theorem below_bk {X Y : World} (b : Below X.heap.size X Y) {n : Nat} (h : n < X.heap.size) : (∀ o, Y.cell? ⟨n, o, none⟩ = X.cell? ⟨n, o, none⟩) ∧ ∀ o, Y.frozen? ⟨n, o, none⟩ = X.frozen? ⟨n, o, none⟩ := ⟨fun o => b.cell (p := ⟨n, o, none⟩) h, fun o => b.frozen (p := ⟨n, o, none⟩) h⟩

end Go.Proofs.Ytijmjpjclhgaoaa

namespace Go.Proofs.Ytijmjpjclhgaoaa
open Go.ChangeShapes Go.WideShapes Go.ChangeAt Go.RowKit
set_option linter.unusedVariables false

structure Out (lo hi : Nat) (w w' : World) : Prop where
  os : w'.os = w.os
  tape : w'.tape = w.tape
  output : w'.output = w.output
  size : w.heap.size ≤ w'.heap.size
  block : ∀ k, k < w.heap.size → (k < lo ∨ hi ≤ k) → w'.heap[k]? = w.heap[k]?
theorem Out.refl (lo hi : Nat) (w : World) : Out lo hi w w := ⟨rfl, rfl, rfl, Nat.le_refl _, fun _ _ _ => rfl⟩
theorem Out.of_below {lo hi : Nat} {w w' : World} (h : Below w.heap.size w w') : Out lo hi w w' := ⟨h.os, h.tape, h.output, h.size, fun k hk _ => h.block k hk⟩
theorem Out.of_grown {lo hi g : Nat} {w w' : World} (h : w.grownBy w' (some g)) (h1 : lo ≤ g) (h2 : g < hi) : Out lo hi w w' :=
  ⟨h.os, h.tape, h.output, h.size, fun k hk hn => h.block k hk (fun e => by simp at e; omega)⟩
theorem Out.trans {lo hi : Nat} {a b c : World} (h : Out lo hi a b) (k : Out lo hi b c) : Out lo hi a c :=
  ⟨k.os.trans h.os, k.tape.trans h.tape, k.output.trans h.output, Nat.le_trans h.size k.size, fun x hx hn => (k.block x (Nat.lt_of_lt_of_le hx h.size) hn).trans (h.block x hx hn)⟩
theorem Out.cell {lo hi : Nat} {w w' : World} (h : Out lo hi w w') {b o : Nat} {x : Option Value} (hb : b < w.heap.size) (hn : b < lo ∨ hi ≤ b) (hx : w.cell? ⟨b, o, none⟩ = x) : w'.cell? ⟨b, o, none⟩ = x :=
  (World.cell?_of_block (a := ⟨b, o, none⟩) (h.block b hb hn)).trans hx
theorem Out.frozen {lo hi : Nat} {w w' : World} (h : Out lo hi w w') {b o : Nat} {x : Bool} (hb : b < w.heap.size) (hn : b < lo ∨ hi ≤ b) (hx : w.frozen? ⟨b, o, none⟩ = x) : w'.frozen? ⟨b, o, none⟩ = x :=
  (World.frozen?_of_block (a := ⟨b, o, none⟩) (h.block b hb hn)).trans hx
theorem Out.below {lo hi B : Nat} {w w' : World} (h : Out lo hi w w') (h1 : B ≤ lo) (h2 : B ≤ w.heap.size) : Below B w w' := ⟨h.os, h.tape, h.output, h.size, fun k hk => h.block k (by omega) (by omega)⟩
theorem Row.out {w w' : World} {lo hi l2 h2 : Nat} {v : Value} {xs : List Value} (r : Row w l2 h2 v xs) (h : Out lo hi w w') (hz : h2 ≤ w.heap.size) (hn : h2 ≤ lo ∨ hi ≤ l2) : Row w' l2 h2 v xs := by
  obtain ⟨a, cap, hv, r⟩ := r
  refine ⟨a, cap, hv, ?_⟩
  rcases r with r | ⟨g, ha, h1, h2', h3, h4⟩
  · exact .inl r
  · exact .inr ⟨g, ha, h1, h2', fun j hj => h.cell (by omega) (by omega) (h3 j hj), fun j => h.frozen (by omega) (by omega) (h4 j)⟩
theorem grown_set {w wr : World} {g : Nat} (h : w.grownBy wr (some g)) (j : Nat) (v : Value) : w.grownBy (wr.setCell ⟨g, j, none⟩ v) (some g) :=
  ⟨h.os, h.tape, h.output, by have := h.size; simpa using this, fun k hk hn => (Below.heap_setCell _ _ _ _ (fun e => hn (by simp [e]))).trans (h.block k hk hn)⟩

end Go.Proofs.Ytijmjpjclhgaoaa

namespace Go.Proofs.Ytijmjpjclhgaoaa
open Go.ChangeShapes Go.WideShapes Go.ChangeAt Go.RowKit
set_option linter.unusedVariables false

theorem Out.drew {lo hi : Nat} {w w' : World} (h : Out lo hi w w') : Out lo hi w w'.drew := ⟨h.os, h.tape, h.output, h.size, h.block⟩
theorem Out.setCell {lo hi : Nat} {w w' : World} {p : Addr} {v : Value} (h : Out lo hi w w') (h1 : lo ≤ p.block) (h2 : p.block < hi) : Out lo hi w (w'.setCell p v) :=
  ⟨h.os, h.tape, h.output, by have := h.size; simpa using this, fun k hk hn => (Below.heap_setCell _ _ _ _ (by omega)).trans (h.block k hk hn)⟩
theorem Out.alloc {lo hi : Nat} {w w' : World} (h : Out lo hi w w') (o : Obj) : Out lo hi w (w'.alloc o) :=
  ⟨h.os, h.tape, h.output, by have := h.size; simp; omega, fun k hk hn => (Below.heap_alloc _ _ _ (Nat.lt_of_lt_of_le hk h.size)).trans (h.block k hk hn)⟩
theorem step_row {w w' : World} {lo hi l2 B : Nat} {v : Value} {xs : List Value} (r : Row w l2 w.heap.size v xs) (h : Out lo hi w w') (hl : hi ≤ l2) (hB : B ≤ l2) : Row w' B w'.heap.size v xs := by
  obtain ⟨a, cap, hv, r⟩ := (r.out h (Nat.le_refl _) (.inr hl)).up h.size
  refine ⟨a, cap, hv, ?_⟩
  rcases r with r | ⟨g, ha, h1, h2, h3⟩
  · exact .inl r
  · exact .inr ⟨g, ha, by omega, h2, h3⟩

theorem first_out {lo hi : Nat} {w W W' : World} (h : Out lo hi w W) (b : Below W.heap.size W W') : Out lo hi w W' := h.trans (Out.of_below b)

end Go.Proofs.Ytijmjpjclhgaoaa

namespace Go.Proofs.Ytijmjpjclhgaoaa
open Go.ChangeShapes Go.WideShapes Go.ChangeAt Go.RowKit
set_option linter.unusedVariables false

theorem ret_boolx {a b : Bool} (h : a = b) : Ending.returned (.bool a) = .returned (.bool b) := by rw [h]
theorem ret_ints {k : IntKind} {a b : Int} (h : a = b) : Ending.returned (.int k a) = .returned (.int k b) := by rw [h]
abbrev ints (xs : List Int) : List Value := xs.map (Value.int .i64)
theorem ints_len (xs : List Int) : (ints xs).length = xs.length := by simp
def InRow (w : World) (v : Value) (xs : List Int) : Prop :=
  ∃ a cap, v = .slice a xs.length cap ∧ (xs = [] ∨ ∃ b off, a = some ⟨b, off, none⟩ ∧ b < w.heap.size ∧ ∀ j (hj : j < xs.length), w.cell? ⟨b, off + j, none⟩ = some (.int .i64 xs[j]))
theorem InRow.below {w w' : World} {v : Value} {xs : List Int} (h : InRow w v xs) (hb : Below w.heap.size w w') : InRow w' v xs := by
  obtain ⟨a, cap, hv, h⟩ := h
  refine ⟨a, cap, hv, ?_⟩
  rcases h with h | ⟨b, off, ha, h1, h2⟩
  · exact .inl h
  · exact .inr ⟨b, off, ha, Nat.lt_of_lt_of_le h1 hb.size, fun j hj => (hb.cell (p := ⟨b, off + j, none⟩) h1).trans (h2 j hj)⟩
theorem info3 : (Try.prog.info? 3).map (fun i => (i.zero, i.size, i.bytes)) = some (some (.int .i64 0), 1, 8) := by kernel_rfl

theorem eq_int_zero (a b : Option Addr) (c d : Nat) (w : World) :
    Calls Try.prog 47 #[.slice a 0 c, .slice b 0 d] w fun e w' => e = .returned (.bool true) ∧ ∃ n, w' = w.drewN n := by
  go_enter Try.func47, Try.ntmps47
  go_wp2
  go_loop [5] (fun i => i = .int .i64 0) (fun _ => 0)
  case atStart => rfl
  case round =>
    subst hrel
    go_wp2
    go_ret
    exact ⟨rfl, 0, rfl⟩

set_option maxHeartbeats 800000 in
set_option maxRecDepth 100000 in
theorem eq_int_some (g h c d : Nat) (ps : List Int) (w : World) (hn : ps.length ≤ 4194304) (h0 : 0 < ps.length)
    (hA : ∀ j (hj : j < ps.length), w.cell? ⟨g, j, none⟩ = some (.int .i64 ps[j])) (hB : ∀ j (hj : j < ps.length), w.cell? ⟨h, j, none⟩ = some (.int .i64 ps[j])) :
    Calls Try.prog 47 #[.slice (some ⟨g, 0, none⟩) ps.length c, .slice (some ⟨h, 0, none⟩) ps.length d] w fun e w' => e = .returned (.bool true) ∧ ∃ n, w' = w.drewN n := by
  have HA : Hid _ := hA
  have HB : Hid _ := hB
  clear hA hB
  go_enter Try.func47, Try.ntmps47
  go_wp2
  go_loopw [5] (fun i wr => ∃ k n : Nat, k ≤ ps.length ∧ i = .int .i64 k ∧ wr = w.drewN n) (fun i _ => ps.length - (intOf i).toNat)
  case atStart => exact ⟨0, 0, Nat.zero_le _, rfl, rfl⟩
  case round =>
    obtain ⟨k, n, hk, rfl, rfl⟩ := hrel
    by_cases hlt : k < ps.length
    · have cA := HA.out k hlt
      have cB := HB.out k hlt
      have hlt' : (k : Int) < (ps.length : Int) := by omega
      generalize ps[k] = x at cA cB
      go_wp2
      go_quiet (fail)
      go_wp2
      go_roundw
      case rel => exact ⟨k + 1, _, by omega, by go_num, rfl⟩
      case measure => simp [intOf]; omega
    · go_wp2
      go_ret
      exact ⟨rfl, n, rfl⟩

theorem eq_int (w : World) (l1 h1 l2 h2 : Nat) (v1 v2 : Value) (ps : List Int) (hn : ps.length ≤ 4194304) (r1 : Row w l1 h1 v1 (ints ps)) (r2 : Row w l2 h2 v2 (ints ps)) :
    Calls Try.prog 47 #[v1, v2] w fun e w' => e = .returned (.bool true) ∧ ∃ n, w' = w.drewN n := by
  obtain ⟨a, c, rfl, q1⟩ := r1
  obtain ⟨b, d, rfl, q2⟩ := r2
  rw [ints_len]
  rcases q1 with q1 | ⟨g, rfl, _, _, q1, _⟩
  · have e : ps = [] := by simpa using q1
    subst e
    exact eq_int_zero a b c d w
  · rcases q2 with q2 | ⟨h, rfl, _, _, q2, _⟩
    · have e : ps = [] := by simpa using q2
      subst e
      exact eq_int_zero _ b c d w
    · by_cases h0 : 0 < ps.length
      · exact eq_int_some g h c d ps w hn h0 (fun j hj => by have := q1 j (by simpa using hj); rw [List.getElem_map] at this; exact this) (fun j hj => by have := q2 j (by simpa using hj); rw [List.getElem_map] at this; exact this)
      · have e : ps.length = 0 := by omega
        rw [e]
        exact eq_int_zero _ _ c d w

theorem mark_int_zero (a : Option Addr) (c k0 : Nat) (w : World) :
    Calls Try.prog 49 #[.slice a 0 c, .int .i64 k0] w fun e w' => e = .returned (.int .i64 k0) ∧ w' = w := by
  go_enter Try.func49, Try.ntmps49
  go_wp2
  go_loop [5, 1] (fun i k => i = .int .i64 0 ∧ k = .int .i64 k0) (fun _ _ => 0)
  case atStart => exact ⟨rfl, rfl⟩
  case round =>
    obtain ⟨rfl, rfl⟩ := hrel
    go_wp2
    go_ret
    exact ⟨rfl, rfl⟩
theorem held_int_zero (a : Option Addr) (c k0 : Nat) (w : World) :
    Calls Try.prog 51 #[.slice a 0 c, .int .i64 k0] w fun e w' => e = .returned (.int .i64 k0) ∧ w' = w := by
  go_enter Try.func51, Try.ntmps51
  go_wp2
  go_loop [5, 1] (fun i k => i = .int .i64 0 ∧ k = .int .i64 k0) (fun _ _ => 0)
  case atStart => exact ⟨rfl, rfl⟩
  case round =>
    obtain ⟨rfl, rfl⟩ := hrel
    go_wp2
    go_ret
    exact ⟨rfl, rfl⟩

set_option maxHeartbeats 800000 in
set_option maxRecDepth 100000 in
theorem mark_int_some (g c n k0 : Nat) (w : World) (hn : n ≤ 4194304) (h2 : k0 ≤ 4194304) (hg : g < w.heap.size)
    (hA : ∀ j, j < n → ∃ x, w.cell? ⟨g, j, none⟩ = some (.int .i64 x)) (hF : ∀ j, w.frozen? ⟨g, j, none⟩ = false) :
    Calls Try.prog 49 #[.slice (some ⟨g, 0, none⟩) n c, .int .i64 k0] w fun e w' => e = .returned (.int .i64 ((k0 + n : Nat) : Int)) ∧
      (∀ j, j < n → w'.cell? ⟨g, j, none⟩ = some (.int .i64 ((k0 + j : Nat) : Int))) ∧ (∀ j, w'.frozen? ⟨g, j, none⟩ = false) ∧ w.grownBy w' (some g) := by
  have HA : Hid _ := hA
  have HF : Hid _ := hF
  clear hA hF
  go_enter Try.func49, Try.ntmps49
  go_wp2
  go_loopw [5, 1] (fun i kk wr => ∃ k : Nat, k ≤ n ∧ i = .int .i64 k ∧ kk = .int .i64 ((k0 + k : Nat) : Int) ∧ g < wr.heap.size ∧ w.grownBy wr (some g) ∧ Hid ((∀ j, j < k → wr.cell? ⟨g, j, none⟩ = some (.int .i64 ((k0 + j : Nat) : Int))) ∧ (∀ j, k ≤ j → j < n → ∃ x, wr.cell? ⟨g, j, none⟩ = some (.int .i64 x)) ∧ ∀ j, wr.frozen? ⟨g, j, none⟩ = false)) (fun i _ _ => n - (intOf i).toNat)
  case atStart => exact ⟨0, Nat.zero_le _, rfl, rfl, hg, World.grownBy.refl _ _, ⟨fun j hj => by omega, fun j _ hj => HA.out j hj, HF.out⟩⟩
  case round =>
    obtain ⟨k, hk, rfl, rfl, hgr, hb, HS⟩ := hrel
    by_cases hlt : k < n
    · obtain ⟨x, hx⟩ := HS.out.2.1 k (Nat.le_refl _) hlt
      have hz := HS.out.2.2 k
      have hlt' : (k : Int) < (n : Int) := by omega
      go_wp2
      go_roundw
      case rel =>
        refine ⟨k + 1, by omega, by go_num, by go_num, by simp; omega, grown_set hb _ _, ⟨fun j hj => ?_, fun j hj1 hj2 => ?_, fun j => ?_⟩⟩
        · by_cases ej : j = k
          · subst ej; refine (World.cell?_setCell_same _ _ _ hx).trans ?_; simp
          · rw [World.cell?_setCell_other _ _ _ _ (by simp <;> omega)]; exact HS.out.1 j (by omega)
        · rw [World.cell?_setCell_other _ _ _ _ (by simp <;> omega)]; exact HS.out.2.1 j (by omega) hj2
        · rw [World.frozen?_setCell]; exact HS.out.2.2 j
      case measure => simp [intOf]; omega
    · have HK : Hid (k = n) := (by omega : k = n)
      go_wp2
      go_ret
      exact ⟨ret_ints (by rw [HK.out]), by rw [← HK.out]; exact HS.out.1, HS.out.2.2, hb⟩

set_option maxHeartbeats 800000 in
set_option maxRecDepth 100000 in
theorem held_int_some (g c n k0 : Nat) (w : World) (hn : n ≤ 4194304) (h2 : k0 ≤ 4194304)
    (hA : ∀ j, j < n → w.cell? ⟨g, j, none⟩ = some (.int .i64 ((k0 + j : Nat) : Int))) :
    Calls Try.prog 51 #[.slice (some ⟨g, 0, none⟩) n c, .int .i64 k0] w fun e w' => e = .returned (.int .i64 ((k0 + n : Nat) : Int)) ∧ w' = w := by
  have HA : Hid _ := hA
  clear hA
  go_enter Try.func51, Try.ntmps51
  go_wp2
  go_loop [5, 1] (fun i kk => ∃ k : Nat, k ≤ n ∧ i = .int .i64 k ∧ kk = .int .i64 ((k0 + k : Nat) : Int)) (fun i _ => n - (intOf i).toNat)
  case atStart => exact ⟨0, Nat.zero_le _, rfl, rfl⟩
  case round =>
    obtain ⟨k, hk, rfl, rfl⟩ := hrel
    by_cases hlt : k < n
    · have hx := HA.out k hlt
      have hlt' : (k : Int) < (n : Int) := by omega
      go_wp2
      go_round
      case rel => exact ⟨k + 1, by omega, by go_num, by go_num⟩
      case measure => simp [intOf]; omega
    · have HK : Hid (k = n) := (by omega : k = n)
      go_wp2
      go_ret
      exact ⟨ret_ints (by rw [HK.out]), rfl⟩

def imarks (k0 n : Nat) : List Value := (List.range n).map fun j => Value.int .i64 ((k0 + j : Nat) : Int)
theorem imarks_len (k0 n : Nat) : (imarks k0 n).length = n := by simp [imarks]
theorem mark_int (w : World) (lo hi : Nat) (v : Value) (ps : List Int) (k0 : Nat) (hn : ps.length ≤ 4194304) (h2 : k0 ≤ 4194304) (hh : hi ≤ w.heap.size) (r : Row w lo hi v (ints ps)) :
    Calls Try.prog 49 #[v, .int .i64 k0] w fun e w' => e = .returned (.int .i64 ((k0 + ps.length : Nat) : Int)) ∧ Row w' lo hi v (imarks k0 ps.length) ∧ Out lo hi w w' := by
  obtain ⟨a, c, rfl, q1⟩ := r
  rw [ints_len]
  by_cases h0 : ps.length = 0
  · rw [h0]
    refine (mark_int_zero a c k0 w).mono ?_
    rintro e w' ⟨rfl, rfl⟩
    exact ⟨rfl, ⟨a, c, rfl, .inl rfl⟩, Out.refl _ _ _⟩
  · rcases q1 with q1 | ⟨g, rfl, g1, g2, q1, q2⟩
    · exact absurd (by simpa using congrArg List.length q1) h0
    · refine (mark_int_some g c ps.length k0 w hn h2 (by omega) (fun j hj => ⟨ps[j], by have := q1 j (by simpa using hj); rw [List.getElem_map] at this; exact this⟩) q2).mono ?_
      rintro e w' ⟨rfl, m1, m2, m3⟩
      exact ⟨rfl, ⟨_, c, by rw [imarks_len], .inr ⟨g, rfl, g1, g2, fun j hj => by
        rw [m1 j (by simpa [imarks] using hj)]
        simp [imarks], m2⟩⟩, Out.of_grown m3 g1 g2⟩
theorem held_int (w : World) (lo hi : Nat) (v : Value) (n k0 : Nat) (hn : n ≤ 4194304) (h2 : k0 ≤ 4194304) (r : Row w lo hi v (imarks k0 n)) :
    Calls Try.prog 51 #[v, .int .i64 k0] w fun e w' => e = .returned (.int .i64 ((k0 + n : Nat) : Int)) ∧ w' = w := by
  obtain ⟨a, c, rfl, q1⟩ := r
  rw [imarks_len]
  by_cases h0 : n = 0
  · subst h0
    exact held_int_zero a c k0 w
  · rcases q1 with q1 | ⟨g, rfl, g1, g2, q1, q2⟩
    · exact absurd (by have := congrArg List.length q1; rw [imarks_len] at this; simpa using this) h0
    · exact held_int_some g c n k0 w hn h2 (fun j hj => by
        rw [q1 j (by rw [imarks_len]; exact hj)]
        simp [imarks])

theorem sz_int (a : Option Addr) (n c : Nat) (l : Int) (w : World) (hn : n ≤ 9223372036854775807) (h1 : 0 ≤ l) (h2 : l ≤ 4194304) :
    Calls Try.prog 33 #[.slice a n c, .int .i64 l] w fun e w' => e = .returned (.int .i64 (if l < n then -1 else l - n)) ∧ w' = w := by
  by_cases h : l < n
  · rw [if_pos h]
    go_enter Try.func33, Try.ntmps33
    go_wp2
    go_ret
    exact ⟨rfl, rfl⟩
  · rw [if_neg h]
    go_enter Try.func33, Try.ntmps33
    go_wp2
    go_ret
    exact ⟨rfl, rfl⟩

end Go.Proofs.Ytijmjpjclhgaoaa

namespace Go.Proofs.Ytijmjpjclhgaoaa
open Go.ChangeShapes Go.WideShapes Go.ChangeAt Go.RowKit
set_option linter.unusedVariables false

set_option maxHeartbeats 800000 in
set_option maxRecDepth 100000 in
theorem to_int_some (b off c : Nat) (xs : List Int) (w : World) (hn : xs.length ≤ 4194304) (h0 : 0 < xs.length) (hb : b < w.heap.size)
    (hA : ∀ j (hj : j < xs.length), w.cell? ⟨b, off + j, none⟩ = some (.int .i64 xs[j])) :
    Calls Try.prog 39 #[.slice (some ⟨b, off, none⟩) xs.length c] w fun e w' => ∃ v', e = .returned v' ∧ Row w' w.heap.size w'.heap.size v' (ints xs) ∧ Below w.heap.size w w' := by
  obtain ⟨i0, hi, hz0, hz1, hz2⟩ := info_parts info3
  have HA : Hid _ := hA
  clear hA
  go_enter Try.func39, Try.ntmps39
  go_wp2_with (at_make; refine wpList_make_full _ rfl _ _ 30 rfl w.heap.size 3 i0 (.int .i64 0) 1 Try.underlying30 hi hz0 hz1 .i64 .i64 _ _ xs.length rfl rfl rfl rfl (by rw [hz2]; omega) (by unfold maxLen; omega) (Nat.le_refl _) ?_; intro w1 hown hgrow)
  have hb1 : Below w.heap.size w w1 := (Below.refl _ _).grown hgrow (Nat.le_refl _) (fun k hk => by cases hk)
  have hgz : w.heap.size < w1.heap.size ∧ (∀ j, j < xs.length → ∃ x, w1.cell? ⟨w.heap.size, j, none⟩ = some (.int .i64 x)) ∧ ∀ j, w1.frozen? ⟨w.heap.size, j, none⟩ = false := by
    rcases own_cells hown with ⟨h, _⟩ | ⟨g, cap, hv, h1, h2, h3, h4, h5, h6, h7⟩
    · cases h
    · simp at hv
      obtain ⟨rfl, _⟩ := hv
      refine ⟨h2, fun j hj => ⟨0, ?_⟩, h7⟩
      have hl : j < (madeCells (Value.int .i64 0).cells (xs.length * 1)).toList.length := by omega
      rw [h6 j hl]
      have e : (madeCells (Value.int .i64 0).cells (xs.length * 1)).toList = List.replicate (xs.length * 1) (Value.int .i64 0) := toList_madeCells_one _ _
      simp only [e, List.getElem_replicate]
  clear hown hgrow
  obtain ⟨hgs, hg1, hg2⟩ := hgz
  have HG : Hid _ := hg1
  have HF : Hid _ := hg2
  clear hg1 hg2
  go_wp2
  go_loopw [4] (fun i wr => ∃ k : Nat, k ≤ xs.length ∧ i = .int .i64 k ∧ w.heap.size < wr.heap.size ∧ Below w.heap.size w wr ∧ Hid ((∀ j (hj : j < xs.length), j < k → wr.cell? ⟨w.heap.size, j, none⟩ = some (.int .i64 xs[j])) ∧ (∀ j, k ≤ j → j < xs.length → ∃ x, wr.cell? ⟨w.heap.size, j, none⟩ = some (.int .i64 x)) ∧ ∀ j, wr.frozen? ⟨w.heap.size, j, none⟩ = false)) (fun i _ => xs.length - (intOf i).toNat)
  case atStart => exact ⟨0, Nat.zero_le _, rfl, hgs, hb1, ⟨fun j _ hj => by omega, fun j _ hj => HG.out j hj, HF.out⟩⟩
  case round =>
    obtain ⟨k, hk, rfl, hgr, hbw, HS⟩ := hrel
    by_cases hlt : k < xs.length
    · obtain ⟨x, hx⟩ := HS.out.2.1 k (Nat.le_refl _) hlt
      have hz := HS.out.2.2 k
      have hlt' : (k : Int) < (xs.length : Int) := by omega
      have hr := (hbw.cell (p := ⟨b, off + k, none⟩) hb).trans (HA.out k hlt)
      obtain ⟨y, hy⟩ : ∃ y, xs[k] = y := ⟨_, rfl⟩
      rw [hy] at hr
      have HY : Hid _ := hy
      clear hy
      go_wp2
      go_roundw
      case rel =>
        refine ⟨k + 1, by omega, by go_num, by simp; omega, hbw.setCell (Nat.le_refl _) _, ⟨fun j hj hjk => ?_, fun j hj1 hj2 => ?_, fun j => ?_⟩⟩
        · by_cases ej : j = k
          · subst ej; refine (World.cell?_setCell_same _ _ _ hx).trans ?_; rw [HY.out]
          · rw [World.cell?_setCell_other _ _ _ _ (by simp <;> omega)]; exact HS.out.1 j hj (by omega)
        · rw [World.cell?_setCell_other _ _ _ _ (by simp <;> omega)]; exact HS.out.2.1 j (by omega) hj2
        · rw [World.frozen?_setCell]; exact HS.out.2.2 j
      case measure => simp [intOf]; omega
    · go_wp2
      go_ret
      refine ⟨.slice (some ⟨w.heap.size, 0, none⟩) xs.length xs.length, rfl, ⟨_, xs.length, by rw [ints_len], .inr ⟨w.heap.size, rfl, Nat.le_refl _, hgr, fun j hj => ?_, HS.out.2.2⟩⟩, hbw⟩
      rw [HS.out.1 j (by simpa using hj) (by simp at hj; omega)]
      simp

theorem to_int_zero (a : Option Addr) (c : Nat) (w : World) :
    Calls Try.prog 39 #[.slice a 0 c] w fun e w' => ∃ v', e = .returned v' ∧ Row w' w.heap.size w'.heap.size v' (ints []) ∧ Below w.heap.size w w' := by
  obtain ⟨i0, hi, hz0, hz1, hz2⟩ := info_parts info3
  go_enter Try.func39, Try.ntmps39
  go_wp2_with (at_make; refine wpList_make_full _ rfl _ _ 30 rfl w.heap.size 3 i0 (.int .i64 0) 1 Try.underlying30 hi hz0 hz1 .i64 .i64 _ _ 0 rfl rfl rfl rfl (by omega) (by unfold maxLen; omega) (Nat.le_refl _) ?_; intro w1 hown hgrow)
  have hb1 : Below w.heap.size w w1 := (Below.refl _ _).grown hgrow (Nat.le_refl _) (fun k hk => by cases hk)
  clear hown hgrow
  go_wp2
  go_loop [4] (fun i => i = .int .i64 0) (fun _ => 0)
  case atStart => rfl
  case round =>
    subst hrel
    go_wp2
    go_ret
    exact ⟨.slice (some ⟨w.heap.size, 0, none⟩) 0 0, rfl, ⟨_, 0, rfl, .inl rfl⟩, hb1⟩

theorem to_int (w : World) (v : Value) (xs : List Int) (hn : xs.length ≤ 4194304) (h : InRow w v xs) :
    Calls Try.prog 39 #[v] w fun e w' => ∃ v', e = .returned v' ∧ Row w' w.heap.size w'.heap.size v' (ints xs) ∧ Below w.heap.size w w' := by
  obtain ⟨a, cap, rfl, h⟩ := h
  rcases h with rfl | ⟨b, off, rfl, h1, h2⟩
  · exact to_int_zero a cap w
  · by_cases h0 : 0 < xs.length
    · exact to_int_some b off cap xs w hn h0 h1 h2
    · obtain rfl : xs = [] := List.length_eq_zero_iff.1 (by omega)
      exact to_int_zero _ cap w

end Go.Proofs.Ytijmjpjclhgaoaa

namespace Go.Proofs.Ytijmjpjclhgaoaa
open Go.ChangeShapes Go.WideShapes Go.ChangeAt Go.RowKit
set_option linter.unusedVariables false

theorem Row.set_below {w : World} {lo hi : Nat} {v : Value} {xs : List Value} (h : Row w lo hi v xs) (p : Addr) (x : Value) (hp : p.block < lo) : Row (w.setCell p x) lo hi v xs := by
  obtain ⟨a, cap, hv, h⟩ := h
  refine ⟨a, cap, hv, ?_⟩
  rcases h with h | ⟨g, ha, h1, h2, h3, h4⟩
  · exact .inl h
  · exact .inr ⟨g, ha, h1, h2, fun j hj => by rw [World.cell?_setCell_other _ _ _ _ (by intro e; rw [e] at hp; simp at hp; omega)]; exact h3 j hj, fun j => by rw [World.frozen?_setCell]; exact h4 j⟩
theorem Row.lo {w : World} {lo lo' hi : Nat} {v : Value} {xs : List Value} (h : Row w lo hi v xs) (hb : lo' ≤ lo) : Row w lo' hi v xs := by
  obtain ⟨a, cap, hv, h⟩ := h
  refine ⟨a, cap, hv, ?_⟩
  rcases h with h | ⟨g, ha, h1, h2, h3⟩
  · exact .inl h
  · exact .inr ⟨g, ha, by omega, h2, h3⟩
theorem Row.alloc {w : World} {lo hi : Nat} {v : Value} {xs : List Value} (h : Row w lo hi v xs) (hh : hi ≤ w.heap.size) (o : Obj) : Row (w.alloc o) lo hi v xs :=
  h.below ((Below.refl _ _).alloc hh o)

theorem Row.form {w : World} {lo hi : Nat} {v : Value} {xs : List Int} (h : Row w lo hi v (ints xs)) : ∃ a c, v = .slice a xs.length c := by
  obtain ⟨a, c, rfl, _⟩ := h
  exact ⟨a, c, by rw [ints_len]⟩
theorem Row.mform {w : World} {lo hi : Nat} {v : Value} {k0 n : Nat} (h : Row w lo hi v (imarks k0 n)) : ∃ a c, v = .slice a n c := by
  obtain ⟨a, c, rfl, _⟩ := h
  exact ⟨a, c, by rw [imarks_len]⟩

end Go.Proofs.Ytijmjpjclhgaoaa

namespace Go.Proofs.Ytijmjpjclhgaoaa
open Go.ChangeShapes Go.WideShapes Go.ChangeAt Go.RowKit
set_option linter.unusedVariables false

structure Kp (bs : List Nat) (w w' : World) : Prop where
  os : w'.os = w.os
  tape : w'.tape = w.tape
  output : w'.output = w.output
  size : w.heap.size ≤ w'.heap.size
  block : ∀ k, k < w.heap.size → ¬ k ∈ bs → w'.heap[k]? = w.heap[k]?
theorem Kp.refl (bs : List Nat) (w : World) : Kp bs w w := ⟨rfl, rfl, rfl, Nat.le_refl _, fun _ _ _ => rfl⟩
theorem Kp.trans {bs : List Nat} {a b c : World} (h : Kp bs a b) (k : Kp bs b c) : Kp bs a c :=
  ⟨k.os.trans h.os, k.tape.trans h.tape, k.output.trans h.output, Nat.le_trans h.size k.size, fun x hx hn => (k.block x (Nat.lt_of_lt_of_le hx h.size) hn).trans (h.block x hx hn)⟩
theorem Kp.of_below {bs : List Nat} {w w' : World} (h : Below w.heap.size w w') : Kp bs w w' := ⟨h.os, h.tape, h.output, h.size, fun k hk _ => h.block k hk⟩
theorem Kp.drew {bs : List Nat} {w w' : World} (h : Kp bs w w') : Kp bs w w'.drew := ⟨h.os, h.tape, h.output, h.size, h.block⟩
theorem Kp.alloc {bs : List Nat} {w w' : World} (h : Kp bs w w') (o : Obj) : Kp bs w (w'.alloc o) :=
  ⟨h.os, h.tape, h.output, by have := h.size; simp; omega, fun k hk hn => (Below.heap_alloc _ _ _ (Nat.lt_of_lt_of_le hk h.size)).trans (h.block k hk hn)⟩
theorem Kp.setCell {bs : List Nat} {w w' : World} {b f : Nat} {v : Value} (h : Kp bs w w') (hb : b ∈ bs ∨ w.heap.size ≤ b) : Kp bs w (w'.setCell ⟨b, f, none⟩ v) :=
  ⟨h.os, h.tape, h.output, by have := h.size; simpa using this, fun k hk hn => (Below.heap_setCell _ _ _ _ (by
    show k ≠ b
    rcases hb with hb | hb
    · intro e; exact hn (e ▸ hb)
    · omega)).trans (h.block k hk hn)⟩
theorem Kp.cell {bs : List Nat} {w w' : World} (h : Kp bs w w') {b o : Nat} {x : Option Value} (hb : b < w.heap.size) (hn : ¬ b ∈ bs) (hx : w.cell? ⟨b, o, none⟩ = x) : w'.cell? ⟨b, o, none⟩ = x :=
  (World.cell?_of_block (a := ⟨b, o, none⟩) (h.block b hb hn)).trans hx
theorem Kp.frozen {bs : List Nat} {w w' : World} (h : Kp bs w w') {b o : Nat} {x : Bool} (hb : b < w.heap.size) (hn : ¬ b ∈ bs) (hx : w.frozen? ⟨b, o, none⟩ = x) : w'.frozen? ⟨b, o, none⟩ = x :=
  (World.frozen?_of_block (a := ⟨b, o, none⟩) (h.block b hb hn)).trans hx
theorem Kp.below {bs : List Nat} {w w' : World} {B : Nat} (h : Kp bs w w') (hB : B ≤ w.heap.size) (hb : ∀ k ∈ bs, B ≤ k) : Below B w w' :=
  ⟨h.os, h.tape, h.output, h.size, fun k hk => h.block k (by omega) (fun hm => by have := hb k hm; omega)⟩
theorem Kp.row {bs : List Nat} {w w' : World} {lo hi : Nat} {v : Value} {xs : List Value} (h : Kp bs w w') (r : Row w lo hi v xs) (hz : hi ≤ w.heap.size) (hb : ∀ k ∈ bs, k < lo ∨ hi ≤ k) : Row w' lo hi v xs := by
  obtain ⟨a, cap, hv, r⟩ := r
  refine ⟨a, cap, hv, ?_⟩
  rcases r with r | ⟨g, ha, h1, h2, h3, h4⟩
  · exact .inl r
  · have hg : ¬ g ∈ bs := fun hm => by have := hb g hm; omega
    exact .inr ⟨g, ha, h1, h2, fun j hj => h.cell (by omega) hg (h3 j hj), fun j => h.frozen (by omega) hg (h4 j)⟩
theorem Kp.own {bs : List Nat} {w w' : World} {base : Nat} {e : TypeId} {size : Nat} {g c : Nat} {n : Nat} {xs : List Value} (h : Kp bs w w') (o : w.ownsRow base e size (.slice (some ⟨g, 0, none⟩) n c) n xs) (hg : ¬ g ∈ bs) : w'.ownsRow base e size (.slice (some ⟨g, 0, none⟩) n c) n xs := by
  refine ⟨o.1, ?_⟩
  rcases o.2 with ⟨hn, -⟩ | ⟨g', cap, cur, hv, hbg, hgg, rest⟩
  · cases hn
  · simp at hv
    obtain ⟨rfl, rfl⟩ := hv
    exact .inr ⟨g, c, cur, rfl, hbg, by rw [h.block g (Array.getElem?_eq_some_iff.1 hgg).1 hg]; exact hgg, rest⟩
theorem Kp.of_grown {w w' : World} {g : Nat} (h : w.grownBy w' (some g)) : Kp [g] w w' :=
  ⟨h.os, h.tape, h.output, h.size, fun k hk hn => h.block k hk (fun e => hn (by simp at e; simp [e]))⟩
theorem Kp.more {bs cs : List Nat} {w w' : World} (h : Kp bs w w') (hs : ∀ k ∈ bs, k ∈ cs ∨ w.heap.size ≤ k) : Kp cs w w' :=
  ⟨h.os, h.tape, h.output, h.size, fun k hk hn => h.block k hk (fun hm => by
    rcases hs k hm with h | h
    · exact hn h
    · omega)⟩
theorem cells10 {w : World} {B : Nat} {x0 x1 x2 x3 x4 x5 x6 x7 x8 x9 y0 y1 y2 y3 y4 y5 y6 y7 y8 y9 : Value} (h : ∀ o, w.cell? ⟨B, o, none⟩ = #[y0, y1, y2, y3, y4, y5, y6, y7, y8, y9][o]?) : ∀ o, ((((((((((w.setCell ⟨B, 0, none⟩ x0).setCell ⟨B, 1, none⟩ x1).setCell ⟨B, 2, none⟩ x2).setCell ⟨B, 3, none⟩ x3).setCell ⟨B, 4, none⟩ x4).setCell ⟨B, 5, none⟩ x5).setCell ⟨B, 6, none⟩ x6).setCell ⟨B, 7, none⟩ x7).setCell ⟨B, 8, none⟩ x8).setCell ⟨B, 9, none⟩ x9).cell? ⟨B, o, none⟩ = #[x0, x1, x2, x3, x4, x5, x6, x7, x8, x9][o]? := by
  intro o
  rcases o with _ | _ | _ | _ | _ | _ | _ | _ | _ | _ | o
  all_goals simp [go_sem, h]

end Go.Proofs.Ytijmjpjclhgaoaa

namespace Go.Proofs.Ytijmjpjclhgaoaa
open Go.ChangeShapes Go.WideShapes Go.ChangeAt Go.RowKit
set_option linter.unusedVariables false

structure St (w : World) (cs : List (Nat × Nat × Value)) (rs : List (Nat × Nat × Value × List Value)) (W : World) : Prop where
  below : Below w.heap.size w W
  cells : ∀ b o v, (b, o, v) ∈ cs → b < W.heap.size ∧ W.cell? ⟨b, o, none⟩ = some v
  rows : ∀ lo hi v xs, (lo, hi, v, xs) ∈ rs → hi ≤ W.heap.size ∧ Row W lo hi v xs
theorem St.start (w : World) : St w [] [] w := ⟨Below.refl _ _, fun _ _ _ h => (by cases h), fun _ _ _ _ h => (by cases h)⟩
theorem St.grow {w W W1 : World} {cs : List (Nat × Nat × Value)} {rs : List (Nat × Nat × Value × List Value)} (h : St w cs rs W) (b : Below W.heap.size W W1) : St w cs rs W1 :=
  ⟨h.below.trans (b.mono h.below.size), fun x o v hm => ⟨Nat.lt_of_lt_of_le (h.cells x o v hm).1 b.size, below_cell b (h.cells x o v hm).1 (h.cells x o v hm).2⟩,
    fun lo hi v xs hm => ⟨Nat.le_trans (h.rows lo hi v xs hm).1 b.size, (h.rows lo hi v xs hm).2.below (b.mono (h.rows lo hi v xs hm).1)⟩⟩
theorem St.drew {w W : World} {cs : List (Nat × Nat × Value)} {rs : List (Nat × Nat × Value × List Value)} (h : St w cs rs W) : St w cs rs W.drew := h.grow (Below.refl _ _).drew
theorem St.alloc {w W : World} {cs : List (Nat × Nat × Value)} {rs : List (Nat × Nat × Value × List Value)} (h : St w cs rs W) (o : Obj) : St w cs rs (W.alloc o) := h.grow ((Below.refl _ _).alloc (Nat.le_refl _) _)
theorem St.box {w W : World} {cs : List (Nat × Nat × Value)} {rs : List (Nat × Nat × Value × List Value)} (h : St w cs rs W) (x : Value) (T : TypeId) : St w ((W.heap.size, 0, x) :: cs) rs (W.alloc (.cells #[x] T)) := by
  refine ⟨(h.alloc _).below, fun b o v hm => ?_, (h.alloc _).rows⟩
  rcases List.mem_cons.1 hm with e | hm
  · simp at e
    obtain ⟨rfl, rfl, rfl⟩ := e
    exact ⟨by simp, by simp⟩
  · exact (h.alloc _).cells b o v hm
theorem St.box4 {w W : World} {cs : List (Nat × Nat × Value)} {rs : List (Nat × Nat × Value × List Value)} (h : St w cs rs W) (x0 x1 x2 x3 : Value) (T : TypeId) : St w ((W.heap.size, 0, x0) :: (W.heap.size, 1, x1) :: (W.heap.size, 2, x2) :: (W.heap.size, 3, x3) :: cs) rs (W.alloc (.cells #[x0, x1, x2, x3] T)) := by
  refine ⟨(h.alloc _).below, fun b o v hm => ?_, (h.alloc _).rows⟩
  simp only [List.mem_cons, Prod.mk.injEq] at hm
  rcases hm with ⟨rfl, rfl, rfl⟩ | ⟨rfl, rfl, rfl⟩ | ⟨rfl, rfl, rfl⟩ | ⟨rfl, rfl, rfl⟩ | hm
  iterate 4 exact ⟨by simp, by simp⟩
  exact (h.alloc _).cells b o v hm
theorem St.row {w W : World} {cs : List (Nat × Nat × Value)} {rs : List (Nat × Nat × Value × List Value)} (h : St w cs rs W) {lo hi : Nat} {x : Value} {ys : List Value} (hz : hi ≤ W.heap.size) (r : Row W lo hi x ys) : St w cs ((lo, hi, x, ys) :: rs) W := by
  refine ⟨h.below, h.cells, fun l k v xs hm => ?_⟩
  rcases List.mem_cons.1 hm with e | hm
  · simp at e
    obtain ⟨rfl, rfl, rfl, rfl⟩ := e
    exact ⟨hz, r⟩
  · exact h.rows l k v xs hm
theorem St.less {w W : World} {cs cs' : List (Nat × Nat × Value)} {rs rs' : List (Nat × Nat × Value × List Value)} (h : St w cs rs W) (h1 : ∀ x ∈ cs', x ∈ cs) (h2 : ∀ x ∈ rs', x ∈ rs) : St w cs' rs' W :=
  ⟨h.below, fun b o v hm => h.cells b o v (h1 _ hm), fun lo hi v xs hm => h.rows lo hi v xs (h2 _ hm)⟩
theorem St.mark {w W W1 : World} {cs : List (Nat × Nat × Value)} {rs rs' : List (Nat × Nat × Value × List Value)} (h : St w cs rs W) {lo hi : Nat} {x : Value} {ys : List Value} (o : Out lo hi W W1) (hz : hi ≤ W.heap.size) (r : Row W1 lo hi x ys)
    (hl : w.heap.size ≤ lo) (h1 : ∀ b o v, (b, o, v) ∈ cs → b < lo ∨ hi ≤ b) (h2 : ∀ l k v xs, (l, k, v, xs) ∈ rs' → k ≤ lo ∨ hi ≤ l) (h3 : ∀ y ∈ rs', y ∈ rs) : St w cs ((lo, hi, x, ys) :: rs') W1 := by
  refine St.row ⟨h.below.trans (o.below hl h.below.size), fun b f v hm => ⟨Nat.lt_of_lt_of_le (h.cells b f v hm).1 o.size, o.cell (h.cells b f v hm).1 (h1 b f v hm) (h.cells b f v hm).2⟩, fun l k v xs hm => ?_⟩ (Nat.le_trans hz o.size) r
  have := h.rows l k v xs (h3 _ hm)
  exact ⟨Nat.le_trans this.1 o.size, this.2.out o this.1 (h2 l k v xs hm)⟩
theorem St.get {w W : World} {cs : List (Nat × Nat × Value)} {rs : List (Nat × Nat × Value × List Value)} (h : St w cs rs W) {b o : Nat} {v : Value} (hm : (b, o, v) ∈ cs) : W.cell? ⟨b, o, none⟩ = some v := (h.cells b o v hm).2
theorem St.lt {w W : World} {cs : List (Nat × Nat × Value)} {rs : List (Nat × Nat × Value × List Value)} (h : St w cs rs W) {b o : Nat} {v : Value} (hm : (b, o, v) ∈ cs) : b < W.heap.size := (h.cells b o v hm).1
theorem St.at {w W : World} {cs : List (Nat × Nat × Value)} {rs : List (Nat × Nat × Value × List Value)} (h : St w cs rs W) {lo hi : Nat} {v : Value} {xs : List Value} (hm : (lo, hi, v, xs) ∈ rs) : hi ≤ W.heap.size ∧ Row W lo hi v xs := h.rows lo hi v xs hm
theorem and_mk {P Q : World → Prop} (h : ∀ W, P W → Q W) {W : World} (p : P W) : P W ∧ Q W := ⟨p, h W p⟩
theorem St.pack {w W : World} {cs : List (Nat × Nat × Value)} {rs : List (Nat × Nat × Value × List Value)} (h : St w cs rs W) : ∃ P : World → Prop, P W ∧ (∀ X, P X → P X.drew) ∧ (∀ X Y, P X → Below X.heap.size X Y → P Y) ∧ ∀ X, P X → St w cs rs X :=
  ⟨St w cs rs, h, fun _ p => p.drew, fun _ _ p b => p.grow b, fun _ p => p⟩
theorem St.front1 {w W : World} {cs : List (Nat × Nat × Value)} {a b : Nat × Nat × Value × List Value} {rs : List (Nat × Nat × Value × List Value)} (h : St w cs (a :: b :: rs) W) : St w cs (b :: a :: rs) W :=
  h.less (fun _ h => h) (fun x hx => by simp only [List.mem_cons] at hx ⊢; rcases hx with h | h | h <;> simp [h])
theorem St.front2 {w W : World} {cs : List (Nat × Nat × Value)} {a b c : Nat × Nat × Value × List Value} {rs : List (Nat × Nat × Value × List Value)} (h : St w cs (a :: b :: c :: rs) W) : St w cs (c :: a :: b :: rs) W :=
  h.less (fun _ h => h) (fun x hx => by simp only [List.mem_cons] at hx ⊢; rcases hx with h | h | h | h <;> simp [h])
theorem St.mark1 {w W W1 : World} {cs : List (Nat × Nat × Value)} {rs : List (Nat × Nat × Value × List Value)} {lo hi : Nat} {x : Value} {ys zs : List Value} (h : St w cs ((lo, hi, x, ys) :: rs) W) (o : Out lo hi W W1) (r : Row W1 lo hi x zs)
    (hl : w.heap.size ≤ lo) (h1 : ∀ b o v, (b, o, v) ∈ cs → b < lo ∨ hi ≤ b) (h2 : ∀ l k v xs, (l, k, v, xs) ∈ rs → k ≤ lo ∨ hi ≤ l) : St w cs ((lo, hi, x, zs) :: rs) W1 :=
  h.mark o (h.rows _ _ _ _ (List.mem_cons_self ..)).1 r hl h1 h2 (fun y hy => List.mem_cons_of_mem _ hy)
theorem below_step {W X Y : World} (h : Below W.heap.size W X) (b : Below X.heap.size X Y) : Below W.heap.size W Y := h.trans (b.mono h.size)
theorem below_al {W X : World} (h : Below W.heap.size W X) (o : Obj) : Below W.heap.size W (X.alloc o) := h.alloc h.size o
theorem below_st {W X : World} {n f : Nat} {v : Value} (h : Below W.heap.size W X) (hn : W.heap.size ≤ n) : Below W.heap.size W (X.setCell ⟨n, f, none⟩ v) := h.setCell hn v
theorem St.put {w W : World} {cs : List (Nat × Nat × Value)} {rs : List (Nat × Nat × Value × List Value)} (h : St w cs rs W) {n : Nat} {u v : Value} (hc : W.cell? ⟨n, 0, none⟩ = some u) (hw : w.heap.size ≤ n) (h1 : ∀ b o v, (b, o, v) ∈ cs → b ≠ n) (h2 : ∀ lo hi v xs, (lo, hi, v, xs) ∈ rs → n < lo ∨ hi ≤ n) :
    St w ((n, 0, v) :: cs) rs (W.setCell ⟨n, 0, none⟩ v) := by
  have hn : n < W.heap.size := by
    by_cases hlt : n < W.heap.size
    · exact hlt
    · simp [World.cell?, hlt] at hc
  refine ⟨h.below.setCell hw v, fun b o x hm => ?_, fun lo hi x xs hm => ?_⟩
  · rcases List.mem_cons.1 hm with e | hm
    · simp at e
      obtain ⟨rfl, rfl, rfl⟩ := e
      exact ⟨by simpa using hn, World.cell?_setCell_same _ _ _ hc⟩
    · exact ⟨by simpa using (h.cells b o x hm).1, by rw [World.cell?_setCell_other _ _ _ _ (by intro e; simp at e; exact h1 b o x hm e.1.symm)]; exact (h.cells b o x hm).2⟩
  · have hr := h.rows lo hi x xs hm
    refine ⟨by simpa using hr.1, ?_⟩
    refine hr.2.out (lo := n) (hi := n + 1) ⟨rfl, rfl, rfl, by simp, fun k hk hne => Below.heap_setCell _ _ _ _ (by show k ≠ n; omega)⟩ hr.1 ?_
    have := h2 lo hi x xs hm
    omega

end Go.Proofs.Ytijmjpjclhgaoaa

namespace Go.Proofs.Ytijmjpjclhgaoaa
open Go.ChangeShapes Go.WideShapes Go.ChangeAt Go.RowKit
set_option linter.unusedVariables false

def Got (w W : World) (L : List Int) (cs : List (Nat × Nat × Value)) (rs : List (Nat × Nat × Value × List Value)) (s : Value) (wc : World) : Prop :=
  ∃ n a k lo hi, s = .pointer (some ⟨n, 0, none⟩) ∧ W.heap.size ≤ n ∧ W.heap.size ≤ lo ∧ (n < lo ∨ hi ≤ n) ∧ n < wc.heap.size ∧ lo ≤ wc.heap.size ∧ W.heap.size ≤ wc.heap.size ∧ St w ((n, 0, .slice a L.length k) :: cs) ((lo, hi, .slice a L.length k, ints L) :: rs) wc
theorem got_last {w W w2 : World} {L : List Int} {cs : List (Nat × Nat × Value)} {rs : List (Nat × Nat × Value × List Value)} {a : Option Addr} {k lo : Nat} (T : TypeId) (h : St w cs rs W) (hb : Below W.heap.size W w2) (hlo : W.heap.size ≤ lo) (hl2 : lo ≤ w2.heap.size) (r : Row w2 lo w2.heap.size (.slice a L.length k) (ints L)) :
    Got w W L cs rs (.pointer (some ⟨w2.heap.size, 0, none⟩)) (w2.alloc (.cells #[.slice a L.length k] T)) :=
  ⟨w2.heap.size, a, k, lo, w2.heap.size, rfl, hb.size, hlo, .inr (Nat.le_refl _), by simp, by simp; omega, by have := hb.size; simp; omega, ((h.grow hb).row (Nat.le_refl _) r).box _ _⟩
theorem got_put {w W w2 : World} {L : List Int} {cs : List (Nat × Nat × Value)} {rs : List (Nat × Nat × Value × List Value)} {a : Option Addr} {k lo n : Nat} {u : Value} (h : St w cs rs W) (hb : Below W.heap.size W w2) (hlo : n < lo) (hl2 : lo ≤ w2.heap.size) (hn : W.heap.size ≤ n) (hc : w2.cell? ⟨n, 0, none⟩ = some u) (r : Row w2 lo w2.heap.size (.slice a L.length k) (ints L)) :
    Got w W L cs rs (.pointer (some ⟨n, 0, none⟩)) (w2.setCell ⟨n, 0, none⟩ (.slice a L.length k)) :=
  ⟨n, a, k, lo, w2.heap.size, rfl, hn, by omega, .inl hlo, by simp; omega, by simp; omega, by have := hb.size; simp; omega, ((h.grow hb).row (Nat.le_refl _) r).put hc (Nat.le_trans h.below.size hn) (fun b o v hm e => by have := (h.cells b o v hm).1; omega) (fun l q v xs hm => by
    rcases List.mem_cons.1 hm with e | hm
    · simp at e
      obtain ⟨rfl, rfl, -, -⟩ := e
      exact .inl hlo
    · have := (h.rows l q v xs hm).1
      exact .inr (by omega))⟩

end Go.Proofs.Ytijmjpjclhgaoaa

namespace Go.Proofs.Ytijmjpjclhgaoaa
open Go.ChangeShapes Go.WideShapes Go.ChangeAt Go.RowKit
set_option linter.unusedVariables false

def Rw (w : World) (lo hi : Nat) (v : Value) (n : Nat) (xs : List Value) : Prop :=
  ∃ a cap, v = .slice a n cap ∧ n ≤ cap ∧ (xs = [] ∨ ∃ g, a = some ⟨g, 0, none⟩ ∧ lo ≤ g ∧ g < hi ∧ (∀ j (hj : j < xs.length), w.cell? ⟨g, j, none⟩ = some xs[j]) ∧ ∀ j, w.frozen? ⟨g, j, none⟩ = false)
def gones (L : List (Int × Int)) : List Value := L.flatMap fun p => [Value.int .i64 p.1, Value.int .i64 p.2]
theorem gones_nil : gones [] = [] := rfl
theorem gones_cons (p : Int × Int) (L : List (Int × Int)) : gones (p :: L) = .int .i64 p.1 :: .int .i64 p.2 :: gones L := rfl
theorem gones_app (L M : List (Int × Int)) : gones (L ++ M) = gones L ++ gones M := by simp [gones]
theorem gones_len (L : List (Int × Int)) : (gones L).length = L.length * 2 := by
  induction L with
  | nil => rfl
  | cons p L ih => rw [gones_cons]; simp [ih]; omega
theorem gones_at (L : List (Int × Int)) (j : Nat) (hj : j < L.length) : (gones L)[j * 2]? = some (.int .i64 L[j].1) ∧ (gones L)[j * 2 + 1]? = some (.int .i64 L[j].2) := by
  induction L generalizing j with
  | nil => simp at hj
  | cons p L ih =>
    cases j with
    | zero => simp [gones_cons]
    | succ j =>
      have := ih j (by simpa using hj)
      have e : (j + 1) * 2 = j * 2 + 2 := by omega
      rw [gones_cons, e]
      simpa using this
theorem gones_drop (L : List (Int × Int)) (k : Nat) : gones (L.drop k) = (gones L).drop (k * 2) := by
  induction L generalizing k with
  | nil => simp [gones]
  | cons p L ih =>
    cases k with
    | zero => simp
    | succ k =>
      have e : (k + 1) * 2 = k * 2 + 2 := by omega
      rw [gones_cons, e]
      simpa using ih k
theorem gones_one (L : List (Int × Int)) : ∀ v ∈ gones L, v.oneCell' = true := by
  intro v hv
  simp [gones] at hv
  obtain ⟨a, b, _, rfl | rfl⟩ := hv <;> rfl
theorem ints_one (xs : List Int) : ∀ v ∈ ints xs, v.oneCell' = true := by
  intro v hv
  simp at hv
  obtain ⟨a, _, rfl⟩ := hv
  rfl
/- a fact that hangs on the blocks from lo to hi alone -/
def Loc (lo hi : Nat) (P : World → Prop) : Prop := ∀ w w' : World, P w → (∀ k, lo ≤ k → k < hi → w'.heap[k]? = w.heap[k]?) → P w'
theorem Rw.loc (lo hi : Nat) (v : Value) (n : Nat) (xs : List Value) : Loc lo hi (fun w => Rw w lo hi v n xs) := by
  rintro w w' ⟨a, cap, hv, hcp, h⟩ hk
  refine ⟨a, cap, hv, hcp, ?_⟩
  rcases h with h | ⟨g, ha, h1, h2, h3, h4⟩
  · exact .inl h
  · exact .inr ⟨g, ha, h1, h2, fun j hj => (World.cell?_of_block (a := ⟨g, j, none⟩) (hk g h1 h2)).trans (h3 j hj), fun j => (World.frozen?_of_block (a := ⟨g, j, none⟩) (hk g h1 h2)).trans (h4 j)⟩
theorem Row.loc (lo hi : Nat) (v : Value) (xs : List Value) : Loc lo hi (fun w => Row w lo hi v xs) := by
  rintro w w' ⟨a, cap, hv, h⟩ hk
  refine ⟨a, cap, hv, ?_⟩
  rcases h with h | ⟨g, ha, h1, h2, h3, h4⟩
  · exact .inl h
  · exact .inr ⟨g, ha, h1, h2, fun j hj => (World.cell?_of_block (a := ⟨g, j, none⟩) (hk g h1 h2)).trans (h3 j hj), fun j => (World.frozen?_of_block (a := ⟨g, j, none⟩) (hk g h1 h2)).trans (h4 j)⟩
theorem Rw.below {w w' : World} {lo hi : Nat} {v : Value} {n : Nat} {xs : List Value} (h : Rw w lo hi v n xs) (hb : Below hi w w') : Rw w' lo hi v n xs := Rw.loc lo hi v n xs w w' h (fun k _ hk => hb.block k hk)
theorem Rw.wide {w : World} {lo hi lo' hi' : Nat} {v : Value} {n : Nat} {xs : List Value} (h : Rw w lo hi v n xs) (h1 : lo' ≤ lo) (h2 : hi ≤ hi') : Rw w lo' hi' v n xs := by
  obtain ⟨a, cap, hv, hcp, h⟩ := h
  refine ⟨a, cap, hv, hcp, ?_⟩
  rcases h with h | ⟨g, ha, g1, g2, h3⟩
  · exact .inl h
  · exact .inr ⟨g, ha, by omega, by omega, h3⟩
theorem Row.wide {w : World} {lo hi lo' hi' : Nat} {v : Value} {xs : List Value} (h : Row w lo hi v xs) (h1 : lo' ≤ lo) (h2 : hi ≤ hi') : Row w lo' hi' v xs := (h.lo h1).up h2
theorem Rw.form {w : World} {lo hi : Nat} {v : Value} {n : Nat} {xs : List Value} (h : Rw w lo hi v n xs) : ∃ a c, v = .slice a n c ∧ n ≤ c := by
  obtain ⟨a, c, rfl, hcp, _⟩ := h
  exact ⟨a, c, rfl, hcp⟩
theorem Rw.nil (w : World) (lo hi : Nat) (a : Option Addr) (n c : Nat) (h : n ≤ c) : Rw w lo hi (.slice a n c) n [] := ⟨a, c, rfl, h, .inl rfl⟩
theorem Rw.out {w w' : World} {lo hi l2 h2 : Nat} {v : Value} {n : Nat} {xs : List Value} (r : Rw w l2 h2 v n xs) (h : Out lo hi w w') (hz : h2 ≤ w.heap.size) (hn : h2 ≤ lo ∨ hi ≤ l2) : Rw w' l2 h2 v n xs :=
  Rw.loc l2 h2 v n xs w w' r (fun k k1 k2 => h.block k (by omega) (by omega))
theorem own_cells2 {w : World} {base : Nat} {e : TypeId} {v : Value} {n size : Nat} {xs : List Value} (h : w.ownsRow base e size v n xs) :
    (v = .slice none 0 0 ∧ n = 0 ∧ xs = []) ∨ ∃ g cap, v = .slice (some ⟨g, 0, none⟩) n cap ∧ base ≤ g ∧ g < w.heap.size ∧ n ≤ cap ∧ cap ≤ maxLen ∧ xs.length = n * size ∧ (∀ j (hj : j < xs.length), w.cell? ⟨g, j, none⟩ = some xs[j]) ∧ (∀ j, w.frozen? ⟨g, j, none⟩ = false) := by
  rcases h.2 with ⟨rfl, hn⟩ | ⟨g, cap, cur, rfl, hbg, hgg, hnc, hcm, hcs, htk⟩
  · exact .inl ⟨rfl, hn, List.length_eq_zero_iff.1 (by rw [h.1, hn]; simp)⟩
  · refine .inr ⟨g, cap, rfl, hbg, (Array.getElem?_eq_some_iff.1 hgg).1, hnc, hcm, h.1, fun j hj => ?_, fun j => ?_⟩
    · have := h.cells (g := g) rfl j xs[j] (List.getElem?_eq_getElem hj)
      have hadd : (⟨g, 0, none⟩ : Addr).add j = ⟨g, j, none⟩ := by unfold Addr.add; split <;> simp_all
      rwa [hadd] at this
    · simp [World.frozen?, hgg]
theorem Rw.of_owns {w : World} {base : Nat} {e : TypeId} {v : Value} {n size : Nat} {xs : List Value} (h : w.ownsRow base e size v n xs) : Rw w base w.heap.size v n xs := by
  rcases own_cells2 h with ⟨rfl, rfl, rfl⟩ | ⟨g, cap, rfl, h1, h2, h3, h4, h5, h6, h7⟩
  · exact ⟨none, 0, rfl, Nat.le_refl _, .inl rfl⟩
  · exact ⟨_, cap, rfl, h3, .inr ⟨g, rfl, h1, h2, h6, h7⟩⟩
/- a row of pairs that came in, or that is only read -/
def PIn (w : World) (v : Value) (L : List (Int × Int)) : Prop :=
  ∃ a cap, v = .slice a L.length cap ∧ L.length ≤ cap ∧ (L = [] ∨ ∃ b off, a = some ⟨b, off, none⟩ ∧ b < w.heap.size ∧ ∀ j (hj : j < L.length), w.cell? ⟨b, off + j * 2, none⟩ = some (.int .i64 L[j].1) ∧ w.cell? ⟨b, off + j * 2 + 1, none⟩ = some (.int .i64 L[j].2))
theorem PIn.below {w w' : World} {v : Value} {L : List (Int × Int)} (h : PIn w v L) (hb : Below w.heap.size w w') : PIn w' v L := by
  obtain ⟨a, cap, hv, hcp, h⟩ := h
  refine ⟨a, cap, hv, hcp, ?_⟩
  rcases h with h | ⟨b, off, ha, h1, h2⟩
  · exact .inl h
  · exact .inr ⟨b, off, ha, Nat.lt_of_lt_of_le h1 hb.size, fun j hj => ⟨(hb.cell (p := ⟨b, off + j * 2, none⟩) h1).trans (h2 j hj).1, (hb.cell (p := ⟨b, off + j * 2 + 1, none⟩) h1).trans (h2 j hj).2⟩⟩
theorem Rw.pin {w : World} {lo hi : Nat} {v : Value} {L : List (Int × Int)} (h : Rw w lo hi v L.length (gones L)) (hz : hi ≤ w.heap.size) : PIn w v L := by
  obtain ⟨a, cap, hv, hcp, h⟩ := h
  refine ⟨a, cap, hv, hcp, ?_⟩
  rcases h with h | ⟨g, ha, g1, g2, h3, h4⟩
  · exact .inl (List.length_eq_zero_iff.1 (by have := congrArg List.length h; rw [gones_len] at this; simp only [List.length_nil] at this; omega))
  · refine .inr ⟨g, 0, ha, by omega, fun j hj => ?_⟩
    have l := gones_len L
    have e := gones_at L j hj
    have e1 : j * 2 < (gones L).length := by omega
    have e2 : j * 2 + 1 < (gones L).length := by omega
    rw [List.getElem?_eq_getElem e1, List.getElem?_eq_getElem e2] at e
    simp only [Nat.zero_add]
    exact ⟨(h3 _ e1).trans e.1, (h3 _ e2).trans e.2⟩
theorem Row.inrow {w : World} {lo hi : Nat} {v : Value} {xs : List Int} (h : Row w lo hi v (ints xs)) (hz : hi ≤ w.heap.size) : InRow w v xs := by
  obtain ⟨a, cap, hv, h⟩ := h
  refine ⟨a, cap, by rw [hv, ints_len], ?_⟩
  rcases h with h | ⟨g, ha, g1, g2, h3, h4⟩
  · exact .inl (by simpa using h)
  · refine .inr ⟨g, 0, ha, by omega, fun j hj => ?_⟩
    have := h3 j (by simpa using hj)
    rw [List.getElem_map] at this
    simpa using this
/- epochs: the two rows of a struct of them -/
def Apart (p l : Value) (n m : Nat) : Prop := 0 < n → 0 < m → p.ownBlock ≠ l.ownBlock
structure AR (lo hi : Nat) (p l : Value) (ps : List Int) (L : List (Int × Int)) (W : World) : Prop where
  pins : Row W lo hi p (ints ps)
  limbo : Rw W lo hi l L.length (gones L)
  apart : Apart p l ps.length L.length
structure AM (lo hi : Nat) (p l : Value) (k0 n m : Nat) (W : World) : Prop where
  pins : Row W lo hi p (imarks k0 n)
  limbo : Rw W lo hi l m (imarks (k0 + n) (m * 2))
structure AIn (w : World) (p l : Value) (ps : List Int) (L : List (Int × Int)) : Prop where
  pins : InRow w p ps
  limbo : PIn w l L
theorem AIn.below {w w' : World} {p l : Value} {ps : List Int} {L : List (Int × Int)} (h : AIn w p l ps L) (hb : Below w.heap.size w w') : AIn w' p l ps L := ⟨h.pins.below hb, h.limbo.below hb⟩
theorem AR.loc (lo hi : Nat) (p l : Value) (ps : List Int) (L : List (Int × Int)) : Loc lo hi (AR lo hi p l ps L) :=
  fun w w' h hk => ⟨Row.loc _ _ _ _ w w' h.pins hk, Rw.loc _ _ _ _ _ w w' h.limbo hk, h.apart⟩
theorem AM.loc (lo hi : Nat) (p l : Value) (k0 n m : Nat) : Loc lo hi (AM lo hi p l k0 n m) :=
  fun w w' h hk => ⟨Row.loc _ _ _ _ w w' h.pins hk, Rw.loc _ _ _ _ _ w w' h.limbo hk⟩
theorem AR.below {w w' : World} {lo hi : Nat} {p l : Value} {ps : List Int} {L : List (Int × Int)} (h : AR lo hi p l ps L w) (hb : Below hi w w') : AR lo hi p l ps L w' := AR.loc lo hi p l ps L w w' h (fun k _ hk => hb.block k hk)
theorem AR.wide {w : World} {lo hi lo' hi' : Nat} {p l : Value} {ps : List Int} {L : List (Int × Int)} (h : AR lo hi p l ps L w) (h1 : lo' ≤ lo) (h2 : hi ≤ hi') : AR lo' hi' p l ps L w := ⟨h.pins.wide h1 h2, h.limbo.wide h1 h2, h.apart⟩
theorem AR.form {w : World} {lo hi : Nat} {p l : Value} {ps : List Int} {L : List (Int × Int)} (h : AR lo hi p l ps L w) : ∃ a c b d, p = .slice a ps.length c ∧ l = .slice b L.length d ∧ L.length ≤ d := by
  obtain ⟨a, c, h1⟩ := h.pins.form
  obtain ⟨b, d, h2, h3⟩ := h.limbo.form
  exact ⟨a, c, b, d, h1, h2, h3⟩
theorem AIn.form {w : World} {p l : Value} {ps : List Int} {L : List (Int × Int)} (h : AIn w p l ps L) : ∃ a c b d, p = .slice a ps.length c ∧ l = .slice b L.length d ∧ L.length ≤ d := by
  obtain ⟨a, c, h1, _⟩ := h.pins
  obtain ⟨b, d, h2, h3, _⟩ := h.limbo
  exact ⟨a, c, b, d, h1, h2, h3⟩
theorem AR.ain {w : World} {lo hi : Nat} {p l : Value} {ps : List Int} {L : List (Int × Int)} (h : AR lo hi p l ps L w) (hz : hi ≤ w.heap.size) : AIn w p l ps L := ⟨h.pins.inrow hz, h.limbo.pin hz⟩
theorem apart_of {w w' : World} {l1 h1 l2 h2 : Nat} {p l : Value} {ps : List Int} {L : List (Int × Int)} (r1 : Row w l1 h1 p (ints ps)) (r2 : Rw w' l2 h2 l L.length (gones L)) (h : h1 ≤ l2 ∨ h2 ≤ l1) : Apart p l ps.length L.length := by
  intro n1 n2
  obtain ⟨a, c, rfl, q1⟩ := r1
  obtain ⟨b, d, rfl, -, q2⟩ := r2
  rcases q1 with q1 | ⟨g, rfl, a1, a2, -⟩
  · have := congrArg List.length q1; rw [ints_len] at this; simp only [List.length_nil] at this; omega
  rcases q2 with q2 | ⟨k, rfl, b1, b2, -⟩
  · have := congrArg List.length q2; rw [gones_len] at this; simp only [List.length_nil] at this; omega
  simp [Value.ownBlock]
  omega
theorem AR.nil (lo hi : Nat) (w : World) : AR lo hi (.slice none 0 0) (.slice none 0 0) [] [] w := ⟨⟨none, 0, rfl, .inl rfl⟩, ⟨none, 0, rfl, Nat.le_refl _, .inl rfl⟩, fun h => absurd h (by simp)⟩
/- what a walk knows: cells, and facts that hang on some blocks alone -/
structure Sv (w : World) (cs : List (Nat × Nat × Value)) (rs : List (Nat × Nat × (World → Prop))) (W : World) : Prop where
  below : Below w.heap.size w W
  cells : ∀ c ∈ cs, c.1 < W.heap.size ∧ W.cell? ⟨c.1, c.2.1, none⟩ = some c.2.2
  rows : ∀ r ∈ rs, r.2.1 ≤ W.heap.size ∧ Loc r.1 r.2.1 r.2.2 ∧ r.2.2 W
theorem Sv.start (w : World) : Sv w [] [] w := ⟨Below.refl _ _, fun _ h => (by cases h), fun _ h => (by cases h)⟩
theorem Sv.grow {w W W1 : World} {cs : List (Nat × Nat × Value)} {rs : List (Nat × Nat × (World → Prop))} (h : Sv w cs rs W) (b : Below W.heap.size W W1) : Sv w cs rs W1 :=
  ⟨h.below.trans (b.mono h.below.size), fun c hm => ⟨Nat.lt_of_lt_of_le (h.cells c hm).1 b.size, below_cell b (h.cells c hm).1 (h.cells c hm).2⟩,
    fun r hm => ⟨Nat.le_trans (h.rows r hm).1 b.size, (h.rows r hm).2.1, (h.rows r hm).2.1 W W1 (h.rows r hm).2.2 (fun k _ hk => b.block k (Nat.lt_of_lt_of_le hk (h.rows r hm).1))⟩⟩
theorem Sv.drew {w W : World} {cs : List (Nat × Nat × Value)} {rs : List (Nat × Nat × (World → Prop))} (h : Sv w cs rs W) : Sv w cs rs W.drew := h.grow (Below.refl _ _).drew
theorem Sv.alloc {w W : World} {cs : List (Nat × Nat × Value)} {rs : List (Nat × Nat × (World → Prop))} (h : Sv w cs rs W) (o : Obj) : Sv w cs rs (W.alloc o) := h.grow ((Below.refl _ _).alloc (Nat.le_refl _) _)
theorem Sv.cell {w W : World} {cs : List (Nat × Nat × Value)} {rs : List (Nat × Nat × (World → Prop))} (h : Sv w cs rs W) {b o : Nat} {v : Value} (hb : b < W.heap.size) (hc : W.cell? ⟨b, o, none⟩ = some v) : Sv w ((b, o, v) :: cs) rs W :=
  ⟨h.below, fun c hm => by
    rcases List.mem_cons.1 hm with rfl | hm
    · exact ⟨hb, hc⟩
    · exact h.cells c hm, h.rows⟩
theorem Sv.box {w W : World} {cs : List (Nat × Nat × Value)} {rs : List (Nat × Nat × (World → Prop))} (h : Sv w cs rs W) (x : Value) (T : TypeId) : Sv w ((W.heap.size, 0, x) :: cs) rs (W.alloc (.cells #[x] T)) :=
  (h.alloc _).cell (by simp) (by simp)
theorem Sv.box3 {w W : World} {cs : List (Nat × Nat × Value)} {rs : List (Nat × Nat × (World → Prop))} (h : Sv w cs rs W) (x0 x1 x2 : Value) (T : TypeId) : Sv w ((W.heap.size, 0, x0) :: (W.heap.size, 1, x1) :: (W.heap.size, 2, x2) :: cs) rs (W.alloc (.cells #[x0, x1, x2] T)) :=
  (((h.alloc _).cell (by simp) (by simp)).cell (by simp) (by simp)).cell (by simp) (by simp)
theorem Sv.row {w W : World} {cs : List (Nat × Nat × Value)} {rs : List (Nat × Nat × (World → Prop))} (h : Sv w cs rs W) {lo hi : Nat} {P : World → Prop} (hz : hi ≤ W.heap.size) (l : Loc lo hi P) (r : P W) : Sv w cs ((lo, hi, P) :: rs) W :=
  ⟨h.below, h.cells, fun c hm => by
    rcases List.mem_cons.1 hm with rfl | hm
    · exact ⟨hz, l, r⟩
    · exact h.rows c hm⟩
theorem Sv.less {w W : World} {cs cs' : List (Nat × Nat × Value)} {rs rs' : List (Nat × Nat × (World → Prop))} (h : Sv w cs rs W) (h1 : ∀ x ∈ cs', x ∈ cs) (h2 : ∀ x ∈ rs', x ∈ rs) : Sv w cs' rs' W :=
  ⟨h.below, fun c hm => h.cells c (h1 _ hm), fun r hm => h.rows r (h2 _ hm)⟩
theorem Sv.get {w W : World} {cs : List (Nat × Nat × Value)} {rs : List (Nat × Nat × (World → Prop))} (h : Sv w cs rs W) {b o : Nat} {v : Value} (hm : (b, o, v) ∈ cs) : W.cell? ⟨b, o, none⟩ = some v := (h.cells _ hm).2
theorem Sv.get3 {w W : World} {cs : List (Nat × Nat × Value)} {rs : List (Nat × Nat × (World → Prop))} (h : Sv w cs rs W) {b : Nat} {x0 x1 x2 : Value} (h0 : (b, 0, x0) ∈ cs) (h1 : (b, 1, x1) ∈ cs) (h2 : (b, 2, x2) ∈ cs) : W.cell? ⟨b, 0, none⟩ = some x0 ∧ W.cell? ⟨b, 1, none⟩ = some x1 ∧ W.cell? ⟨b, 2, none⟩ = some x2 := ⟨h.get h0, h.get h1, h.get h2⟩
theorem Sv.lt {w W : World} {cs : List (Nat × Nat × Value)} {rs : List (Nat × Nat × (World → Prop))} (h : Sv w cs rs W) {b o : Nat} {v : Value} (hm : (b, o, v) ∈ cs) : b < W.heap.size := (h.cells _ hm).1
theorem Sv.at {w W : World} {cs : List (Nat × Nat × Value)} {rs : List (Nat × Nat × (World → Prop))} (h : Sv w cs rs W) {lo hi : Nat} {P : World → Prop} (hm : (lo, hi, P) ∈ rs) : hi ≤ W.heap.size ∧ P W := ⟨(h.rows _ hm).1, (h.rows _ hm).2.2⟩
theorem Sv.front1 {w W : World} {cs : List (Nat × Nat × Value)} {a b : Nat × Nat × (World → Prop)} {rs : List (Nat × Nat × (World → Prop))} (h : Sv w cs (a :: b :: rs) W) : Sv w cs (b :: a :: rs) W :=
  h.less (fun _ h => h) (fun x hx => by simp only [List.mem_cons] at hx ⊢; rcases hx with h | h | h <;> simp [h])
theorem Sv.mark1 {w W W1 : World} {cs : List (Nat × Nat × Value)} {rs : List (Nat × Nat × (World → Prop))} {lo hi : Nat} {P Q : World → Prop} (h : Sv w cs ((lo, hi, P) :: rs) W) (o : Out lo hi W W1) (l : Loc lo hi Q) (r : Q W1)
    (hl : w.heap.size ≤ lo) (h1 : ∀ c ∈ cs, c.1 < lo ∨ hi ≤ c.1) (h2 : ∀ q ∈ rs, q.2.1 ≤ lo ∨ hi ≤ q.1) : Sv w cs ((lo, hi, Q) :: rs) W1 := by
  have hz := (h.rows _ (List.mem_cons_self ..)).1
  refine Sv.row ⟨h.below.trans (o.below hl h.below.size), fun c hm => ⟨Nat.lt_of_lt_of_le (h.cells c hm).1 o.size, o.cell (h.cells c hm).1 (h1 c hm) (h.cells c hm).2⟩, fun q hm => ?_⟩ (Nat.le_trans hz o.size) l r
  have hq := h.rows q (List.mem_cons_of_mem _ hm)
  have hs := h2 q hm
  exact ⟨Nat.le_trans hq.1 o.size, hq.2.1, hq.2.1 W W1 hq.2.2 (fun k k1 k2 => o.block k (Nat.lt_of_lt_of_le k2 hq.1) (by rcases hs with hs | hs <;> omega))⟩
theorem Sv.pack {w W : World} {cs : List (Nat × Nat × Value)} {rs : List (Nat × Nat × (World → Prop))} (h : Sv w cs rs W) : ∃ P : World → Prop, P W ∧ (∀ X, P X → P X.drew) ∧ (∀ X Y, P X → Below X.heap.size X Y → P Y) ∧ ∀ X, P X → Sv w cs rs X :=
  ⟨Sv w cs rs, h, fun _ p => p.drew, fun _ _ p b => p.grow b, fun _ p => p⟩

end Go.Proofs.Ytijmjpjclhgaoaa

namespace Go.Proofs.Ytijmjpjclhgaoaa
open Go.ChangeShapes Go.WideShapes Go.ChangeAt Go.RowKit
set_option linter.unusedVariables false

theorem low_div (a : Int) (h : a < 0) : a.tdiv 1048576 ≤ 0 ∧ a.tmod 1048576 ≤ 0 ∧ (a.tdiv 1048576 < 0 ∨ a.tmod 1048576 < 0) := by
  obtain ⟨b, rfl⟩ : ∃ b : Int, a = -b := ⟨-a, by omega⟩
  rw [Int.neg_tdiv, Int.neg_tmod, Int.tdiv_eq_ediv_of_nonneg (by omega), Int.tmod_eq_emod_of_nonneg (by omega)]
  omega

def unB (x : Int) : Bool := decide (0 ≤ x ∧ x / 1048576 ≤ 1073741823)
def unT (x : Int) : Int := if unB x = true then x / 1048576 else 0
def unI (x : Int) : Int := if unB x = true then x % 1048576 else 0
theorem un_bd (x : Int) : 0 ≤ unT x ∧ unT x ≤ 1073741823 ∧ 0 ≤ unI x ∧ unI x ≤ 1048575 := by
  unfold unT unI
  by_cases h : unB x = true
  · rw [if_pos h, if_pos h]
    have := of_decide_eq_true h
    omega
  · rw [if_neg h, if_neg h]; omega
def pkB (t i : Int) : Bool := decide (0 ≤ t ∧ t ≤ 1073741823 ∧ 0 ≤ i ∧ i ≤ 1048575)
def pkW (t i : Int) : Int := if pkB t i = true then t * 1048576 + i else 0
theorem pk_bd (t i : Int) : 0 ≤ pkW t i ∧ pkW t i ≤ 1125899906842623 := by
  unfold pkW
  by_cases h : pkB t i = true
  · rw [if_pos h]
    have := of_decide_eq_true h
    omega
  · rw [if_neg h]; omega
def ntT (t : Int) : Int := if 0 ≤ t ∧ t ≤ 1073741822 then t + 1 else 0
theorem nt_bd (t : Int) : 0 ≤ ntT t ∧ ntT t ≤ 1073741823 := by unfold ntT; split <;> omega
theorem ret3 {a b a' b' : Int} {c c' : Bool} (h1 : a = a') (h2 : b = b') (h3 : c = c') : Ending.returned (.tuple #[.int .i64 a, .int .i64 b, .bool c]) = .returned (.tuple #[.int .i64 a', .int .i64 b', .bool c']) := by rw [h1, h2, h3]
theorem ret2 {a a' : Int} {c c' : Bool} (h1 : a = a') (h3 : c = c') : Ending.returned (.tuple #[.int .i64 a, .bool c]) = .returned (.tuple #[.int .i64 a', .bool c']) := by rw [h1, h3]
theorem ret_int {k : IntKind} {a b : Int} (h : a = b) : Ending.returned (.int k a) = .returned (.int k b) := by rw [h]

end Go.Proofs.Ytijmjpjclhgaoaa

namespace Go.Proofs.Ytijmjpjclhgaoaa
open Go.ChangeShapes Go.WideShapes Go.ChangeAt Go.RowKit
set_option linter.unusedVariables false

def actB (n : Nat) (k t a b : Int) : Bool := decide (1 ≤ k ∧ k ≤ 4 ∧ 0 ≤ t ∧ t < (n : Int) ∧ n ≤ 300 ∧ (k = 1 → a = 0) ∧ (k ≠ 3 → b = 0))
theorem actB_no {n : Nat} {k t a b : Int} (h : ¬ (1 ≤ k ∧ k ≤ 4 ∧ 0 ≤ t ∧ t < (n : Int) ∧ n ≤ 300 ∧ (k = 1 → a = 0) ∧ (k ≠ 3 → b = 0))) : actB n k t a b = false := decide_eq_false h
theorem actB_yes {n : Nat} {k t a b : Int} (h : 1 ≤ k ∧ k ≤ 4 ∧ 0 ≤ t ∧ t < (n : Int) ∧ n ≤ 300 ∧ (k = 1 → a = 0) ∧ (k ≠ 3 → b = 0)) : actB n k t a b = true := decide_eq_true h
theorem actB_of {n : Nat} {k t a b : Int} (h : actB n k t a b = true) : 1 ≤ k ∧ k ≤ 4 ∧ 0 ≤ t ∧ t < (n : Int) ∧ n ≤ 300 ∧ (k = 1 → a = 0) ∧ (k ≠ 3 → b = 0) := of_decide_eq_true h
def kindB (k a b : Int) : Bool := decide (1 ≤ k ∧ k ≤ 4 ∧ (k = 1 → a = 0) ∧ (k ≠ 3 → b = 0))
def hasB (n : Nat) (t : Int) : Bool := decide (0 ≤ t ∧ t < (n : Int))
theorem kindB_eq {k a b : Int} {x : Bool} (h : x = true ↔ (1 ≤ k ∧ k ≤ 4 ∧ (k = 1 → a = 0) ∧ (k ≠ 3 → b = 0))) : x = kindB k a b := by
  rw [Bool.eq_iff_iff, h]; unfold kindB; rw [decide_eq_true_iff]
theorem actB_eq {n : Nat} {k t a b : Int} {x : Bool} (h : x = true ↔ (1 ≤ k ∧ k ≤ 4 ∧ 0 ≤ t ∧ t < (n : Int) ∧ n ≤ 300 ∧ (k = 1 → a = 0) ∧ (k ≠ 3 → b = 0))) : x = actB n k t a b := by
  rw [Bool.eq_iff_iff, h]; unfold actB; rw [decide_eq_true_iff]
theorem hasB_eq {n : Nat} {t : Int} {x : Bool} (h : x = true ↔ (0 ≤ t ∧ t < (n : Int))) : x = hasB n t := by
  rw [Bool.eq_iff_iff, h]; unfold hasB; rw [decide_eq_true_iff]
theorem actB_parts (n : Nat) (k t a b : Int) : actB n k t a b = (kindB k a b && (hasB n t && decide (n ≤ 300))) := by
  rw [Bool.eq_iff_iff]; unfold actB kindB hasB; simp only [Bool.and_eq_true, decide_eq_true_iff]; omega
/- what an act leaves in the row, and what it tells -/
def actNew (x k a b : Int) : Int := if k = 2 then a else if k = 3 then (if x = a then b else x) else if k = 4 then wrap64 (x + a) else x
def actTold (x k a : Int) : Int := if k = 2 then 0 else if k = 3 then (if x = a then 1 else 0) else if k = 4 then wrap64 (x + a) else x
def memDo (xs : List Int) (k t a b : Int) : List Int := xs.set t.toNat (actNew (xs.getD t.toNat 0) k a b)

end Go.Proofs.Ytijmjpjclhgaoaa

namespace Go.Proofs.Ytijmjpjclhgaoaa
open Go.ChangeShapes Go.WideShapes Go.ChangeAt Go.RowKit
set_option linter.unusedVariables false

structure Cl where
  k : Int
  a : Int
  x : Int
  pc : Int
  p : Int
  c : Int
  w : Int
  r : Int
  v : Int
  d : Bool
structure Ac where
  k : Int
  t : Int
  a : Int
  b : Int
def clZero : Cl := ⟨0, 0, 0, 0, 0, 0, 0, 0, 0, false⟩
def acZero : Ac := ⟨0, 0, 0, 0⟩
def szB (n : Int) : Bool := decide (1 ≤ n ∧ n ≤ 16)
def stCall (k a : Int) : Cl := if k = 1 then { clZero with k := 1, a := a } else if k = 2 then { clZero with k := 2 } else clZero
def placeOf (k a w : Int) : Int := if k = 1 then a else unI w - 1
def stPlace (c : Cl) : Int := placeOf c.k c.a c.w
def stBad (n : Int) (c : Cl) : Bool := c.d || !szB n || decide (c.k < 1 ∨ 2 < c.k ∨ c.pc < 0 ∨ 2 < c.pc)
def stNext (c : Cl) : Int := if c.k = 1 then stPlace c + 1 else c.c
def stAct (n : Int) (c : Cl) : Option Ac :=
  if stBad n c = true then none
  else if c.k = 2 ∧ c.pc = 0 then some ⟨1, 0, 0, 0⟩
  else if ¬ (0 ≤ stPlace c ∧ stPlace c ≤ n - 1) then none
  else if c.pc = 0 then some ⟨1, 0, 0, 0⟩
  else if c.pc = 1 then (if c.k = 1 then some ⟨2, 1 + stPlace c, unI c.w, 0⟩ else some ⟨1, 1 + stPlace c, 0, 0⟩)
  else if pkB (ntT (unT c.w)) (stNext c) = true then some ⟨3, 0, c.w, pkW (ntT (unT c.w)) (stNext c)⟩ else none
def stRow (n k : Nat) : List Int := (List.range (n + 1)).map fun j => if j < k then (j : Int) + 1 else 0
theorem stRow_len (n k : Nat) : (stRow n k).length = n + 1 := by simp [stRow]
theorem stRow_zero (n : Nat) : stRow n 0 = List.replicate (n + 1) 0 := by
  apply List.ext_getElem <;> simp [stRow]
theorem stRow_set (n k : Nat) (h : k < n) : (stRow n k).set k ((k : Int) + 1) = stRow n (k + 1) := by
  apply List.ext_getElem
  · simp [stRow]
  · intro i h1 h2
    simp [stRow, List.getElem_set]
    by_cases e : k = i
    · subst e; simp
    · rw [if_neg e]
      by_cases c : i < k
      · rw [if_pos c, if_pos (by omega)]
      · rw [if_neg c, if_neg (by omega)]
def stNewL (n : Int) (full : Bool) : List Int := if szB n = true then stRow n.toNat (if full then n.toNat else 0) else []
theorem stNewL_len (n : Int) (full : Bool) : (stNewL n full).length ≤ 17 := by
  unfold stNewL
  by_cases h : szB n = true
  · rw [if_pos h, stRow_len]
    have : 1 ≤ n ∧ n ≤ 16 := of_decide_eq_true h
    omega
  · rw [if_neg h]; simp

end Go.Proofs.Ytijmjpjclhgaoaa

namespace Go.Proofs.Ytijmjpjclhgaoaa
open Go.ChangeShapes Go.WideShapes Go.ChangeAt Go.RowKit
set_option linter.unusedVariables false

structure Th where
  cs : List Cl
  at_ : Int
  bs : List Int
  es : List Int
structure Cw where
  what : Int
  size : Int
  m : List Int
  ts : List Th
  clock : Int
instance : Inhabited Cl := ⟨clZero⟩
instance : Inhabited Th := ⟨⟨[], 0, [], []⟩⟩
/- a call in ten cells, a thread in four -/
def At10 (w : World) (b o : Nat) (c : Cl) : Prop :=
  w.cell? ⟨b, o, none⟩ = some (.int .i64 c.k) ∧ w.cell? ⟨b, o + 1, none⟩ = some (.int .i64 c.a) ∧ w.cell? ⟨b, o + 2, none⟩ = some (.int .i64 c.x) ∧ w.cell? ⟨b, o + 3, none⟩ = some (.int .i64 c.pc) ∧ w.cell? ⟨b, o + 4, none⟩ = some (.int .i64 c.p) ∧ w.cell? ⟨b, o + 5, none⟩ = some (.int .i64 c.c) ∧ w.cell? ⟨b, o + 6, none⟩ = some (.int .i64 c.w) ∧ w.cell? ⟨b, o + 7, none⟩ = some (.int .i64 c.r) ∧ w.cell? ⟨b, o + 8, none⟩ = some (.int .i64 c.v) ∧ w.cell? ⟨b, o + 9, none⟩ = some (.bool c.d)
def At4 (w : World) (b o : Nat) (v0 v1 v2 v3 : Value) : Prop :=
  w.cell? ⟨b, o, none⟩ = some v0 ∧ w.cell? ⟨b, o + 1, none⟩ = some v1 ∧ w.cell? ⟨b, o + 2, none⟩ = some v2 ∧ w.cell? ⟨b, o + 3, none⟩ = some v3
theorem At10.of {w w' : World} {b o : Nat} {c : Cl} (h : At10 w b o c) (hb : ∀ q, w'.cell? ⟨b, q, none⟩ = w.cell? ⟨b, q, none⟩) : At10 w' b o c := by
  obtain ⟨h0, h1, h2, h3, h4, h5, h6, h7, h8, h9⟩ := h
  exact ⟨(hb _).trans h0, (hb _).trans h1, (hb _).trans h2, (hb _).trans h3, (hb _).trans h4, (hb _).trans h5, (hb _).trans h6, (hb _).trans h7, (hb _).trans h8, (hb _).trans h9⟩
theorem At4.of {w w' : World} {b o : Nat} {v0 v1 v2 v3 : Value} (h : At4 w b o v0 v1 v2 v3) (hb : ∀ q, w'.cell? ⟨b, q, none⟩ = w.cell? ⟨b, q, none⟩) : At4 w' b o v0 v1 v2 v3 := by
  obtain ⟨h0, h1, h2, h3⟩ := h
  exact ⟨(hb _).trans h0, (hb _).trans h1, (hb _).trans h2, (hb _).trans h3⟩
theorem cells_of_block {w w' : World} {b : Nat} (h : w'.heap[b]? = w.heap[b]?) : ∀ q, w'.cell? ⟨b, q, none⟩ = w.cell? ⟨b, q, none⟩ := fun q => World.cell?_of_block (a := ⟨b, q, none⟩) h
theorem frozen_of_block {w w' : World} {b : Nat} (h : w'.heap[b]? = w.heap[b]?) : ∀ q, w'.frozen? ⟨b, q, none⟩ = w.frozen? ⟨b, q, none⟩ := fun q => World.frozen?_of_block (a := ⟨b, q, none⟩) h
/- read -/
def CallsIn (w : World) (v : Value) (cs : List Cl) : Prop :=
  ∃ a cap, v = .slice a cs.length cap ∧ cs.length ≤ cap ∧ (cs = [] ∨ ∃ b off, a = some ⟨b, off, none⟩ ∧ b < w.heap.size ∧ ∀ j (hj : j < cs.length), At10 w b (off + j * 10) cs[j])
def IntsIn (w : World) (v : Value) (xs : List Int) : Prop := InRow w v xs ∧ ∃ a cap, v = .slice a xs.length cap ∧ True
structure ThIn (w : World) (v0 v2 v3 : Value) (t : Th) : Prop where
  cs : CallsIn w v0 t.cs
  bs : IntsIn w v2 t.bs
  es : IntsIn w v3 t.es
def ThsIn (w : World) (v : Value) (ts : List Th) : Prop :=
  ∃ a cap, v = .slice a ts.length cap ∧ ts.length ≤ cap ∧ (ts = [] ∨ ∃ b off, a = some ⟨b, off, none⟩ ∧ b < w.heap.size ∧ ∀ j (hj : j < ts.length), ∃ v0 v2 v3, At4 w b (off + j * 4) v0 (.int .i64 ts[j].at_) v2 v3 ∧ ThIn w v0 v2 v3 ts[j])
structure CwIn (w : World) (vm vt : Value) (C : Cw) : Prop where
  m : IntsIn w vm C.m
  ts : ThsIn w vt C.ts
theorem IntsIn.below {w w' : World} {v : Value} {xs : List Int} (h : IntsIn w v xs) (hb : Below w.heap.size w w') : IntsIn w' v xs := ⟨h.1.below hb, h.2⟩
theorem CallsIn.below {w w' : World} {v : Value} {cs : List Cl} (h : CallsIn w v cs) (hb : Below w.heap.size w w') : CallsIn w' v cs := by
  obtain ⟨a, cap, hv, hc, h⟩ := h
  refine ⟨a, cap, hv, hc, ?_⟩
  rcases h with h | ⟨b, off, ha, h1, h2⟩
  · exact .inl h
  · exact .inr ⟨b, off, ha, Nat.lt_of_lt_of_le h1 hb.size, fun j hj => (h2 j hj).of (cells_of_block (hb.block b h1))⟩
theorem ThIn.below {w w' : World} {v0 v2 v3 : Value} {t : Th} (h : ThIn w v0 v2 v3 t) (hb : Below w.heap.size w w') : ThIn w' v0 v2 v3 t := ⟨h.cs.below hb, h.bs.below hb, h.es.below hb⟩
theorem ThsIn.below {w w' : World} {v : Value} {ts : List Th} (h : ThsIn w v ts) (hb : Below w.heap.size w w') : ThsIn w' v ts := by
  obtain ⟨a, cap, hv, hc, h⟩ := h
  refine ⟨a, cap, hv, hc, ?_⟩
  rcases h with h | ⟨b, off, ha, h1, h2⟩
  · exact .inl h
  · refine .inr ⟨b, off, ha, Nat.lt_of_lt_of_le h1 hb.size, fun j hj => ?_⟩
    obtain ⟨v0, v2, v3, h3, h4⟩ := h2 j hj
    exact ⟨v0, v2, v3, h3.of (cells_of_block (hb.block b h1)), h4.below hb⟩
theorem CwIn.below {w w' : World} {vm vt : Value} {C : Cw} (h : CwIn w vm vt C) (hb : Below w.heap.size w w') : CwIn w' vm vt C := ⟨h.m.below hb, h.ts.below hb⟩
theorem CallsIn.form {w : World} {v : Value} {cs : List Cl} (h : CallsIn w v cs) : ∃ a c, v = .slice a cs.length c ∧ cs.length ≤ c := by
  obtain ⟨a, c, h1, h2, _⟩ := h
  exact ⟨a, c, h1, h2⟩
theorem IntsIn.form {w : World} {v : Value} {xs : List Int} (h : IntsIn w v xs) : ∃ a c, v = .slice a xs.length c ∧ True := h.2
theorem ThsIn.form {w : World} {v : Value} {ts : List Th} (h : ThsIn w v ts) : ∃ a c, v = .slice a ts.length c ∧ ts.length ≤ c := by
  obtain ⟨a, c, h1, h2, _⟩ := h
  exact ⟨a, c, h1, h2⟩
/- owned: fp lists the blocks -/
def IntsO (w : World) (v : Value) (xs : List Int) (fp : List Nat) : Prop :=
  ∃ a cap, v = .slice a xs.length cap ∧ True ∧ ((xs = [] ∧ fp = []) ∨ ∃ g, a = some ⟨g, 0, none⟩ ∧ fp = [g] ∧ g < w.heap.size ∧ (∀ j (hj : j < xs.length), w.cell? ⟨g, j, none⟩ = some (.int .i64 xs[j])) ∧ ∀ j, w.frozen? ⟨g, j, none⟩ = false)
def CallsO (w : World) (v : Value) (cs : List Cl) (fp : List Nat) : Prop :=
  ∃ a cap, v = .slice a cs.length cap ∧ cs.length ≤ cap ∧ ((cs = [] ∧ fp = []) ∨ ∃ g, a = some ⟨g, 0, none⟩ ∧ fp = [g] ∧ g < w.heap.size ∧ (∀ j (hj : j < cs.length), At10 w g (j * 10) cs[j]) ∧ ∀ j, w.frozen? ⟨g, j, none⟩ = false)
def ThO (w : World) (v0 v2 v3 : Value) (t : Th) (fp : List Nat) : Prop :=
  ∃ f0 f2 f3, fp = f0 ++ (f2 ++ f3) ∧ CallsO w v0 t.cs f0 ∧ IntsO w v2 t.bs f2 ∧ IntsO w v3 t.es f3
def ThsO (w : World) (v : Value) (ts : List Th) (fp : List Nat) : Prop :=
  ∃ a cap, v = .slice a ts.length cap ∧ ts.length ≤ cap ∧ ((ts = [] ∧ fp = []) ∨ ∃ (g : Nat) (fps : Nat → List Nat), a = some ⟨g, 0, none⟩ ∧ fp = g :: (List.range ts.length).flatMap fps ∧ g < w.heap.size ∧ (∀ j (hj : j < ts.length), ∃ v0 v2 v3, At4 w g (j * 4) v0 (.int .i64 ts[j].at_) v2 v3 ∧ ThO w v0 v2 v3 ts[j] (fps j)) ∧ ∀ j, w.frozen? ⟨g, j, none⟩ = false)
def CwO (w : World) (vm vt : Value) (C : Cw) (fp : List Nat) : Prop :=
  ∃ f0 f1, fp = f0 ++ f1 ∧ IntsO w vm C.m f0 ∧ ThsO w vt C.ts f1
theorem lt_of_block {w w' : World} {b : Nat} (h : w'.heap[b]? = w.heap[b]?) (k : b < w.heap.size) : b < w'.heap.size := by
  rw [Array.getElem?_eq_getElem k] at h
  exact (Array.getElem?_eq_some_iff.1 h).1
theorem IntsO.loc' {w w' : World} {v : Value} {xs : List Int} {fp : List Nat} (h : IntsO w v xs fp) (hb : ∀ g ∈ fp, w'.heap[g]? = w.heap[g]?) : IntsO w' v xs fp := by
  obtain ⟨a, cap, hv, hc, h⟩ := h
  refine ⟨a, cap, hv, hc, ?_⟩
  rcases h with h | ⟨g, ha, hf, h1, h2, h3⟩
  · exact .inl h
  · have e := hb g (by rw [hf]; exact List.mem_singleton.2 rfl)
    exact .inr ⟨g, ha, hf, lt_of_block e h1, fun j hj => (cells_of_block e j).trans (h2 j hj), fun j => (frozen_of_block e j).trans (h3 j)⟩
theorem CallsO.loc' {w w' : World} {v : Value} {xs : List Cl} {fp : List Nat} (h : CallsO w v xs fp) (hb : ∀ g ∈ fp, w'.heap[g]? = w.heap[g]?) : CallsO w' v xs fp := by
  obtain ⟨a, cap, hv, hc, h⟩ := h
  refine ⟨a, cap, hv, hc, ?_⟩
  rcases h with h | ⟨g, ha, hf, h1, h2, h3⟩
  · exact .inl h
  · have e := hb g (by rw [hf]; exact List.mem_singleton.2 rfl)
    exact .inr ⟨g, ha, hf, lt_of_block e h1, fun j hj => (h2 j hj).of (cells_of_block e), fun j => (frozen_of_block e j).trans (h3 j)⟩
theorem ThO.loc' {w w' : World} {v0 v2 v3 : Value} {t : Th} {fp : List Nat} (h : ThO w v0 v2 v3 t fp) (hb : ∀ g ∈ fp, w'.heap[g]? = w.heap[g]?) : ThO w' v0 v2 v3 t fp := by
  obtain ⟨f0, f2, f3, rfl, h0, h2, h3⟩ := h
  exact ⟨f0, f2, f3, rfl, h0.loc' (fun g hg => hb g (by simp [hg])), h2.loc' (fun g hg => hb g (by simp [hg])), h3.loc' (fun g hg => hb g (by simp [hg]))⟩
theorem ThsO.loc' {w w' : World} {v : Value} {ts : List Th} {fp : List Nat} (h : ThsO w v ts fp) (hb : ∀ g ∈ fp, w'.heap[g]? = w.heap[g]?) : ThsO w' v ts fp := by
  obtain ⟨a, cap, hv, hc, h⟩ := h
  refine ⟨a, cap, hv, hc, ?_⟩
  rcases h with h | ⟨g, fps, ha, hf, h1, h2, h3⟩
  · exact .inl h
  · have e := hb g (by rw [hf]; exact List.mem_cons_self ..)
    refine .inr ⟨g, fps, ha, hf, lt_of_block e h1, fun j hj => ?_, fun j => (frozen_of_block e j).trans (h3 j)⟩
    obtain ⟨v0, v2, v3, h4, h5⟩ := h2 j hj
    exact ⟨v0, v2, v3, h4.of (cells_of_block e), h5.loc' (fun x hx => hb x (by rw [hf]; exact List.mem_cons_of_mem _ (List.mem_flatMap.2 ⟨j, List.mem_range.2 hj, hx⟩)))⟩
theorem CwO.loc' {w w' : World} {vm vt : Value} {C : Cw} {fp : List Nat} (h : CwO w vm vt C fp) (hb : ∀ g ∈ fp, w'.heap[g]? = w.heap[g]?) : CwO w' vm vt C fp := by
  obtain ⟨f0, f1, rfl, h0, h1⟩ := h
  exact ⟨f0, f1, rfl, h0.loc' (fun g hg => hb g (by simp [hg])), h1.loc' (fun g hg => hb g (by simp [hg]))⟩
theorem IntsO.loc {w w' : World} {v : Value} {xs : List Int} {fp : List Nat} (h : IntsO w v xs fp) (hz : w.heap.size ≤ w'.heap.size) (hb : ∀ g ∈ fp, w'.heap[g]? = w.heap[g]?) : IntsO w' v xs fp := h.loc' hb
theorem CallsO.loc {w w' : World} {v : Value} {xs : List Cl} {fp : List Nat} (h : CallsO w v xs fp) (hz : w.heap.size ≤ w'.heap.size) (hb : ∀ g ∈ fp, w'.heap[g]? = w.heap[g]?) : CallsO w' v xs fp := h.loc' hb
theorem ThO.loc {w w' : World} {v0 v2 v3 : Value} {t : Th} {fp : List Nat} (h : ThO w v0 v2 v3 t fp) (hz : w.heap.size ≤ w'.heap.size) (hb : ∀ g ∈ fp, w'.heap[g]? = w.heap[g]?) : ThO w' v0 v2 v3 t fp := h.loc' hb
theorem ThsO.loc {w w' : World} {v : Value} {ts : List Th} {fp : List Nat} (h : ThsO w v ts fp) (hz : w.heap.size ≤ w'.heap.size) (hb : ∀ g ∈ fp, w'.heap[g]? = w.heap[g]?) : ThsO w' v ts fp := h.loc' hb
theorem CwO.loc {w w' : World} {vm vt : Value} {C : Cw} {fp : List Nat} (h : CwO w vm vt C fp) (hz : w.heap.size ≤ w'.heap.size) (hb : ∀ g ∈ fp, w'.heap[g]? = w.heap[g]?) : CwO w' vm vt C fp := h.loc' hb
theorem IntsO.lt {w : World} {v : Value} {xs : List Int} {fp : List Nat} (h : IntsO w v xs fp) : ∀ g ∈ fp, g < w.heap.size := by
  obtain ⟨a, cap, hv, hc, ⟨-, rfl⟩ | ⟨g, ha, rfl, h1, -⟩⟩ := h
  · simp
  · simpa using h1
theorem CallsO.lt {w : World} {v : Value} {xs : List Cl} {fp : List Nat} (h : CallsO w v xs fp) : ∀ g ∈ fp, g < w.heap.size := by
  obtain ⟨a, cap, hv, hc, ⟨-, rfl⟩ | ⟨g, ha, rfl, h1, -⟩⟩ := h
  · simp
  · simpa using h1
theorem ThO.lt {w : World} {v0 v2 v3 : Value} {t : Th} {fp : List Nat} (h : ThO w v0 v2 v3 t fp) : ∀ g ∈ fp, g < w.heap.size := by
  obtain ⟨f0, f2, f3, rfl, h0, h2, h3⟩ := h
  intro g hg
  simp only [List.mem_append] at hg
  rcases hg with hg | hg | hg
  · exact h0.lt g hg
  · exact h2.lt g hg
  · exact h3.lt g hg
theorem ThsO.lt {w : World} {v : Value} {ts : List Th} {fp : List Nat} (h : ThsO w v ts fp) : ∀ g ∈ fp, g < w.heap.size := by
  obtain ⟨a, cap, hv, hc, ⟨-, rfl⟩ | ⟨g, fps, ha, rfl, h1, h2, -⟩⟩ := h
  · simp
  · intro x hx
    rcases List.mem_cons.1 hx with rfl | hx
    · exact h1
    · obtain ⟨j, hj, hx⟩ := List.mem_flatMap.1 hx
      obtain ⟨v0, v2, v3, -, h5⟩ := h2 j (List.mem_range.1 hj)
      exact h5.lt x hx
theorem CwO.lt {w : World} {vm vt : Value} {C : Cw} {fp : List Nat} (h : CwO w vm vt C fp) : ∀ g ∈ fp, g < w.heap.size := by
  obtain ⟨f0, f1, rfl, h0, h1⟩ := h
  intro g hg
  rcases List.mem_append.1 hg with hg | hg
  · exact h0.lt g hg
  · exact h1.lt g hg
theorem IntsO.below {w w' : World} {v : Value} {xs : List Int} {fp : List Nat} (h : IntsO w v xs fp) (hb : Below w.heap.size w w') : IntsO w' v xs fp := h.loc hb.size (fun g hg => hb.block g (h.lt g hg))
theorem CallsO.below {w w' : World} {v : Value} {xs : List Cl} {fp : List Nat} (h : CallsO w v xs fp) (hb : Below w.heap.size w w') : CallsO w' v xs fp := h.loc hb.size (fun g hg => hb.block g (h.lt g hg))
theorem ThO.below {w w' : World} {v0 v2 v3 : Value} {t : Th} {fp : List Nat} (h : ThO w v0 v2 v3 t fp) (hb : Below w.heap.size w w') : ThO w' v0 v2 v3 t fp := h.loc hb.size (fun g hg => hb.block g (h.lt g hg))
theorem ThsO.below {w w' : World} {v : Value} {ts : List Th} {fp : List Nat} (h : ThsO w v ts fp) (hb : Below w.heap.size w w') : ThsO w' v ts fp := h.loc hb.size (fun g hg => hb.block g (h.lt g hg))
theorem CwO.below {w w' : World} {vm vt : Value} {C : Cw} {fp : List Nat} (h : CwO w vm vt C fp) (hb : Below w.heap.size w w') : CwO w' vm vt C fp := h.loc hb.size (fun g hg => hb.block g (h.lt g hg))
/- what is owned can be read -/
theorem IntsO.rd {w : World} {v : Value} {xs : List Int} {fp : List Nat} (h : IntsO w v xs fp) : IntsIn w v xs := by
  obtain ⟨a, cap, hv, hc, h⟩ := h
  refine ⟨⟨a, cap, hv, ?_⟩, a, cap, hv, hc⟩
  rcases h with ⟨h, -⟩ | ⟨g, ha, -, h1, h2, -⟩
  · exact .inl h
  · exact .inr ⟨g, 0, ha, h1, fun j hj => by rw [Nat.zero_add]; exact h2 j hj⟩
theorem CallsO.rd {w : World} {v : Value} {xs : List Cl} {fp : List Nat} (h : CallsO w v xs fp) : CallsIn w v xs := by
  obtain ⟨a, cap, hv, hc, h⟩ := h
  refine ⟨a, cap, hv, hc, ?_⟩
  rcases h with ⟨h, -⟩ | ⟨g, ha, -, h1, h2, -⟩
  · exact .inl h
  · exact .inr ⟨g, 0, ha, h1, fun j hj => by rw [Nat.zero_add]; exact h2 j hj⟩
theorem ThO.rd {w : World} {v0 v2 v3 : Value} {t : Th} {fp : List Nat} (h : ThO w v0 v2 v3 t fp) : ThIn w v0 v2 v3 t := by
  obtain ⟨f0, f2, f3, -, h0, h2, h3⟩ := h
  exact ⟨h0.rd, h2.rd, h3.rd⟩
theorem ThsO.rd {w : World} {v : Value} {ts : List Th} {fp : List Nat} (h : ThsO w v ts fp) : ThsIn w v ts := by
  obtain ⟨a, cap, hv, hc, h⟩ := h
  refine ⟨a, cap, hv, hc, ?_⟩
  rcases h with ⟨h, -⟩ | ⟨g, fps, ha, -, h1, h2, -⟩
  · exact .inl h
  · refine .inr ⟨g, 0, ha, h1, fun j hj => ?_⟩
    obtain ⟨v0, v2, v3, h4, h5⟩ := h2 j hj
    exact ⟨v0, v2, v3, by rw [Nat.zero_add]; exact h4, h5.rd⟩
theorem CwO.rd {w : World} {vm vt : Value} {C : Cw} {fp : List Nat} (h : CwO w vm vt C fp) : CwIn w vm vt C := by
  obtain ⟨f0, f1, -, h0, h1⟩ := h
  exact ⟨h0.rd, h1.rd⟩
/- a row in blocks from lo to hi is owned -/
theorem ints_own {w : World} {lo hi : Nat} {v : Value} {xs : List Int} (h : Row w lo hi v (ints xs)) (hz : hi ≤ w.heap.size) : ∃ fp, IntsO w v xs fp ∧ fp.Nodup ∧ ∀ g ∈ fp, lo ≤ g ∧ g < hi := by
  obtain ⟨a, cap, rfl, h⟩ := h
  rcases h with h | ⟨g, rfl, h1, h2, h3, h4⟩
  · exact ⟨[], ⟨a, cap, by rw [ints_len], trivial, .inl ⟨by simpa using h, rfl⟩⟩, List.nodup_nil, by simp⟩
  · refine ⟨[g], ⟨_, cap, by rw [ints_len], trivial, .inr ⟨g, rfl, rfl, by omega, fun j hj => ?_, h4⟩⟩, by simp, by simp; omega⟩
    rw [h3 j (by simpa using hj)]
    simp
theorem IntsO.row {w : World} {v : Value} {xs : List Int} {fp : List Nat} (h : IntsO w v xs fp) : Row w 0 w.heap.size v (ints xs) := by
  obtain ⟨a, cap, rfl, hc, h⟩ := h
  refine ⟨a, cap, by rw [ints_len], ?_⟩
  rcases h with ⟨rfl, -⟩ | ⟨g, ha, -, h1, h2, h3⟩
  · exact .inl rfl
  · exact .inr ⟨g, ha, by omega, h1, fun j hj => by rw [h2 j (by simpa using hj)]; simp, h3⟩
theorem nodup_app {l m : List Nat} {s : Nat} (hl : l.Nodup) (hm : m.Nodup) (h1 : ∀ g ∈ l, g < s) (h2 : ∀ g ∈ m, s ≤ g) : (l ++ m).Nodup :=
  List.nodup_append.2 ⟨hl, hm, fun a ha b hb => by have := h1 a ha; have := h2 b hb; omega⟩
theorem flat_congr (n : Nat) (f f' : Nat → List Nat) (h : ∀ j, j < n → f' j = f j) : (List.range n).flatMap f' = (List.range n).flatMap f := by
  induction n with
  | zero => rfl
  | succ n ih => rw [List.range_succ, List.flatMap_append, List.flatMap_append, ih (fun j hj => h j (by omega))]; simp [h n (by omega)]
theorem flat_succ (n : Nat) (f : Nat → List Nat) (x : List Nat) : (List.range (n + 1)).flatMap (fun j => if j = n then x else f j) = (List.range n).flatMap f ++ x := by
  rw [List.range_succ, List.flatMap_append, flat_congr n f _ (fun j hj => by rw [if_neg (by omega)])]
  simp

end Go.Proofs.Ytijmjpjclhgaoaa

namespace Go.Proofs.Ytijmjpjclhgaoaa
open Go.ChangeShapes Go.WideShapes Go.ChangeAt Go.RowKit
set_option linter.unusedVariables false



end Go.Proofs.Ytijmjpjclhgaoaa

namespace Go.Proofs.Ytijmjpjclhgaoaa
open Go.ChangeShapes Go.WideShapes Go.ChangeAt Go.RowKit
set_option linter.unusedVariables false

def put10 (w : World) (g o : Nat) (c : Cl) : World := (((((((((w.setCell ⟨g, o, none⟩ (.int .i64 c.k)).setCell ⟨g, o + 1, none⟩ (.int .i64 c.a)).setCell ⟨g, o + 2, none⟩ (.int .i64 c.x)).setCell ⟨g, o + 3, none⟩ (.int .i64 c.pc)).setCell ⟨g, o + 4, none⟩ (.int .i64 c.p)).setCell ⟨g, o + 5, none⟩ (.int .i64 c.c)).setCell ⟨g, o + 6, none⟩ (.int .i64 c.w)).setCell ⟨g, o + 7, none⟩ (.int .i64 c.r)).setCell ⟨g, o + 8, none⟩ (.int .i64 c.v)).setCell ⟨g, o + 9, none⟩ (.bool c.d)
theorem put10_other (w : World) (g o : Nat) (c : Cl) (b q : Nat) (h : b ≠ g ∨ q < o ∨ o + 10 ≤ q) : (put10 w g o c).cell? ⟨b, q, none⟩ = w.cell? ⟨b, q, none⟩ := by
  unfold put10
  repeat rw [World.cell?_setCell_other _ _ _ _ (by simp; omega)]
theorem put10_frozen (w : World) (g o : Nat) (c : Cl) (b q : Nat) : (put10 w g o c).frozen? ⟨b, q, none⟩ = w.frozen? ⟨b, q, none⟩ := by
  unfold put10
  simp only [World.frozen?_setCell]
theorem put10_size (w : World) (g o : Nat) (c : Cl) : (put10 w g o c).heap.size = w.heap.size := by unfold put10; simp
theorem put10_kp (bs : List Nat) (u w : World) (g o : Nat) (c : Cl) (h : Kp bs u w) (hg : g ∈ bs ∨ u.heap.size ≤ g) : Kp bs u (put10 w g o c) := by
  unfold put10
  exact (((((((((h.setCell hg).setCell hg).setCell hg).setCell hg).setCell hg).setCell hg).setCell hg).setCell hg).setCell hg).setCell hg
theorem put10_below (B : Nat) (u w : World) (g o : Nat) (c : Cl) (h : Below B u w) (hg : B ≤ g) : Below B u (put10 w g o c) := by
  unfold put10
  exact (((((((((h.setCell hg _).setCell hg _).setCell hg _).setCell hg _).setCell hg _).setCell hg _).setCell hg _).setCell hg _).setCell hg _).setCell hg _
theorem setc_same {w : World} {b q : Nat} {x : Value} (h : ∃ y, w.cell? ⟨b, q, none⟩ = some y) : (w.setCell ⟨b, q, none⟩ x).cell? ⟨b, q, none⟩ = some x := by
  obtain ⟨y, hy⟩ := h
  exact World.cell?_setCell_same _ _ _ hy
theorem setc_any {w : World} {b q b' q' : Nat} {x : Value} (h : ∃ y, w.cell? ⟨b, q, none⟩ = some y) : ∃ y, (w.setCell ⟨b', q', none⟩ x).cell? ⟨b, q, none⟩ = some y := by
  by_cases e : (⟨b, q, none⟩ : Addr) = ⟨b', q', none⟩
  · obtain ⟨y, hy⟩ := h
    have e2 : b = b' ∧ q = q' := by simpa using e
    obtain ⟨rfl, rfl⟩ := e2
    exact ⟨x, World.cell?_setCell_same _ _ _ hy⟩
  · rw [World.cell?_setCell_other _ _ _ _ (fun h => e h.symm)]
    exact h
theorem setc_up {w : World} {b q q' : Nat} {x v : Value} (h : q < q') (k : w.cell? ⟨b, q, none⟩ = some v) : (w.setCell ⟨b, q', none⟩ x).cell? ⟨b, q, none⟩ = some v := by
  rw [World.cell?_setCell_other _ _ _ _ (by simp <;> omega)]
  exact k
theorem put10_same (w : World) (g o : Nat) (c : Cl) (h : ∀ i, i < 10 → ∃ y, w.cell? ⟨g, o + i, none⟩ = some y) : At10 (put10 w g o c) g o c := by
  have h0 := h 0 (by omega)
  have h1 := h 1 (by omega)
  have h2 := h 2 (by omega)
  have h3 := h 3 (by omega)
  have h4 := h 4 (by omega)
  have h5 := h 5 (by omega)
  have h6 := h 6 (by omega)
  have h7 := h 7 (by omega)
  have h8 := h 8 (by omega)
  have h9 := h 9 (by omega)
  rw [Nat.add_zero] at h0
  unfold put10
  refine ⟨?_, ?_, ?_, ?_, ?_, ?_, ?_, ?_, ?_, ?_⟩
  all_goals (repeat (refine setc_up ?_ ?_; (focus omega)))
  all_goals (refine setc_same ?_; repeat (first | with_reducible assumption | refine setc_any ?_))
theorem put10_at (w : World) (g o : Nat) (c c' : Cl) (b q : Nat) (h : At10 w b q c') (hn : b ≠ g ∨ q + 10 ≤ o ∨ o + 10 ≤ q) : At10 (put10 w g o c) b q c' := by
  have k := fun i (hi : i < 10) => put10_other w g o c b (q + i) (by omega)
  obtain ⟨h0, h1, h2, h3, h4, h5, h6, h7, h8, h9⟩ := h
  generalize put10 w g o c = W at k
  exact ⟨(k 0 (by omega)).trans h0, (k 1 (by omega)).trans h1, (k 2 (by omega)).trans h2, (k 3 (by omega)).trans h3, (k 4 (by omega)).trans h4, (k 5 (by omega)).trans h5, (k 6 (by omega)).trans h6, (k 7 (by omega)).trans h7, (k 8 (by omega)).trans h8, (k 9 (by omega)).trans h9⟩
def CallsNew (w w' : World) (v : Value) (L : List Cl) : Prop := ∃ fp, CallsO w' v L fp ∧ fp.Nodup ∧ (∀ g ∈ fp, w.heap.size ≤ g) ∧ Below w.heap.size w w'

theorem At10.keep {w w' : World} {b o : Nat} {c : Cl} (h : At10 w b o c) (hz : b < w.heap.size) (hb : Below w.heap.size w w') : At10 w' b o c := h.of (cells_of_block (hb.block b hz))
def Two10 (W0 W : World) (a p b q : Nat) (c : Cl) : Prop := Below W0.heap.size W0 W ∧ At10 W a p c ∧ At10 W b q c ∧ a < W.heap.size ∧ b < W.heap.size
theorem Two10.keep {W0 W W' : World} {a p b q : Nat} {c : Cl} (h : Two10 W0 W a p b q c) (hb : Below W.heap.size W W') : Two10 W0 W' a p b q c := by
  obtain ⟨h0, h1, h2, h3, h4⟩ := h
  have := hb.size
  exact ⟨below_step h0 hb, h1.keep h3 hb, h2.keep h4 hb, by omega, by omega⟩
def lim10 (W0 W : World) (a p b q : Nat) (c : Cl) : Prop := Two10 W0 W a p b q c ∧ W.cell? ⟨a, p, none⟩ = some (.int .i64 c.k) ∧ W.cell? ⟨a, p + 1, none⟩ = some (.int .i64 c.a) ∧ W.cell? ⟨a, p + 2, none⟩ = some (.int .i64 c.x) ∧ W.cell? ⟨a, p + 3, none⟩ = some (.int .i64 c.pc) ∧ W.cell? ⟨a, p + 4, none⟩ = some (.int .i64 c.p) ∧ W.cell? ⟨a, p + 5, none⟩ = some (.int .i64 c.c) ∧ W.cell? ⟨a, p + 6, none⟩ = some (.int .i64 c.w) ∧ W.cell? ⟨a, p + 7, none⟩ = some (.int .i64 c.r) ∧ W.cell? ⟨a, p + 8, none⟩ = some (.int .i64 c.v) ∧ W.cell? ⟨a, p + 9, none⟩ = some (.bool c.d) ∧
  W.cell? ⟨b, q, none⟩ = some (.int .i64 c.k) ∧ W.cell? ⟨b, q + 1, none⟩ = some (.int .i64 c.a) ∧ W.cell? ⟨b, q + 2, none⟩ = some (.int .i64 c.x) ∧ W.cell? ⟨b, q + 3, none⟩ = some (.int .i64 c.pc) ∧ W.cell? ⟨b, q + 4, none⟩ = some (.int .i64 c.p) ∧ W.cell? ⟨b, q + 5, none⟩ = some (.int .i64 c.c) ∧ W.cell? ⟨b, q + 6, none⟩ = some (.int .i64 c.w) ∧ W.cell? ⟨b, q + 7, none⟩ = some (.int .i64 c.r) ∧ W.cell? ⟨b, q + 8, none⟩ = some (.int .i64 c.v) ∧ W.cell? ⟨b, q + 9, none⟩ = some (.bool c.d)
theorem lim10_of {W0 W : World} {a p b q : Nat} {c : Cl} (h : Two10 W0 W a p b q c) : lim10 W0 W a p b q c := by
  have h' := h
  obtain ⟨-, ⟨h0, h1, h2, h3, h4, h5, h6, h7, h8, h9⟩, ⟨g0, g1, g2, g3, g4, g5, g6, g7, g8, g9⟩, -⟩ := h
  exact ⟨h', h0, h1, h2, h3, h4, h5, h6, h7, h8, h9, g0, g1, g2, g3, g4, g5, g6, g7, g8, g9⟩

theorem len_zero {α : Type} {L : List α} (h : ¬ 0 < L.length) : L = [] := List.length_eq_zero_iff.1 (by omega)
theorem clZero_cells (n j : Nat) (hj : j < n * 10) : ∃ y, (madeCells (.agg #[.int .i64 clZero.k, .int .i64 clZero.a, .int .i64 clZero.x, .int .i64 clZero.pc, .int .i64 clZero.p, .int .i64 clZero.c, .int .i64 clZero.w, .int .i64 clZero.r, .int .i64 clZero.v, .bool clZero.d] : Value).cells (n * 10))[j]? = some y := by
  have h : j < (madeCells (.agg #[.int .i64 clZero.k, .int .i64 clZero.a, .int .i64 clZero.x, .int .i64 clZero.pc, .int .i64 clZero.p, .int .i64 clZero.c, .int .i64 clZero.w, .int .i64 clZero.r, .int .i64 clZero.v, .bool clZero.d] : Value).cells (n * 10)).size := by simp [madeCells]; exact hj
  exact ⟨_, Array.getElem?_eq_getElem h⟩

end Go.Proofs.Ytijmjpjclhgaoaa

namespace Go.Proofs.Ytijmjpjclhgaoaa
open Go.ChangeShapes Go.WideShapes Go.ChangeAt Go.RowKit
set_option linter.unusedVariables false

theorem be_a {w w1 : World} (hb : Below w.drew.heap.size w.drew w1) (o : Obj) : Below w.heap.size w (w1.alloc o) :=
  have h : Below w.heap.size w w1 := (Below.refl _ _).drew.trans hb
  h.alloc h.size o
theorem be_b {w w1 : World} {o : Obj} (hb : Below (w.alloc o).drew.heap.size (w.alloc o).drew w1) : Below w.heap.size w w1 :=
  ((Below.refl _ _).alloc (Nat.le_refl _) o).drew.trans (hb.mono (by show w.heap.size ≤ (w.heap.push o).size; simp))
def digB (d : Nat) : UInt8 := UInt8.ofNat (48 + d)
theorem dec_small (n : Nat) (h : n < 10) : Lib.decDigits n = [digB n] := Lib.decDigits_one h
theorem dec_step (n : Nat) (h : ¬ n < 10) : Lib.decDigits n = Lib.decDigits (n / 10) ++ [digB (n % 10)] := by
  rw [Lib.decDigits, dif_neg h]; rfl
theorem dec_len (n : Nat) : (Lib.decDigits n).length ≤ n + 1 := by
  induction n using Nat.strongRecOn with
  | ind n ih =>
    by_cases h : n < 10
    · rw [dec_small n h]; simp
    · rw [dec_step n h, List.length_append]
      have := ih (n / 10) (by omega)
      simp only [List.length_cons, List.length_nil]
      omega
theorem str_eq {a b : List UInt8} (h : a = b) : Ending.returned (.string ⟨a.toArray⟩) = .returned (.string ⟨b.toArray⟩) := by rw [h]

end Go.Proofs.Ytijmjpjclhgaoaa

namespace Go.Proofs.Ytijmjpjclhgaoaa
open Go.ChangeShapes Go.WideShapes Go.ChangeAt Go.RowKit
set_option linter.unusedVariables false

theorem one_byte (x : Int) (d : Nat) (h : x = ((48 + d : Nat) : Int)) (hd : d < 10) (W : World) (b : Nat) (hc : W.cell? ⟨b, 0, none⟩ = some (.int .u8 x)) :
    (convert 107 9 (.slice (some ⟨b, 0, none⟩) 1 1)).run Try.prog W = .ok (.string ⟨#[digB d]⟩) W := by
  have e : (digB d).toNat = 48 + d := by unfold digB; simp; omega
  have := run_convert_bytes_back (P := Try.prog) W 107 9 5 ⟨b, 0, none⟩ 1 [digB d] Try.underlying107 Try.underlying5 Try.underlying9 (fun j hj => by
    have hj0 : j = 0 := by simpa using hj
    subst hj0
    show W.cell? ⟨b, 0, none⟩ = some (.int .u8 ((digB d).toNat : Int))
    rw [hc, e, h])
  simpa using this

end Go.Proofs.Ytijmjpjclhgaoaa

namespace Go.Proofs.Ytijmjpjclhgaoaa
open Go.ChangeShapes Go.WideShapes Go.ChangeAt Go.RowKit
set_option linter.unusedVariables false

def mtL : Nat → Nat → List UInt8 → List UInt8
  | 0, _, out => out
  | f + 1, k, out => if k = 0 then out else mtL f (k / 10) (digB (k % 10) :: out)
def mtA (k : Nat) : List UInt8 := mtL k k []
def mt (k : Nat) : ByteArray := ⟨(109 :: mtA k).toArray⟩
theorem mtL_zero (f : Nat) (out : List UInt8) : mtL f 0 out = out := by cases f <;> simp [mtL]
theorem mtL_step (f k : Nat) (out : List UInt8) (h : k ≠ 0) : mtL (f + 1) k out = mtL f (k / 10) (digB (k % 10) :: out) := by
  rw [mtL, if_neg h]
theorem mt_add (d : UInt8) (out : List UInt8) (h : out.length ≤ 4194304) (W : World) : (Op.stringOp .add ⟨#[d]⟩ ⟨out.toArray⟩).run Try.prog W = .ok (.string ⟨(d :: out).toArray⟩) W := by
  have e : (ByteArray.mk #[d]) = ByteArray.mk [d].toArray := rfl
  rw [run_string_add_sum W _ _ (by simp [ByteArray.size]; omega), e, ByteArray.mk_append_mk]
  rfl
theorem ret_str {a b : ByteArray} (h : a = b) : Ending.returned (.string a) = .returned (.string b) := by rw [h]

set_option maxRecDepth 100000 in
theorem mark_text (K : Nat) (w : World) (h1 : 1 ≤ K) (h2 : K ≤ 4194304) :
    Calls Try.prog 67 #[.int .i64 K] w fun e w' => e = .returned (.string (mt K)) ∧ Below w.heap.size w w' := by
  have g1 : ¬ (K : Int) ≤ 0 := by omega
  go_enter Try.func67, Try.ntmps67
  go_wp2
  go_loopw [0, 3] (fun x o wr => ∃ (k f : Nat) (out : List UInt8), x = .int .i64 k ∧ o = .string ⟨out.toArray⟩ ∧ k ≤ f ∧ out.length + k ≤ 4194304 ∧ Below w.heap.size w wr ∧ Hid (mtL f k out = mtA K)) (fun x _ _ => (intOf x).toNat)
  case atStart => exact ⟨K, K, [], rfl, rfl, Nat.le_refl _, by simp; omega, Below.refl _ _, rfl⟩
  case round =>
    obtain ⟨k, f, out, rfl, rfl, hkf, hlen, hb, HS⟩ := hrel
    by_cases hk : k = 0
    · subst hk
      have HS2 : Hid (out = mtA K) := by have := HS.out; rw [mtL_zero] at this; exact this
      have had := mt_add 109 out (by omega)
      go_wp2
      go_ret
      exact ⟨ret_str (by unfold mt; rw [← HS2.out]), hb⟩
    · have hk' : (0 : Int) < (k : Int) := by omega
      have hcv := one_byte (48 + (k : Int) % 10) (k % 10) (by omega) (by omega)
      have had := mt_add (digB (k % 10)) out (by omega)
      have hsz := hb.size
      go_wp2
      go_roundw
      case rel =>
        obtain ⟨f', rfl⟩ : ∃ f', f = f' + 1 := ⟨f - 1, by omega⟩
        exact ⟨k / 10, f', digB (k % 10) :: out, by go_num, rfl, by omega, by simp; omega, hb.alloc hsz _, by rw [← mtL_step f' k out hk]; exact HS.out⟩
      case measure => simp [intOf]; omega

end Go.Proofs.Ytijmjpjclhgaoaa

namespace Go.Proofs.Ytijmjpjclhgaoaa
open Go.ChangeShapes Go.WideShapes Go.ChangeAt Go.RowKit
set_option linter.unusedVariables false


def marks (k0 n : Nat) : List Value := (List.range n).map fun j => Value.string (mt (k0 + j))
theorem marks_len (k0 n : Nat) : (marks k0 n).length = n := by simp [marks]

end Go.Proofs.Ytijmjpjclhgaoaa

namespace Go.Proofs.Ytijmjpjclhgaoaa
open Go.ChangeShapes Go.WideShapes Go.ChangeAt Go.RowKit
set_option linter.unusedVariables false

def szR (l : Int) (n : Nat) : Int := if l < n then -1 else l - n
def szTh (t : Th) : Nat := t.cs.length + t.bs.length + t.es.length
def pS (ts : List Th) : Nat → Nat
  | 0 => 0
  | k + 1 => pS ts k + szTh (ts.getD k default)
def szThs (ts : List Th) : Nat := ts.length + pS ts ts.length
theorem pS_mono (ts : List Th) {a b : Nat} (h : a ≤ b) : pS ts a ≤ pS ts b := by
  induction b with
  | zero => obtain rfl : a = 0 := by omega
            exact Nat.le_refl _
  | succ b ih =>
    by_cases e : a = b + 1
    · subst e; exact Nat.le_refl _
    · exact Nat.le_trans (ih (by omega)) (Nat.le_add_right _ _)
def TsLim (ts : List Th) : Prop := ∀ j (hj : j < ts.length), ts[j].cs.length ≤ 9223372036854775807 ∧ ts[j].bs.length ≤ 9223372036854775807 ∧ ts[j].es.length ≤ 9223372036854775807
theorem getD_at {α : Type} [Inhabited α] (ts : List α) (k : Nat) (h : k < ts.length) : ts.getD k default = ts[k] := by simp [List.getD, List.getElem?_eq_getElem h]
theorem pS_step (ts : List Th) (k : Nat) (h : k < ts.length) : pS ts (k + 1) = pS ts k + szTh ts[k] := by
  show pS ts k + szTh (ts.getD k default) = _
  rw [getD_at ts k h]

end Go.Proofs.Ytijmjpjclhgaoaa

namespace Go.Proofs.Ytijmjpjclhgaoaa
open Go.ChangeShapes Go.WideShapes Go.ChangeAt Go.RowKit
set_option linter.unusedVariables false

/- a variable of the call's own: all its cells, and that it may be written -/
def Bx (W : World) (b : Nat) (xs : Array Value) : Prop := b < W.heap.size ∧ (∀ o, W.cell? ⟨b, o, none⟩ = xs[o]?) ∧ ∀ o, W.frozen? ⟨b, o, none⟩ = false
theorem Bx.block {W W' : World} {b : Nat} {xs : Array Value} (h : Bx W b xs) (hz : W.heap.size ≤ W'.heap.size) (e : W'.heap[b]? = W.heap[b]?) : Bx W' b xs :=
  ⟨Nat.lt_of_lt_of_le h.1 hz, fun o => (cells_of_block e o).trans (h.2.1 o), fun o => (frozen_of_block e o).trans (h.2.2 o)⟩
theorem Bx.below {W W' : World} {b : Nat} {xs : Array Value} (h : Bx W b xs) (hb : Below W.heap.size W W') : Bx W' b xs := h.block hb.size (hb.block b h.1)
theorem Bx.alloc {W : World} {b : Nat} {xs : Array Value} (h : Bx W b xs) (o : Obj) : Bx (W.alloc o) b xs := h.below ((Below.refl _ _).alloc (Nat.le_refl _) _)
theorem Bx.drew {W : World} {b : Nat} {xs : Array Value} (h : Bx W b xs) : Bx W.drew b xs := h.below ((Below.refl _ _).drew)
theorem Bx.new (W : World) (xs : Array Value) (T : TypeId) : Bx (W.alloc (.cells xs T)) W.heap.size xs := ⟨by simp, fun o => by simp [go_sem], fun o => by simp [go_sem]⟩
theorem Bx.newAt {W : World} {n : Nat} (xs : Array Value) (T : TypeId) (hn : n = W.heap.size) : Bx (W.alloc (.cells xs T)) n xs := by subst hn; exact Bx.new W xs T
theorem bx2 (w : World) (A B : Array Value) (Ta Tb : TypeId) : Bx ((w.alloc (.cells A Ta)).alloc (.cells B Tb)) w.heap.size A ∧ Bx ((w.alloc (.cells A Ta)).alloc (.cells B Tb)) (w.heap.size + 1) B ∧ Below w.heap.size w ((w.alloc (.cells A Ta)).alloc (.cells B Tb)) ∧ ((w.alloc (.cells A Ta)).alloc (.cells B Tb)).heap.size = w.heap.size + 2 :=
  ⟨(Bx.new w _ _).alloc _, Bx.newAt _ _ (by simp), ((Below.refl w.heap.size w).alloc (Nat.le_refl _) _).alloc (by simp) _, by simp⟩
theorem bx3 (w : World) (A B C : Array Value) (Ta Tb Tc : TypeId) : Bx (((w.alloc (.cells A Ta)).alloc (.cells B Tb)).alloc (.cells C Tc)) w.heap.size A ∧ Bx (((w.alloc (.cells A Ta)).alloc (.cells B Tb)).alloc (.cells C Tc)) (w.heap.size + 1) B ∧ Bx (((w.alloc (.cells A Ta)).alloc (.cells B Tb)).alloc (.cells C Tc)) (w.heap.size + 1 + 1) C ∧ Below w.heap.size w (((w.alloc (.cells A Ta)).alloc (.cells B Tb)).alloc (.cells C Tc)) ∧ (((w.alloc (.cells A Ta)).alloc (.cells B Tb)).alloc (.cells C Tc)).heap.size = w.heap.size + 3 :=
  ⟨((Bx.new w _ _).alloc _).alloc _, (Bx.newAt _ _ (by simp)).alloc _, Bx.newAt _ _ (by simp), (((Below.refl w.heap.size w).alloc (Nat.le_refl _) _).alloc (by simp) _).alloc (by simp <;> omega) _, by simp⟩
theorem Bx.set {W : World} {b i : Nat} {xs : Array Value} (h : Bx W b xs) (x : Value) (hi : i < xs.size) : Bx (W.setCell ⟨b, i, none⟩ x) b (xs.setIfInBounds i x) := by
  refine ⟨by simpa using h.1, fun o => ?_, fun o => by rw [World.frozen?_setCell]; exact h.2.2 o⟩
  by_cases e : o = i
  · subst e
    refine (World.cell?_setCell_same _ _ _ ((h.2.1 o).trans (Array.getElem?_eq_getElem hi))).trans ?_
    simp [hi]
  · rw [World.cell?_setCell_other _ _ _ _ (by simp <;> omega), h.2.1 o, Array.getElem?_setIfInBounds_ne (by omega)]
theorem Bx.other {W : World} {b p i : Nat} {xs : Array Value} (h : Bx W b xs) (x : Value) (hp : b ≠ p) : Bx (W.setCell ⟨p, i, none⟩ x) b xs :=
  h.block (by simp) (Below.heap_setCell _ _ _ _ (by simpa using hp))
theorem CallsO.set {w : World} {v : Value} {xs : List Cl} {fp : List Nat} (h : CallsO w v xs fp) {p i : Nat} {x : Value} (hp : ¬ p ∈ fp) : CallsO (w.setCell ⟨p, i, none⟩ x) v xs fp :=
  h.loc (by simp) (fun g hg => Below.heap_setCell _ _ _ _ (by show g ≠ p; intro e; exact hp (e ▸ hg)))
theorem IntsO.set {w : World} {v : Value} {xs : List Int} {fp : List Nat} (h : IntsO w v xs fp) {p i : Nat} {x : Value} (hp : ¬ p ∈ fp) : IntsO (w.setCell ⟨p, i, none⟩ x) v xs fp :=
  h.loc (by simp) (fun g hg => Below.heap_setCell _ _ _ _ (by show g ≠ p; intro e; exact hp (e ▸ hg)))
theorem ThO.set {w : World} {v0 v2 v3 : Value} {t : Th} {fp : List Nat} (h : ThO w v0 v2 v3 t fp) {p i : Nat} {x : Value} (hp : ¬ p ∈ fp) : ThO (w.setCell ⟨p, i, none⟩ x) v0 v2 v3 t fp :=
  h.loc (by simp) (fun g hg => Below.heap_setCell _ _ _ _ (by show g ≠ p; intro e; exact hp (e ▸ hg)))
theorem ThsO.set {w : World} {v : Value} {ts : List Th} {fp : List Nat} (h : ThsO w v ts fp) {p i : Nat} {x : Value} (hp : ¬ p ∈ fp) : ThsO (w.setCell ⟨p, i, none⟩ x) v ts fp :=
  h.loc (by simp) (fun g hg => Below.heap_setCell _ _ _ _ (by show g ≠ p; intro e; exact hp (e ▸ hg)))
theorem not_mem_lt {fp : List Nat} {p s : Nat} (h : ∀ g ∈ fp, s ≤ g) (hp : p < s) : ¬ p ∈ fp := fun hm => by have := h p hm; omega
/- a row of integers, copied: it is owned, and its length is within its room -/
def IntsNew (w w' : World) (v : Value) (xs : List Int) : Prop := ∃ fp, IntsO w' v xs fp ∧ fp.Nodup ∧ (∀ g ∈ fp, w.heap.size ≤ g) ∧ Below w.heap.size w w'
def ThNew (w w' : World) (v0 v2 v3 : Value) (t : Th) : Prop := ∃ fp, ThO w' v0 v2 v3 t fp ∧ fp.Nodup ∧ (∀ g ∈ fp, w.heap.size ≤ g) ∧ Below w.heap.size w w'
def ThsNew (w w' : World) (v : Value) (ts : List Th) : Prop := ∃ fp, ThsO w' v ts fp ∧ fp.Nodup ∧ (∀ g ∈ fp, w.heap.size ≤ g) ∧ Below w.heap.size w w'
def CwNew (w w' : World) (vm vt : Value) (C : Cw) : Prop := ∃ fp, CwO w' vm vt C fp ∧ fp.Nodup ∧ (∀ g ∈ fp, w.heap.size ≤ g) ∧ Below w.heap.size w w'
set_option maxHeartbeats 800000 in
set_option maxRecDepth 100000 in
theorem to_ints_some (b off c : Nat) (xs : List Int) (w : World) (hn : xs.length ≤ 4194304) (h0 : 0 < xs.length) (hb : b < w.heap.size)
    (hA : ∀ j (hj : j < xs.length), w.cell? ⟨b, off + j, none⟩ = some (.int .i64 xs[j])) :
    Calls Try.prog 39 #[.slice (some ⟨b, off, none⟩) xs.length c] w fun e w' => ∃ v', e = .returned v' ∧ IntsNew w w' v' xs := by
  obtain ⟨i0, hi, hz0, hz1, hz2⟩ := info_parts info3
  have HA : Hid _ := hA
  clear hA
  go_enter Try.func39, Try.ntmps39
  go_wp2_with (at_make; refine wpList_make_full _ rfl _ _ 30 rfl w.heap.size 3 i0 (.int .i64 0) 1 Try.underlying30 hi hz0 hz1 .i64 .i64 _ _ xs.length rfl rfl rfl rfl (by rw [hz2]; omega) (by unfold maxLen; omega) (Nat.le_refl _) ?_; intro w1 hown hgrow)
  have hb1 : Below w.heap.size w w1 := (Below.refl _ _).grown hgrow (Nat.le_refl _) (fun k hk => by cases hk)
  have hgz : w.heap.size < w1.heap.size ∧ (∀ j, j < xs.length → ∃ x, w1.cell? ⟨w.heap.size, j, none⟩ = some x) ∧ ∀ j, w1.frozen? ⟨w.heap.size, j, none⟩ = false := by
    rcases own_cells hown with ⟨h, _⟩ | ⟨g, cap, hv, h1, h2, h3, h4, h5, h6, h7⟩
    · cases h
    · simp at hv
      obtain ⟨rfl, _⟩ := hv
      refine ⟨h2, fun j hj => ?_, h7⟩
      have hl : j < (madeCells (Value.int .i64 0).cells (xs.length * 1)).toList.length := by omega
      exact ⟨_, h6 j hl⟩
  clear hown hgrow
  obtain ⟨hgs, hg1, hg2⟩ := hgz
  have HG : Hid _ := hg1
  have HF : Hid _ := hg2
  clear hg1 hg2
  go_wp2
  go_loopw [4] (fun i wr => ∃ k : Nat, k ≤ xs.length ∧ i = .int .i64 k ∧ w.heap.size < wr.heap.size ∧ Below w.heap.size w wr ∧ Hid ((∀ j (hj : j < xs.length), j < k → wr.cell? ⟨w.heap.size, j, none⟩ = some (.int .i64 xs[j])) ∧ (∀ j, k ≤ j → j < xs.length → ∃ x, wr.cell? ⟨w.heap.size, j, none⟩ = some x) ∧ ∀ j, wr.frozen? ⟨w.heap.size, j, none⟩ = false)) (fun i _ => xs.length - (intOf i).toNat)
  case atStart => exact ⟨0, Nat.zero_le _, rfl, hgs, hb1, ⟨fun j _ hj => by omega, fun j _ hj => HG.out j hj, HF.out⟩⟩
  case round =>
    obtain ⟨k, hk, rfl, hgr, hbw, HS⟩ := hrel
    by_cases hlt : k < xs.length
    · obtain ⟨x, hx⟩ := HS.out.2.1 k (Nat.le_refl _) hlt
      have hz := HS.out.2.2 k
      have hlt' : (k : Int) < (xs.length : Int) := by omega
      have hr := (hbw.cell (p := ⟨b, off + k, none⟩) hb).trans (HA.out k hlt)
      obtain ⟨y, hy⟩ : ∃ y, xs[k] = y := ⟨_, rfl⟩
      rw [hy] at hr
      have HY : Hid _ := hy
      clear hy
      go_wp2
      go_roundw
      case rel =>
        refine ⟨k + 1, by omega, by go_num, by simp; omega, hbw.setCell (Nat.le_refl _) _, ⟨fun j hj hjk => ?_, fun j hj1 hj2 => ?_, fun j => ?_⟩⟩
        · by_cases ej : j = k
          · subst ej; refine (World.cell?_setCell_same _ _ _ hx).trans ?_; rw [HY.out]
          · rw [World.cell?_setCell_other _ _ _ _ (by simp <;> omega)]; exact HS.out.1 j hj (by omega)
        · rw [World.cell?_setCell_other _ _ _ _ (by simp <;> omega)]; exact HS.out.2.1 j (by omega) hj2
        · rw [World.frozen?_setCell]; exact HS.out.2.2 j
      case measure => simp [intOf]; omega
    · go_wp2
      go_ret
      exact ⟨.slice (some ⟨w.heap.size, 0, none⟩) xs.length xs.length, rfl, [w.heap.size], ⟨_, xs.length, rfl, trivial, .inr ⟨w.heap.size, rfl, rfl, hgr, fun j hj => HS.out.1 j hj (by omega), HS.out.2.2⟩⟩, by simp, by simp, hbw⟩
theorem to_ints_zero (a : Option Addr) (c : Nat) (w : World) :
    Calls Try.prog 39 #[.slice a 0 c] w fun e w' => ∃ v', e = .returned v' ∧ IntsNew w w' v' [] := by
  obtain ⟨i0, hi, hz0, hz1, hz2⟩ := info_parts info3
  go_enter Try.func39, Try.ntmps39
  go_wp2_with (at_make; refine wpList_make_full _ rfl _ _ 30 rfl w.heap.size 3 i0 (.int .i64 0) 1 Try.underlying30 hi hz0 hz1 .i64 .i64 _ _ 0 rfl rfl rfl rfl (by omega) (by unfold maxLen; omega) (Nat.le_refl _) ?_; intro w1 hown hgrow)
  have hb1 : Below w.heap.size w w1 := (Below.refl _ _).grown hgrow (Nat.le_refl _) (fun k hk => by cases hk)
  clear hown hgrow
  go_wp2
  go_loop [4] (fun i => i = .int .i64 0) (fun _ => 0)
  case atStart => rfl
  case round =>
    subst hrel
    go_wp2
    go_ret
    exact ⟨.slice (some ⟨w.heap.size, 0, none⟩) 0 0, rfl, [], ⟨_, 0, rfl, trivial, .inl ⟨rfl, rfl⟩⟩, by simp, by simp, hb1⟩
theorem to_ints (w : World) (v : Value) (xs : List Int) (hn : xs.length ≤ 4194304) (h : IntsIn w v xs) :
    Calls Try.prog 39 #[v] w fun e w' => ∃ v', e = .returned v' ∧ IntsNew w w' v' xs := by
  obtain ⟨⟨a, cap, rfl, h⟩, -⟩ := h
  by_cases h0 : 0 < xs.length
  · rcases h with rfl | ⟨b, off, rfl, h1, h2⟩
    · exact absurd h0 (by simp)
    · exact to_ints_some b off cap xs w hn h0 h1 h2
  · obtain rfl := len_zero h0
    exact to_ints_zero _ cap w
theorem infoTh4 (n j : Nat) (hj : j < n * 4) : ∃ y, (madeCells (Value.agg #[.slice none 0 0, .int .i64 0, .slice none 0 0, .slice none 0 0]).cells (n * 4))[j]? = some y := by
  have h : j < (madeCells (Value.agg #[.slice none 0 0, .int .i64 0, .slice none 0 0, .slice none 0 0]).cells (n * 4)).size := by simp [madeCells]; exact hj
  exact ⟨_, Array.getElem?_eq_getElem h⟩
def put4 (w : World) (g o : Nat) (x0 x1 x2 x3 : Value) : World := (((w.setCell ⟨g, o, none⟩ x0).setCell ⟨g, o + 1, none⟩ x1).setCell ⟨g, o + 2, none⟩ x2).setCell ⟨g, o + 3, none⟩ x3
theorem put4_other (w : World) (g o : Nat) (x0 x1 x2 x3 : Value) (b q : Nat) (h : b ≠ g ∨ q < o ∨ o + 4 ≤ q) : (put4 w g o x0 x1 x2 x3).cell? ⟨b, q, none⟩ = w.cell? ⟨b, q, none⟩ := by
  unfold put4
  repeat rw [World.cell?_setCell_other _ _ _ _ (by simp; omega)]
theorem put4_frozen (w : World) (g o : Nat) (x0 x1 x2 x3 : Value) (b q : Nat) : (put4 w g o x0 x1 x2 x3).frozen? ⟨b, q, none⟩ = w.frozen? ⟨b, q, none⟩ := by
  unfold put4
  simp only [World.frozen?_setCell]
theorem put4_size (w : World) (g o : Nat) (x0 x1 x2 x3 : Value) : (put4 w g o x0 x1 x2 x3).heap.size = w.heap.size := by unfold put4; simp
theorem put4_block (w : World) (g o : Nat) (x0 x1 x2 x3 : Value) (b : Nat) (h : b ≠ g) : (put4 w g o x0 x1 x2 x3).heap[b]? = w.heap[b]? := by
  unfold put4
  exact (Below.heap_setCell _ _ _ _ h).trans ((Below.heap_setCell _ _ _ _ h).trans ((Below.heap_setCell _ _ _ _ h).trans (Below.heap_setCell _ _ _ _ h)))
theorem put4_below (B : Nat) (u w : World) (g o : Nat) (x0 x1 x2 x3 : Value) (h : Below B u w) (hg : B ≤ g) : Below B u (put4 w g o x0 x1 x2 x3) := by
  unfold put4
  exact (((h.setCell hg _).setCell hg _).setCell hg _).setCell hg _
theorem put4_same (w : World) (g o : Nat) (x0 x1 x2 x3 : Value) (h : ∀ i, i < 4 → ∃ y, w.cell? ⟨g, o + i, none⟩ = some y) : At4 (put4 w g o x0 x1 x2 x3) g o x0 x1 x2 x3 := by
  have h0 := h 0 (by omega)
  have h1 := h 1 (by omega)
  have h2 := h 2 (by omega)
  have h3 := h 3 (by omega)
  rw [Nat.add_zero] at h0
  unfold put4
  refine ⟨?_, ?_, ?_, ?_⟩
  all_goals (repeat (refine setc_up ?_ ?_; (focus omega)))
  all_goals (refine setc_same ?_; repeat (first | with_reducible assumption | refine setc_any ?_))
theorem put4_at (w : World) (g o : Nat) (x0 x1 x2 x3 : Value) (b q : Nat) (y0 y1 y2 y3 : Value) (h : At4 w b q y0 y1 y2 y3) (hn : b ≠ g ∨ q + 4 ≤ o ∨ o + 4 ≤ q) : At4 (put4 w g o x0 x1 x2 x3) b q y0 y1 y2 y3 := by
  have k := fun i (hi : i < 4) => put4_other w g o x0 x1 x2 x3 b (q + i) (by omega)
  obtain ⟨h0, h1, h2, h3⟩ := h
  generalize put4 w g o x0 x1 x2 x3 = W at k
  exact ⟨(k 0 (by omega)).trans h0, (k 1 (by omega)).trans h1, (k 2 (by omega)).trans h2, (k 3 (by omega)).trans h3⟩
theorem At4.keep {w w' : World} {b o : Nat} {v0 v1 v2 v3 : Value} (h : At4 w b o v0 v1 v2 v3) (hz : b < w.heap.size) (hb : Below w.heap.size w w') : At4 w' b o v0 v1 v2 v3 := h.of (cells_of_block (hb.block b hz))
def TsFit (ts : List Th) : Prop := ∀ j (hj : j < ts.length), ts[j].cs.length ≤ 4194304 ∧ ts[j].bs.length ≤ 4194304 ∧ ts[j].es.length ≤ 4194304
/- the first k threads of a row, copied into block g -/
def ThsMade (wr : World) (lo g : Nat) (ts : List Th) (k : Nat) (fps : Nat → List Nat) : Prop :=
  (∀ j (hj : j < ts.length), j < k → ∃ v0 v2 v3, At4 wr g (j * 4) v0 (.int .i64 ts[j].at_) v2 v3 ∧ ThO wr v0 v2 v3 ts[j] (fps j)) ∧
  (∀ j, k * 4 ≤ j → j < ts.length * 4 → ∃ x, wr.cell? ⟨g, j, none⟩ = some x) ∧ (∀ j, wr.frozen? ⟨g, j, none⟩ = false) ∧
  (g :: (List.range k).flatMap fps).Nodup ∧ (∀ x ∈ (List.range k).flatMap fps, g < x ∧ x < wr.heap.size) ∧ lo ≤ g ∧ g < wr.heap.size

end Go.Proofs.Ytijmjpjclhgaoaa

namespace Go.Proofs.Ytijmjpjclhgaoaa
open Go.ChangeShapes Go.WideShapes Go.ChangeAt Go.RowKit
set_option linter.unusedVariables false

set_option maxHeartbeats 800000 in
set_option maxRecDepth 100000 in
theorem eq_ints_some (g og h oh c d : Nat) (ps : List Int) (w : World) (hn : ps.length ≤ 4194304) (h0 : 0 < ps.length)
    (hA : ∀ j (hj : j < ps.length), w.cell? ⟨g, og + j, none⟩ = some (.int .i64 ps[j])) (hB : ∀ j (hj : j < ps.length), w.cell? ⟨h, oh + j, none⟩ = some (.int .i64 ps[j])) :
    Calls Try.prog 47 #[.slice (some ⟨g, og, none⟩) ps.length c, .slice (some ⟨h, oh, none⟩) ps.length d] w fun e w' => e = .returned (.bool true) ∧ ∃ n, w' = w.drewN n := by
  have HA : Hid _ := hA
  have HB : Hid _ := hB
  clear hA hB
  go_enter Try.func47, Try.ntmps47
  go_wp2
  go_loopw [5] (fun i wr => ∃ k n : Nat, k ≤ ps.length ∧ i = .int .i64 k ∧ wr = w.drewN n) (fun i _ => ps.length - (intOf i).toNat)
  case atStart => exact ⟨0, 0, Nat.zero_le _, rfl, rfl⟩
  case round =>
    obtain ⟨k, n, hk, rfl, rfl⟩ := hrel
    by_cases hlt : k < ps.length
    · have cA := HA.out k hlt
      have cB := HB.out k hlt
      have hlt' : (k : Int) < (ps.length : Int) := by omega
      generalize ps[k] = x at cA cB
      go_wp2
      go_quiet (fail)
      go_wp2
      go_roundw
      case rel => exact ⟨k + 1, _, by omega, by go_num, rfl⟩
      case measure => simp [intOf]; omega
    · go_wp2
      go_ret
      exact ⟨rfl, n, rfl⟩
theorem eq_ints (w : World) (v1 v2 : Value) (ps : List Int) (hn : ps.length ≤ 4194304) (r1 : IntsIn w v1 ps) (r2 : IntsIn w v2 ps) :
    Calls Try.prog 47 #[v1, v2] w fun e w' => e = .returned (.bool true) ∧ Below w.heap.size w w' := by
  obtain ⟨⟨a, c, rfl, q1⟩, -⟩ := r1
  obtain ⟨⟨b, d, rfl, q2⟩, -⟩ := r2
  have fin : ∀ e (w' : World), (e = Ending.returned (.bool true) ∧ ∃ n, w' = w.drewN n) → e = .returned (.bool true) ∧ Below w.heap.size w w' := by
    rintro e w' ⟨rfl, n, rfl⟩
    exact ⟨rfl, below_drewN (Below.refl _ _) n⟩
  by_cases h0 : 0 < ps.length
  · rcases q1 with rfl | ⟨g, og, rfl, g1, q1⟩
    · exact absurd h0 (by simp)
    · rcases q2 with rfl | ⟨h, oh, rfl, h1, q2⟩
      · exact absurd h0 (by simp)
      · exact (eq_ints_some g og h oh c d ps w hn h0 q1 q2).mono fin
  · obtain rfl := len_zero h0
    exact (eq_int_zero _ _ c d w).mono fin
def ThFit (t : Th) : Prop := t.cs.length ≤ 4194304 ∧ t.bs.length ≤ 4194304 ∧ t.es.length ≤ 4194304
def Two4 (W0 W : World) (a p b q : Nat) (v0 v1 v2 v3 u0 u1 u2 u3 : Value) : Prop := Below W0.heap.size W0 W ∧ At4 W a p v0 v1 v2 v3 ∧ At4 W b q u0 u1 u2 u3 ∧ a < W.heap.size ∧ b < W.heap.size
theorem Two4.keep {W0 W W' : World} {a p b q : Nat} {v0 v1 v2 v3 u0 u1 u2 u3 : Value} (h : Two4 W0 W a p b q v0 v1 v2 v3 u0 u1 u2 u3) (hb : Below W.heap.size W W') : Two4 W0 W' a p b q v0 v1 v2 v3 u0 u1 u2 u3 := by
  obtain ⟨h0, h1, h2, h3, h4⟩ := h
  have := hb.size
  exact ⟨below_step h0 hb, h1.keep h3 hb, h2.keep h4 hb, by omega, by omega⟩
def lim4 (W0 W : World) (a p b q : Nat) (v0 v1 v2 v3 u0 u1 u2 u3 : Value) : Prop := Two4 W0 W a p b q v0 v1 v2 v3 u0 u1 u2 u3 ∧ W.cell? ⟨a, p, none⟩ = some v0 ∧ W.cell? ⟨a, p + 1, none⟩ = some v1 ∧ W.cell? ⟨a, p + 2, none⟩ = some v2 ∧ W.cell? ⟨a, p + 3, none⟩ = some v3 ∧ W.cell? ⟨b, q, none⟩ = some u0 ∧ W.cell? ⟨b, q + 1, none⟩ = some u1 ∧ W.cell? ⟨b, q + 2, none⟩ = some u2 ∧ W.cell? ⟨b, q + 3, none⟩ = some u3
theorem lim4_of {W0 W : World} {a p b q : Nat} {v0 v1 v2 v3 u0 u1 u2 u3 : Value} (h : Two4 W0 W a p b q v0 v1 v2 v3 u0 u1 u2 u3) : lim4 W0 W a p b q v0 v1 v2 v3 u0 u1 u2 u3 := by
  have h' := h
  obtain ⟨-, ⟨h0, h1, h2, h3⟩, ⟨g0, g1, g2, g3⟩, -⟩ := h
  exact ⟨h', h0, h1, h2, h3, g0, g1, g2, g3⟩
def CwFit (C : Cw) : Prop := C.m.length ≤ 4194304 ∧ C.ts.length ≤ 4194304 ∧ TsFit C.ts

end Go.Proofs.Ytijmjpjclhgaoaa

namespace Go.Proofs.Ytijmjpjclhgaoaa
open Go.ChangeShapes Go.WideShapes Go.ChangeAt Go.RowKit
set_option linter.unusedVariables false

def mkInts (k n : Nat) : List Int := (List.range n).map fun j => ((k + j : Nat) : Int)
theorem mkInts_len (k n : Nat) : (mkInts k n).length = n := by simp [mkInts]
theorem mkInts_at (k n j : Nat) (hj : j < (mkInts k n).length) : (mkInts k n)[j] = ((k + j : Nat) : Int) := by simp [mkInts]
def mkCallZ (K : Int) : Cl := ⟨K, K + 1, K + 1 + 1, K + 1 + 1 + 1, K + 1 + 1 + 1 + 1, K + 1 + 1 + 1 + 1 + 1, K + 1 + 1 + 1 + 1 + 1 + 1, K + 1 + 1 + 1 + 1 + 1 + 1 + 1, K + 1 + 1 + 1 + 1 + 1 + 1 + 1 + 1, ((K + 1 + 1 + 1 + 1 + 1 + 1 + 1 + 1 + 1) % 3 == 0)⟩
def mkCall (k : Nat) : Cl := mkCallZ (k : Int)
theorem mkCall_z (k0 j : Nat) : mkCall (k0 + 10 * j) = mkCallZ ((k0 : Int) + 10 * (j : Int)) := by
  unfold mkCall
  rw [show (((k0 + 10 * j : Nat)) : Int) = (k0 : Int) + 10 * (j : Int) by push_cast; rfl]
def mkCalls (k n : Nat) : List Cl := (List.range n).map fun j => mkCall (k + 10 * j)
theorem mkCalls_len (k n : Nat) : (mkCalls k n).length = n := by simp [mkCalls]
theorem mkCalls_at (k n j : Nat) (hj : j < (mkCalls k n).length) : (mkCalls k n)[j] = mkCall (k + 10 * j) := by simp [mkCalls]
def szM (t : Th) : Nat := 10 * t.cs.length + 1 + t.bs.length + t.es.length
def mkTh (k : Nat) (t : Th) : Th := ⟨mkCalls k t.cs.length, ((k + 10 * t.cs.length : Nat) : Int), mkInts (k + 10 * t.cs.length + 1) t.bs.length, mkInts (k + 10 * t.cs.length + 1 + t.bs.length) t.es.length⟩
def oT (ts : List Th) (k0 : Nat) : Nat → Nat
  | 0 => k0
  | j + 1 => oT ts k0 j + szM (ts.getD j default)
def mkThs (k0 : Nat) (ts : List Th) : List Th := (List.range ts.length).map fun j => mkTh (oT ts k0 j) (ts.getD j default)
theorem mkThs_len (k0 : Nat) (ts : List Th) : (mkThs k0 ts).length = ts.length := by simp [mkThs]
theorem mkThs_at (k0 : Nat) (ts : List Th) (j : Nat) (hj : j < (mkThs k0 ts).length) (h : j < ts.length) : (mkThs k0 ts)[j] = mkTh (oT ts k0 j) ts[j] := by
  simp [mkThs, h]
theorem oT_step (ts : List Th) (k0 k : Nat) (h : k < ts.length) : oT ts k0 (k + 1) = oT ts k0 k + szM ts[k] := by
  show oT ts k0 k + szM (ts.getD k default) = _
  rw [getD_at ts k h]
theorem oT_mono (ts : List Th) (k0 : Nat) {a b : Nat} (h : a ≤ b) : oT ts k0 a ≤ oT ts k0 b := by
  induction b with
  | zero => obtain rfl : a = 0 := by omega
            exact Nat.le_refl _
  | succ b ih =>
    by_cases e : a = b + 1
    · subst e; exact Nat.le_refl _
    · exact Nat.le_trans (ih (by omega)) (Nat.le_add_right _ _)
def mkCw (k : Nat) (C : Cw) : Cw := ⟨C.what, C.size, mkInts k C.m.length, mkThs (k + C.m.length) C.ts, C.clock⟩
def endM (k : Nat) (C : Cw) : Nat := oT C.ts (k + C.m.length) C.ts.length

set_option maxHeartbeats 800000 in
set_option maxRecDepth 100000 in
theorem mark_ints_some (g c n k0 : Nat) (w : World) (hn : n ≤ 4194304) (h2 : k0 ≤ 1073741824) (hg : g < w.heap.size)
    (hA : ∀ j, j < n → ∃ x, w.cell? ⟨g, j, none⟩ = some x) (hF : ∀ j, w.frozen? ⟨g, j, none⟩ = false) :
    Calls Try.prog 49 #[.slice (some ⟨g, 0, none⟩) n c, .int .i64 k0] w fun e w' => e = .returned (.int .i64 ((k0 + n : Nat) : Int)) ∧
      (∀ j, j < n → w'.cell? ⟨g, j, none⟩ = some (.int .i64 ((k0 + j : Nat) : Int))) ∧ (∀ j, w'.frozen? ⟨g, j, none⟩ = false) ∧ Kp [g] w w' := by
  have HA : Hid _ := hA
  have HF : Hid _ := hF
  clear hA hF
  go_enter Try.func49, Try.ntmps49
  go_wp2
  go_loopw [5, 1] (fun i kk wr => ∃ k : Nat, k ≤ n ∧ i = .int .i64 k ∧ kk = .int .i64 ((k0 + k : Nat) : Int) ∧ g < wr.heap.size ∧ Kp [g] w wr ∧ Hid ((∀ j, j < k → wr.cell? ⟨g, j, none⟩ = some (.int .i64 ((k0 + j : Nat) : Int))) ∧ (∀ j, k ≤ j → j < n → ∃ x, wr.cell? ⟨g, j, none⟩ = some x) ∧ ∀ j, wr.frozen? ⟨g, j, none⟩ = false)) (fun i _ _ => n - (intOf i).toNat)
  case atStart => exact ⟨0, Nat.zero_le _, rfl, rfl, hg, Kp.refl _ _, ⟨fun j hj => by omega, fun j _ hj => HA.out j hj, HF.out⟩⟩
  case round =>
    obtain ⟨k, hk, rfl, rfl, hgr, hb, HS⟩ := hrel
    by_cases hlt : k < n
    · obtain ⟨x, hx⟩ := HS.out.2.1 k (Nat.le_refl _) hlt
      have hz := HS.out.2.2 k
      have hlt' : (k : Int) < (n : Int) := by omega
      go_wp2
      go_roundw
      case rel =>
        refine ⟨k + 1, by omega, by go_num, by go_num, by simp; omega, hb.setCell (.inl (by simp)), ⟨fun j hj => ?_, fun j hj1 hj2 => ?_, fun j => ?_⟩⟩
        · by_cases ej : j = k
          · subst ej; refine (World.cell?_setCell_same _ _ _ hx).trans ?_; simp
          · rw [World.cell?_setCell_other _ _ _ _ (by simp <;> omega)]; exact HS.out.1 j (by omega)
        · rw [World.cell?_setCell_other _ _ _ _ (by simp <;> omega)]; exact HS.out.2.1 j (by omega) hj2
        · rw [World.frozen?_setCell]; exact HS.out.2.2 j
      case measure => simp [intOf]; omega
    · have HK : Hid (k = n) := (by omega : k = n)
      go_wp2
      go_ret
      exact ⟨ret_ints (by rw [HK.out]), by rw [← HK.out]; exact HS.out.1, HS.out.2.2, hb⟩
theorem mark_ints (w : World) (v : Value) (xs : List Int) (fp : List Nat) (k0 : Nat) (hn : xs.length ≤ 4194304) (h2 : k0 ≤ 1073741824) (h : IntsO w v xs fp) :
    Calls Try.prog 49 #[v, .int .i64 k0] w fun e w' => e = .returned (.int .i64 ((k0 + xs.length : Nat) : Int)) ∧ IntsO w' v (mkInts k0 xs.length) fp ∧ Kp fp w w' := by
  obtain ⟨a, cap, rfl, hc, h⟩ := h
  by_cases h0 : 0 < xs.length
  · rcases h with ⟨rfl, -⟩ | ⟨g, rfl, rfl, g1, g2, g3⟩
    · exact absurd h0 (by simp)
    · refine (mark_ints_some g cap xs.length k0 w hn h2 g1 (fun j hj => ⟨_, g2 j hj⟩) g3).mono ?_
      rintro e w' ⟨rfl, m1, m2, m3⟩
      exact ⟨rfl, ⟨_, cap, by rw [mkInts_len], trivial, .inr ⟨g, rfl, rfl, Nat.lt_of_lt_of_le g1 m3.size, fun j hj => by rw [m1 j (by rw [mkInts_len] at hj; exact hj), mkInts_at], m2⟩⟩, m3⟩
  · obtain rfl := len_zero h0
    rcases h with ⟨-, rfl⟩ | ⟨g, rfl, rfl, g1, g2, g3⟩
    · refine (mark_int_zero a cap k0 w).mono ?_
      rintro e w' ⟨rfl, rfl⟩
      exact ⟨rfl, ⟨a, cap, rfl, hc, .inl ⟨rfl, rfl⟩⟩, Kp.refl _ _⟩
    · refine (mark_int_zero _ cap k0 w).mono ?_
      rintro e w' ⟨rfl, rfl⟩
      exact ⟨rfl, ⟨_, cap, rfl, hc, .inr ⟨g, rfl, rfl, g1, fun j hj => by simp [mkInts] at hj, g3⟩⟩, Kp.refl _ _⟩
set_option maxHeartbeats 800000 in
set_option maxRecDepth 100000 in
theorem held_ints_some (g c n k0 : Nat) (w : World) (hn : n ≤ 4194304) (h2 : k0 ≤ 1073741824)
    (hA : ∀ j, j < n → w.cell? ⟨g, j, none⟩ = some (.int .i64 ((k0 + j : Nat) : Int))) :
    Calls Try.prog 51 #[.slice (some ⟨g, 0, none⟩) n c, .int .i64 k0] w fun e w' => e = .returned (.int .i64 ((k0 + n : Nat) : Int)) ∧ w' = w := by
  have HA : Hid _ := hA
  clear hA
  go_enter Try.func51, Try.ntmps51
  go_wp2
  go_loop [5, 1] (fun i kk => ∃ k : Nat, k ≤ n ∧ i = .int .i64 k ∧ kk = .int .i64 ((k0 + k : Nat) : Int)) (fun i _ => n - (intOf i).toNat)
  case atStart => exact ⟨0, Nat.zero_le _, rfl, rfl⟩
  case round =>
    obtain ⟨k, hk, rfl, rfl⟩ := hrel
    by_cases hlt : k < n
    · have hx := HA.out k hlt
      have hlt' : (k : Int) < (n : Int) := by omega
      go_wp2
      go_round
      case rel => exact ⟨k + 1, by omega, by go_num, by go_num⟩
      case measure => simp [intOf]; omega
    · have HK : Hid (k = n) := (by omega : k = n)
      go_wp2
      go_ret
      exact ⟨ret_ints (by rw [HK.out]), rfl⟩
theorem held_ints (w : World) (v : Value) (n k0 : Nat) (fp : List Nat) (hn : n ≤ 4194304) (h2 : k0 ≤ 1073741824) (h : IntsO w v (mkInts k0 n) fp) :
    Calls Try.prog 51 #[v, .int .i64 k0] w fun e w' => e = .returned (.int .i64 ((k0 + n : Nat) : Int)) ∧ w' = w := by
  obtain ⟨a, cap, rfl, hc, h⟩ := h
  rw [mkInts_len]
  by_cases h0 : 0 < n
  · rcases h with ⟨h, -⟩ | ⟨g, rfl, rfl, g1, g2, g3⟩
    · exact absurd (congrArg List.length h) (by rw [mkInts_len]; simp; omega)
    · exact held_ints_some g cap n k0 w hn h2 (fun j hj => by rw [g2 j (by rw [mkInts_len]; exact hj), mkInts_at])
  · obtain rfl : n = 0 := by omega
    exact held_int_zero a cap k0 w
theorem At10.eqv {W : World} {b o : Nat} {c c' : Cl} (h : At10 W b o c) (e : c = c') : At10 W b o c' := e ▸ h
theorem flat_last (n : Nat) (f : Nat → List Nat) : (List.range (n + 1)).flatMap f = (List.range n).flatMap f ++ f n := by
  rw [List.range_succ, List.flatMap_append]
  simp
theorem flat_mem {n : Nat} {f : Nat → List Nat} {j x : Nat} (hj : j < n) (hx : x ∈ f j) : x ∈ (List.range n).flatMap f := List.mem_flatMap.2 ⟨j, List.mem_range.2 hj, hx⟩
theorem flat_apart (n : Nat) (f : Nat → List Nat) (h : ((List.range n).flatMap f).Nodup) : (∀ j, j < n → (f j).Nodup) ∧ ∀ i j, i < n → j < n → i ≠ j → ∀ x ∈ f i, ¬ x ∈ f j := by
  induction n with
  | zero => exact ⟨fun j hj => by omega, fun i j hi => by omega⟩
  | succ n ih =>
    rw [flat_last, List.nodup_append] at h
    obtain ⟨h1, h2, h3⟩ := h
    obtain ⟨i1, i2⟩ := ih h1
    refine ⟨fun j hj => ?_, fun i j hi hj hn x hx hm => ?_⟩
    · by_cases e : j = n
      · subst e; exact h2
      · exact i1 j (by omega)
    · by_cases e : j = n
      · subst e; exact h3 x (flat_mem (by omega) hx) x hm rfl
      · by_cases e2 : i = n
        · subst e2; exact h3 x (flat_mem (by omega) hm) x hx rfl
        · exact i2 i j (by omega) (by omega) hn x hx hm
/- the threads in block g are f 0, f 1, .. -/
def TsAt (w : World) (g n : Nat) (fps : Nat → List Nat) (f : Nat → Th) : Prop := ∀ j, j < n → ∃ v0 v2 v3, At4 w g (j * 4) v0 (.int .i64 (f j).at_) v2 v3 ∧ ThO w v0 v2 v3 (f j) (fps j)
def mkTo (ts : List Th) (k0 k : Nat) (j : Nat) : Th := if j < k then mkTh (oT ts k0 j) (ts.getD j default) else ts.getD j default
theorem Kp.at4 {bs : List Nat} {w w' : World} {g o : Nat} {v0 v1 v2 v3 : Value} (h : Kp bs w w') (a : At4 w g o v0 v1 v2 v3) (hg : g < w.heap.size) (hn : ¬ g ∈ bs) : At4 w' g o v0 v1 v2 v3 := a.of (cells_of_block (h.block g hg hn))
theorem Kp.tho {bs : List Nat} {w w' : World} {v0 v2 v3 : Value} {t : Th} {fp : List Nat} (h : Kp bs w w') (a : ThO w v0 v2 v3 t fp) (hn : ∀ x ∈ fp, ¬ x ∈ bs) : ThO w' v0 v2 v3 t fp := a.loc' (fun x hx => h.block x (a.lt x hx) (hn x hx))
theorem Kp.calls {bs : List Nat} {w w' : World} {v : Value} {t : List Cl} {fp : List Nat} (h : Kp bs w w') (a : CallsO w v t fp) (hn : ∀ x ∈ fp, ¬ x ∈ bs) : CallsO w' v t fp := a.loc' (fun x hx => h.block x (a.lt x hx) (hn x hx))
theorem Kp.ints {bs : List Nat} {w w' : World} {v : Value} {t : List Int} {fp : List Nat} (h : Kp bs w w') (a : IntsO w v t fp) (hn : ∀ x ∈ fp, ¬ x ∈ bs) : IntsO w' v t fp := a.loc' (fun x hx => h.block x (a.lt x hx) (hn x hx))
theorem Kp.ths {bs : List Nat} {w w' : World} {v : Value} {t : List Th} {fp : List Nat} (h : Kp bs w w') (a : ThsO w v t fp) (hn : ∀ x ∈ fp, ¬ x ∈ bs) : ThsO w' v t fp := a.loc' (fun x hx => h.block x (a.lt x hx) (hn x hx))
theorem mkCalls_form (v : Value) (w : World) (k n : Nat) (fp : List Nat) (h : CallsO w v (mkCalls k n) fp) : ∃ a c, v = .slice a n c := by
  obtain ⟨a, c, e, -⟩ := h
  exact ⟨a, c, by rw [e, mkCalls_len]⟩
theorem oT_end_le (ts : List Th) (k0 : Nat) (hk : k0 ≤ 1073741824) (h : oT ts k0 ts.length ≤ 1073741824) (k : Nat) (hk : k ≤ ts.length) : oT ts k0 k ≤ 1073741824 := Nat.le_trans (oT_mono ts k0 hk) h

end Go.Proofs.Ytijmjpjclhgaoaa

namespace Go.Proofs.Ytijmjpjclhgaoaa
open Go.ChangeShapes Go.WideShapes Go.ChangeAt Go.RowKit
set_option linter.unusedVariables false

theorem oT_le (ts : List Th) (k0 n : Nat) : oT ts k0 n ≤ k0 + 10 * pS ts n + n := by
  induction n with
  | zero => exact Nat.le_refl _
  | succ n ih =>
    show oT ts k0 n + szM (ts.getD n default) ≤ k0 + 10 * (pS ts n + szTh (ts.getD n default)) + (n + 1)
    unfold szM szTh
    omega
theorem cw_end (C : Cw) (h : C.m.length + szThs C.ts ≤ 1048576) : endM 1 C ≤ 1073741824 := by
  have := oT_le C.ts (1 + C.m.length) C.ts.length
  unfold szThs at h
  unfold endM
  omega

end Go.Proofs.Ytijmjpjclhgaoaa

namespace Go.Proofs.Ytijmjpjclhgaoaa
open Go.ChangeShapes Go.WideShapes Go.ChangeAt Go.RowKit
set_option linter.unusedVariables false

structure It where
  k : ByteArray
  v : ByteArray
  f : Int
def itemZero : It := ⟨ByteArray.empty, ByteArray.empty, 0⟩
instance : Inhabited It := ⟨itemZero⟩
def ItemAt (w : World) (b o : Nat) (c : It) : Prop := w.cell? ⟨b, o, none⟩ = some (.string c.k) ∧ w.cell? ⟨b, o + 1, none⟩ = some (.string c.v) ∧ w.cell? ⟨b, o + 2, none⟩ = some (.int .i64 c.f)
theorem ItemAt.of {w w' : World} {b o : Nat} {c : It} (h : ItemAt w b o c) (hb : ∀ q, w'.cell? ⟨b, q, none⟩ = w.cell? ⟨b, q, none⟩) : ItemAt w' b o c := by
  obtain ⟨h0, h1, h2⟩ := h
  exact ⟨(hb _).trans h0, (hb _).trans h1, (hb _).trans h2⟩
theorem ItemAt.keep {w w' : World} {b o : Nat} {c : It} (h : ItemAt w b o c) (hz : b < w.heap.size) (hb : Below w.heap.size w w') : ItemAt w' b o c := h.of (cells_of_block (hb.block b hz))
theorem ItemAt.eqv {W : World} {b o : Nat} {c c' : It} (h : ItemAt W b o c) (e : c = c') : ItemAt W b o c' := e ▸ h
def ItemsIn (w : World) (v : Value) (cs : List It) : Prop :=
  ∃ a cap, v = .slice a cs.length cap ∧ cs.length ≤ cap ∧ (cs = [] ∨ ∃ b off, a = some ⟨b, off, none⟩ ∧ b < w.heap.size ∧ ∀ j (hj : j < cs.length), ItemAt w b (off + j * 3) cs[j])
theorem ItemsIn.below {w w' : World} {v : Value} {cs : List It} (h : ItemsIn w v cs) (hb : Below w.heap.size w w') : ItemsIn w' v cs := by
  obtain ⟨a, cap, hv, hc, h⟩ := h
  refine ⟨a, cap, hv, hc, ?_⟩
  rcases h with h | ⟨b, off, ha, h1, h2⟩
  · exact .inl h
  · exact .inr ⟨b, off, ha, Nat.lt_of_lt_of_le h1 hb.size, fun j hj => (h2 j hj).of (cells_of_block (hb.block b h1))⟩
theorem ItemsIn.form {w : World} {v : Value} {cs : List It} (h : ItemsIn w v cs) : ∃ a c, v = .slice a cs.length c ∧ cs.length ≤ c := by
  obtain ⟨a, c, h1, h2, _⟩ := h
  exact ⟨a, c, h1, h2⟩
def ItemsO (w : World) (v : Value) (cs : List It) (fp : List Nat) : Prop :=
  ∃ a cap, v = .slice a cs.length cap ∧ cs.length ≤ cap ∧ ((cs = [] ∧ fp = []) ∨ ∃ g, a = some ⟨g, 0, none⟩ ∧ fp = [g] ∧ g < w.heap.size ∧ (∀ j (hj : j < cs.length), ItemAt w g (j * 3) cs[j]) ∧ ∀ j, w.frozen? ⟨g, j, none⟩ = false)
theorem ItemsO.loc' {w w' : World} {v : Value} {xs : List It} {fp : List Nat} (h : ItemsO w v xs fp) (hb : ∀ g ∈ fp, w'.heap[g]? = w.heap[g]?) : ItemsO w' v xs fp := by
  obtain ⟨a, cap, hv, hc, h⟩ := h
  refine ⟨a, cap, hv, hc, ?_⟩
  rcases h with h | ⟨g, ha, hf, h1, h2, h3⟩
  · exact .inl h
  · have e := hb g (by rw [hf]; exact List.mem_singleton.2 rfl)
    exact .inr ⟨g, ha, hf, lt_of_block e h1, fun j hj => (h2 j hj).of (cells_of_block e), fun j => (frozen_of_block e j).trans (h3 j)⟩
theorem ItemsO.lt {w : World} {v : Value} {xs : List It} {fp : List Nat} (h : ItemsO w v xs fp) : ∀ g ∈ fp, g < w.heap.size := by
  obtain ⟨a, cap, hv, hc, ⟨-, rfl⟩ | ⟨g, ha, rfl, h1, -⟩⟩ := h
  · simp
  · simpa using h1
theorem ItemsO.below {w w' : World} {v : Value} {xs : List It} {fp : List Nat} (h : ItemsO w v xs fp) (hb : Below w.heap.size w w') : ItemsO w' v xs fp := h.loc' (fun g hg => hb.block g (h.lt g hg))
theorem ItemsO.rd {w : World} {v : Value} {xs : List It} {fp : List Nat} (h : ItemsO w v xs fp) : ItemsIn w v xs := by
  obtain ⟨a, cap, hv, hc, h⟩ := h
  refine ⟨a, cap, hv, hc, ?_⟩
  rcases h with ⟨h, -⟩ | ⟨g, ha, -, h1, h2, -⟩
  · exact .inl h
  · exact .inr ⟨g, 0, ha, h1, fun j hj => by rw [Nat.zero_add]; exact h2 j hj⟩
theorem ItemsO.set {w : World} {v : Value} {xs : List It} {fp : List Nat} (h : ItemsO w v xs fp) {p i : Nat} {x : Value} (hp : ¬ p ∈ fp) : ItemsO (w.setCell ⟨p, i, none⟩ x) v xs fp :=
  h.loc' (fun g hg => Below.heap_setCell _ _ _ _ (by show g ≠ p; intro e; exact hp (e ▸ hg)))
def ItemsNew (w w' : World) (v : Value) (L : List It) : Prop := ∃ fp, ItemsO w' v L fp ∧ fp.Nodup ∧ (∀ g ∈ fp, w.heap.size ≤ g) ∧ Below w.heap.size w w'
theorem ItemsO.within {lo hi : Nat} {v : Value} {cs : List It} {fp : List Nat} (h : ∀ g ∈ fp, lo ≤ g ∧ g < hi) : Loc lo hi (fun W => ItemsO W v cs fp) :=
  fun w w' p hk => p.loc' (fun g hg => hk g (h g hg).1 (h g hg).2)
theorem Kp.items {bs : List Nat} {w w' : World} {v : Value} {t : List It} {fp : List Nat} (h : Kp bs w w') (a : ItemsO w v t fp) (hn : ∀ x ∈ fp, ¬ x ∈ bs) : ItemsO w' v t fp := a.loc' (fun x hx => h.block x (a.lt x hx) (hn x hx))
theorem infoItem : (Try.prog.info? 26).map (fun i => (i.zero, i.size, i.bytes)) = some (some (.agg #[.string itemZero.k, .string itemZero.v, .int .i64 itemZero.f]), 3, 40) := by kernel_rfl
def putItem (w : World) (g o : Nat) (c : It) : World := ((w.setCell ⟨g, o, none⟩ (.string c.k)).setCell ⟨g, o + 1, none⟩ (.string c.v)).setCell ⟨g, o + 2, none⟩ (.int .i64 c.f)
theorem putItem_other (w : World) (g o : Nat) (c : It) (b q : Nat) (h : b ≠ g ∨ q < o ∨ o + 3 ≤ q) : (putItem w g o c).cell? ⟨b, q, none⟩ = w.cell? ⟨b, q, none⟩ := by
  unfold putItem
  repeat rw [World.cell?_setCell_other _ _ _ _ (by simp; omega)]
theorem putItem_frozen (w : World) (g o : Nat) (c : It) (b q : Nat) : (putItem w g o c).frozen? ⟨b, q, none⟩ = w.frozen? ⟨b, q, none⟩ := by
  unfold putItem
  simp only [World.frozen?_setCell]
theorem putItem_size (w : World) (g o : Nat) (c : It) : (putItem w g o c).heap.size = w.heap.size := by unfold putItem; simp
theorem putItem_kp (bs : List Nat) (u w : World) (g o : Nat) (c : It) (h : Kp bs u w) (hg : g ∈ bs ∨ u.heap.size ≤ g) : Kp bs u (putItem w g o c) := by
  unfold putItem
  exact ((h.setCell hg).setCell hg).setCell hg
theorem putItem_below (B : Nat) (u w : World) (g o : Nat) (c : It) (h : Below B u w) (hg : B ≤ g) : Below B u (putItem w g o c) := by
  unfold putItem
  exact ((h.setCell hg _).setCell hg _).setCell hg _
theorem putItem_same (w : World) (g o : Nat) (c : It) (h : ∀ i, i < 3 → ∃ y, w.cell? ⟨g, o + i, none⟩ = some y) : ItemAt (putItem w g o c) g o c := by
  have h0 := h 0 (by omega)
  have h1 := h 1 (by omega)
  have h2 := h 2 (by omega)
  rw [Nat.add_zero] at h0
  unfold putItem
  refine ⟨?_, ?_, ?_⟩
  all_goals (repeat (refine setc_up ?_ ?_; (focus omega)))
  all_goals (refine setc_same ?_; repeat (first | with_reducible assumption | refine setc_any ?_))
theorem putItem_at (w : World) (g o : Nat) (c c' : It) (b q : Nat) (h : ItemAt w b q c') (hn : b ≠ g ∨ q + 3 ≤ o ∨ o + 3 ≤ q) : ItemAt (putItem w g o c) b q c' := by
  have k := fun i (hi : i < 3) => putItem_other w g o c b (q + i) (by omega)
  obtain ⟨h0, h1, h2⟩ := h
  generalize putItem w g o c = W at k
  exact ⟨(k 0 (by omega)).trans h0, (k 1 (by omega)).trans h1, (k 2 (by omega)).trans h2⟩
theorem putItem_block (w : World) (g o : Nat) (c : It) (b : Nat) (h : b ≠ g) : (putItem w g o c).heap[b]? = w.heap[b]? := by
  unfold putItem
  repeat rw [Below.heap_setCell _ _ _ _ (by simpa using h)]

set_option maxRecDepth 100000 in
theorem to_item (c : It) (w : World) :
    Calls Try.prog 11 #[.agg #[.string c.k, .string c.v, .int .i64 c.f]] w fun e w' => e = .returned (.agg #[.string c.k, .string c.v, .int .i64 c.f]) ∧ Below w.heap.size w w' := by
  go_enter Try.func11, Try.ntmps11
  go_wp2
  refine bodyPost_ret (v := .agg #[.string c.k, .string c.v, .int .i64 c.f]) (by simp [results, Try.results11, go_sem]) rfl ⟨rfl, ?_⟩
  repeat (first | exact Below.refl _ _ | refine Below.setCell ?_ (by simp <;> omega) _ | refine Below.alloc ?_ (by simp <;> omega) _)
set_option maxRecDepth 100000 in
theorem eq_item (c : It) (w : World) :
    Calls Try.prog 66 #[.agg #[.string c.k, .string c.v, .int .i64 c.f], .agg #[.string c.k, .string c.v, .int .i64 c.f]] w fun e w' => e = .returned (.bool true) ∧ Below w.heap.size w w' := by
  go_enter Try.func66, Try.ntmps66
  go_wp2
  go_ret
  exact ⟨rfl, ((Below.refl _ _).alloc (Nat.le_refl _) _).alloc (by simp) _⟩
def szIt (c : It) : Nat := c.k.size + c.v.size
def szItS (L : List It) : Nat := (L.map szIt).sum
theorem szItS_take (L : List It) (k : Nat) (hk : k < L.length) : szItS (L.take (k + 1)) = szItS (L.take k) + szIt L[k] := by
  unfold szItS
  rw [List.take_succ_eq_append_getElem hk, List.map_append, List.sum_append, List.map_cons, List.map_nil, List.sum_cons, List.sum_nil, Nat.add_zero]
theorem szItS_le (L : List It) (k : Nat) : szItS (L.take k) ≤ szItS L := by
  unfold szItS
  have := List.take_append_drop k L
  have e : (L.map szIt).sum = ((L.take k).map szIt).sum + ((L.drop k).map szIt).sum := by
    rw [← List.sum_append, ← List.map_append, this]
  omega
def szRI (L : List It) (l : Int) : Int := if ((L.length + szItS L : Nat) : Int) ≤ l then l - (L.length + szItS L : Nat) else -1
def ItLim (c : It) : Prop := c.k.size ≤ 9223372036854775807 ∧ c.v.size ≤ 9223372036854775807
theorem ret_iv {a b : Int} (h : a = b) : Value.int .i64 a = .int .i64 b := by rw [h]
theorem sz_item (c : It) (l : Int) (w : World) (hc : ItLim c) (h1 : 0 ≤ l) (h2 : l ≤ 4194304) :
    Calls Try.prog 9 #[.agg #[.string c.k, .string c.v, .int .i64 c.f], .int .i64 l] w fun e w' => e = .returned (.int .i64 (if ((szIt c : Nat) : Int) ≤ l then l - (szIt c : Nat) else -1)) ∧ Below w.heap.size w w' := by
  obtain ⟨q1, q2⟩ := hc
  unfold szIt
  by_cases h : ((c.k.size : Nat) : Int) ≤ l
  · by_cases h' : ((c.k.size + c.v.size : Nat) : Int) ≤ l
    · rw [if_pos h']
      go_enter Try.func9, Try.ntmps9
      go_wp2
      go_ret
      exact ⟨ret_ints (by omega), (Below.refl _ _).alloc (Nat.le_refl _) _⟩
    · rw [if_neg h']
      go_enter Try.func9, Try.ntmps9
      go_wp2
      go_ret
      exact ⟨rfl, (Below.refl _ _).alloc (Nat.le_refl _) _⟩
  · rw [if_neg (by omega)]
    go_enter Try.func9, Try.ntmps9
    go_wp2
    go_ret
    exact ⟨rfl, (Below.refl _ _).alloc (Nat.le_refl _) _⟩
theorem sz_items_zero (a : Option Addr) (c : Nat) (l : Int) (w : World) (h1 : 0 ≤ l) (h2 : l ≤ 4194304) :
    Calls Try.prog 32 #[.slice a 0 c, .int .i64 l] w fun e w' => e = .returned (.int .i64 l) ∧ Below w.heap.size w w' := by
  go_enter Try.func32, Try.ntmps32
  go_wp2
  go_loop [5, 1] (fun i k => i = .int .i64 0 ∧ k = .int .i64 l) (fun _ _ => 0)
  case atStart => exact ⟨rfl, ret_iv (by omega)⟩
  case round =>
    obtain ⟨rfl, rfl⟩ := hrel
    go_wp2
    go_ret
    exact ⟨rfl, Below.refl _ _⟩
set_option maxHeartbeats 800000 in
set_option maxRecDepth 100000 in
theorem sz_items_some (b off c : Nat) (L : List It) (l : Int) (w : World) (hn : L.length ≤ 9223372036854775807) (h0 : 0 < L.length) (hb : b < w.heap.size) (h1 : 0 ≤ l) (h2 : l ≤ 4194304)
    (hA : ∀ j (hj : j < L.length), ItemAt w b (off + j * 3) L[j]) (hz : ∀ x ∈ L, ItLim x) :
    Calls Try.prog 32 #[.slice (some ⟨b, off, none⟩) L.length c, .int .i64 l] w fun e w' => e = .returned (.int .i64 (szRI L l)) ∧ Below w.heap.size w w' := by
  have HA := hidIt hA
  have HZ := hidIt hz
  clear hA hz
  by_cases hl : ((L.length : Nat) : Int) ≤ l
  · go_enter Try.func32, Try.ntmps32
    go_wp2
    go_loopw [5, 1] (fun i kk wr => ∃ (k : Nat) (z : Int), k ≤ L.length ∧ i = .int .i64 k ∧ kk = .int .i64 z ∧ Below w.heap.size w wr ∧ 0 ≤ z ∧ z ≤ 4194304 ∧ Hid (z = l - ((L.length + szItS (L.take k) : Nat) : Int))) (fun i _ _ => L.length - (intOf i).toNat)
    case atStart => exact ⟨0, l - (L.length : Nat), Nat.zero_le _, rfl, rfl, Below.refl _ _, by omega, by omega, by show _ = _; simp [szItS]⟩
    case round =>
      rename World => wr
      obtain ⟨k, z, hk, rfl, rfl, hbw, hz0, hz1, HS⟩ := hrel
      by_cases hlt : k < L.length
      · have hlt' : (k : Int) < (L.length : Int) := by omega
        obtain ⟨r0, r1, r2⟩ := (HA.out k hlt).of (fun q => hbw.cell (p := ⟨b, q, none⟩) hb)
        have hy := HZ.out L[k] (List.getElem_mem hlt)
        have hT := hidIt (szItS_take L k hlt)
        have hW := hidIt (szItS_le L (k + 1))
        generalize L[k] = y at r0 r1 r2 hy hT
        have HY := hidIt hy
        clear hy
        go_wp2_with fail
        refine (sz_item y z _ HY.out hz0 hz1).mono ?_
        rintro e wt ⟨rfl, bt⟩
        have zt := bt.size
        by_cases hs : ((szIt y : Nat) : Int) ≤ z
        · rw [if_pos hs]
          have BT := hidIt bt
          clear bt r0 r1 r2
          go_wp2
          go_roundw
          case rel => exact ⟨k + 1, z - (szIt y : Nat), by omega, by go_num, rfl, below_step hbw (BT.out.mono (by omega)), by omega, by omega, by have := HS.out; have := hT.out; show _ = _; omega⟩
          case measure => simp [intOf]; omega
        · rw [if_neg hs]
          have hf : ¬ ((L.length + szItS L : Nat) : Int) ≤ l := by have := HS.out; have := hT.out; have := hW.out; omega
          go_wp2
          go_ret
          exact ⟨ret_ints (by unfold szRI; rw [if_neg (by omega)]), below_step hbw (bt.mono (by omega))⟩
      · have HK : Hid (k = L.length) := (by omega : k = L.length)
        have HF : Hid (z = l - ((L.length + szItS L : Nat) : Int)) := by have := HS.out; rw [HK.out, List.take_length] at this; exact this
        go_wp2
        go_ret
        exact ⟨ret_ints (by unfold szRI; have := HF.out; rw [if_pos (by omega)]; omega), hbw⟩
  · go_enter Try.func32, Try.ntmps32
    go_wp2
    go_ret
    exact ⟨ret_ints (by unfold szRI; rw [if_neg (by omega)]), Below.refl _ _⟩
theorem sz_items (w : World) (v : Value) (L : List It) (l : Int) (hn : L.length ≤ 9223372036854775807) (h1 : 0 ≤ l) (h2 : l ≤ 4194304) (h : ItemsIn w v L) (hz : ∀ x ∈ L, ItLim x) :
    Calls Try.prog 32 #[v, .int .i64 l] w fun e w' => e = .returned (.int .i64 (szRI L l)) ∧ Below w.heap.size w w' := by
  obtain ⟨a, cap, rfl, -, h⟩ := h
  by_cases h0 : 0 < L.length
  · rcases h with rfl | ⟨b, off, rfl, q1, q2⟩
    · exact absurd h0 (by simp)
    · exact sz_items_some b off cap L l w hn h0 q1 h1 h2 q2 hz
  · obtain rfl := len_zero h0
    refine (sz_items_zero a cap l w h1 h2).mono ?_
    rintro e w' ⟨rfl, b⟩
    exact ⟨ret_ints (by unfold szRI; rw [if_pos (by simp [szItS]; omega)]; simp [szItS]), b⟩
theorem eq_items_zero (a b : Option Addr) (c d : Nat) (w : World) :
    Calls Try.prog 46 #[.slice a 0 c, .slice b 0 d] w fun e w' => e = .returned (.bool true) ∧ Below w.heap.size w w' := by
  go_enter Try.func46, Try.ntmps46
  go_wp2
  go_loop [5] (fun i => i = .int .i64 0) (fun _ => 0)
  case atStart => rfl
  case round =>
    subst hrel
    go_wp2
    go_ret
    exact ⟨rfl, Below.refl _ _⟩
def TwoItem (W0 W : World) (a p b q : Nat) (c : It) : Prop := Below W0.heap.size W0 W ∧ ItemAt W a p c ∧ ItemAt W b q c ∧ a < W.heap.size ∧ b < W.heap.size
theorem TwoItem.keep {W0 W W' : World} {a p b q : Nat} {c : It} (h : TwoItem W0 W a p b q c) (hb : Below W.heap.size W W') : TwoItem W0 W' a p b q c := by
  obtain ⟨h0, h1, h2, h3, h4⟩ := h
  have := hb.size
  exact ⟨below_step h0 hb, h1.keep h3 hb, h2.keep h4 hb, by omega, by omega⟩
def limItem (W0 W : World) (a p b q : Nat) (c : It) : Prop := TwoItem W0 W a p b q c ∧ W.cell? ⟨a, p, none⟩ = some (.string c.k) ∧ W.cell? ⟨a, p + 1, none⟩ = some (.string c.v) ∧ W.cell? ⟨a, p + 2, none⟩ = some (.int .i64 c.f) ∧
  W.cell? ⟨b, q, none⟩ = some (.string c.k) ∧ W.cell? ⟨b, q + 1, none⟩ = some (.string c.v) ∧ W.cell? ⟨b, q + 2, none⟩ = some (.int .i64 c.f)
theorem limItem_of {W0 W : World} {a p b q : Nat} {c : It} (h : TwoItem W0 W a p b q c) : limItem W0 W a p b q c := by
  have h' := h
  obtain ⟨-, ⟨h0, h1, h2⟩, ⟨g0, g1, g2⟩, -⟩ := h
  exact ⟨h', h0, h1, h2, g0, g1, g2⟩
set_option maxHeartbeats 1600000 in
set_option maxRecDepth 100000 in
theorem eq_items_some (g og h oh c d : Nat) (L : List It) (w : World) (hn : L.length ≤ 4194304) (h0 : 0 < L.length) (hg : g < w.heap.size) (hh : h < w.heap.size)
    (hA : ∀ j (hj : j < L.length), ItemAt w g (og + j * 3) L[j]) (hB : ∀ j (hj : j < L.length), ItemAt w h (oh + j * 3) L[j]) :
    Calls Try.prog 46 #[.slice (some ⟨g, og, none⟩) L.length c, .slice (some ⟨h, oh, none⟩) L.length d] w fun e w' => e = .returned (.bool true) ∧ Below w.heap.size w w' := by
  have HA := hidIt hA
  have HB := hidIt hB
  clear hA hB
  go_enter Try.func46, Try.ntmps46
  go_wp2
  go_loopw [5] (fun i wr => ∃ k : Nat, k ≤ L.length ∧ i = .int .i64 k ∧ Below w.heap.size w wr) (fun i _ => L.length - (intOf i).toNat)
  case atStart => exact ⟨0, Nat.zero_le _, rfl, Below.refl _ _⟩
  case round =>
    rename World => wr
    obtain ⟨k, hk, rfl, hb⟩ := hrel
    by_cases hlt : k < L.length
    · have cA := HA.out k hlt
      have cB := HB.out k hlt
      have hlt' : (k : Int) < (L.length : Int) := by omega
      generalize L[k] = x at cA cB
      have hS : limItem w wr g (og + k * 3) h (oh + k * 3) x := limItem_of ⟨hb, cA.keep hg hb, cB.keep hh hb, Nat.lt_of_lt_of_le hg hb.size, Nat.lt_of_lt_of_le hh hb.size⟩
      clear cA cB hb
      unfold limItem at hS
      go_wp2_with fail
      go_region_held3 (fun W => TwoItem w W g (og + k * 3) h (oh + k * 3) x ∧ W.cell? ⟨g, og + k * 3, none⟩ = some (.string x.k) ∧ W.cell? ⟨g, og + k * 3 + 1, none⟩ = some (.string x.v) ∧ W.cell? ⟨g, og + k * 3 + 2, none⟩ = some (.int .i64 x.f) ∧
          W.cell? ⟨h, oh + k * 3, none⟩ = some (.string x.k) ∧ W.cell? ⟨h, oh + k * 3 + 1, none⟩ = some (.string x.v) ∧ W.cell? ⟨h, oh + k * 3 + 2, none⟩ = some (.int .i64 x.f))
        (first | exact limItem_of (TwoItem.keep (And.left (by assumption)) (Below.refl _ _).drew) | exact limItem_of (TwoItem.keep (And.left (by assumption)) (by assumption)))
        (first | (go_at_call 66; refine (eq_item x _).mono ?_; rintro e wa ⟨rfl, ba⟩))
      rename_i hH
      have hb := hH.1.1
      clear hH
      go_wp2
      go_roundw
      case rel => exact ⟨k + 1, by omega, by go_num, hb⟩
      case measure => simp [intOf]; omega
    · go_wp2
      go_ret
      exact ⟨rfl, hb⟩
theorem eq_items (w : World) (v1 v2 : Value) (L : List It) (hn : L.length ≤ 4194304) (r1 : ItemsIn w v1 L) (r2 : ItemsIn w v2 L) :
    Calls Try.prog 46 #[v1, v2] w fun e w' => e = .returned (.bool true) ∧ Below w.heap.size w w' := by
  obtain ⟨a, c, rfl, -, q1⟩ := r1
  obtain ⟨b, d, rfl, -, q2⟩ := r2
  by_cases h0 : 0 < L.length
  · rcases q1 with rfl | ⟨g, og, rfl, g1, q1⟩
    · exact absurd h0 (by simp)
    · rcases q2 with rfl | ⟨h, oh, rfl, h1, q2⟩
      · exact absurd h0 (by simp)
      · exact eq_items_some g og h oh c d L w hn h0 g1 h1 q1 q2
  · obtain rfl := len_zero h0
    exact eq_items_zero _ _ c d w
set_option maxHeartbeats 1600000 in
set_option maxRecDepth 100000 in
theorem to_items_some (b off c : Nat) (L : List It) (w : World) (hn : L.length ≤ 4194304) (h0 : 0 < L.length) (hb : b < w.heap.size)
    (hA : ∀ j (hj : j < L.length), ItemAt w b (off + j * 3) L[j]) :
    Calls Try.prog 38 #[.slice (some ⟨b, off, none⟩) L.length c] w fun e w' => ∃ v', e = .returned v' ∧ ItemsNew w w' v' L := by
  obtain ⟨i0, hi, hz0, hz1, hz2⟩ := info_parts infoItem
  have HA := hidIt hA
  clear hA
  go_enter Try.func38, Try.ntmps38
  go_wp2_with (at_make; refine wpList_make_full _ rfl _ _ 35 rfl w.heap.size 26 i0 (.agg #[.string itemZero.k, .string itemZero.v, .int .i64 itemZero.f]) 3 Try.underlying35 hi hz0 hz1 .i64 .i64 _ _ L.length rfl rfl rfl rfl (by rw [hz2]; omega) (by unfold maxLen; omega) (Nat.le_refl _) ?_; intro w1 hown hgrow)
  have hb1 : Below w.heap.size w w1 := (Below.refl _ _).grown hgrow (Nat.le_refl _) (fun k hk => by cases hk)
  have hgz : w.heap.size < w1.heap.size ∧ (∀ j, j < L.length * 3 → ∃ x, w1.cell? ⟨w.heap.size, j, none⟩ = some x) ∧ ∀ j, w1.frozen? ⟨w.heap.size, j, none⟩ = false := by
    rcases own_cells2 hown with ⟨h, _⟩ | ⟨g, cap, hv, h1, h2, h3, h4, h5, h6, h7⟩
    · cases h
    · simp at hv
      obtain ⟨rfl, _⟩ := hv
      refine ⟨h2, fun j hj => ?_, h7⟩
      have hl : j < (madeCells (.agg #[.string itemZero.k, .string itemZero.v, .int .i64 itemZero.f] : Value).cells (L.length * 3)).toList.length := by omega
      exact ⟨_, h6 j hl⟩
  clear hown hgrow
  obtain ⟨hgs, hg1, hg2⟩ := hgz
  have HG := hidIt hg1
  have HF := hidIt hg2
  clear hg1 hg2
  go_wp2
  go_loopw [4] (fun i wr => ∃ k : Nat, k ≤ L.length ∧ i = .int .i64 k ∧ w.heap.size < wr.heap.size ∧ Below w.heap.size w wr ∧ Hid ((∀ j (hj : j < L.length), j < k → ItemAt wr w.heap.size (j * 3) L[j]) ∧ (∀ j, k * 3 ≤ j → j < L.length * 3 → ∃ x, wr.cell? ⟨w.heap.size, j, none⟩ = some x) ∧ ∀ j, wr.frozen? ⟨w.heap.size, j, none⟩ = false)) (fun i _ => L.length - (intOf i).toNat)
  case atStart => exact ⟨0, Nat.zero_le _, rfl, hgs, hb1, ⟨fun j _ hj => by omega, fun j _ hj => HG.out j hj, HF.out⟩⟩
  case round =>
    rename World => wr
    obtain ⟨k, hk, rfl, hgr, hbw, HS⟩ := hrel
    by_cases hlt : k < L.length
    · have hlt' : (k : Int) < (L.length : Int) := by omega
      obtain ⟨r0, r1, r2⟩ := (HA.out k hlt).of (fun q => hbw.cell (p := ⟨b, q, none⟩) hb)
      obtain ⟨y, hy⟩ : ∃ y, L[k] = y := ⟨_, rfl⟩
      have HY := hidIt hy
      rw [hy] at r0 r1 r2
      clear hy
      go_wp2_with fail
      refine (to_item y _).mono ?_
      rintro e wt ⟨rfl, bt⟩
      have zt := bt.size
      have hx : ∀ i, i < 3 → ∃ z, wt.cell? ⟨w.heap.size, k * 3 + i, none⟩ = some z := fun i hi => by
        obtain ⟨z, hz⟩ := HS.out.2.1 (k * 3 + i) (by omega) (by omega)
        exact ⟨z, below_cell bt hgr hz⟩
      obtain ⟨x0, c0⟩ := hx 0 (by omega)
      obtain ⟨x1, c1⟩ := hx 1 (by omega)
      obtain ⟨x2, c2⟩ := hx 2 (by omega)
      rw [Nat.add_zero] at c0
      have HX := hidIt hx
      have hz : ∀ j, wt.frozen? ⟨w.heap.size, j, none⟩ = false := fun j => below_frozen bt hgr (HS.out.2.2 j)
      have BT := hidIt bt
      clear bt r0 r1 r2 hx
      go_wp2
      go_roundw
      case rel =>
        refine ⟨k + 1, by omega, by go_num, by simp; omega, putItem_below _ _ _ _ (k * 3) y (below_step hbw (BT.out.mono (by omega))) (Nat.le_refl _), ⟨fun j hj hjk => ?_, fun j hj1 hj2 => ?_, fun j => ?_⟩⟩
        · by_cases ej : j = k
          · subst ej
            rw [HY.out]
            exact putItem_same wt _ (j * 3) y HX.out
          · exact putItem_at wt _ (k * 3) y _ _ _ (ItemAt.keep (HS.out.1 j hj (by omega)) hgr BT.out) (by omega)
        · obtain ⟨z, hz⟩ := HS.out.2.1 j (by omega) hj2
          exact ⟨z, (putItem_other wt w.heap.size (k * 3) y w.heap.size j (by omega)).trans (below_cell BT.out hgr hz)⟩
        · exact (putItem_frozen wt w.heap.size (k * 3) y w.heap.size j).trans (below_frozen BT.out hgr (HS.out.2.2 j))
      case measure => simp [intOf]; omega
    · go_wp2
      go_ret
      exact ⟨.slice (some ⟨w.heap.size, 0, none⟩) L.length L.length, rfl, [w.heap.size], ⟨_, L.length, rfl, Nat.le_refl _, .inr ⟨w.heap.size, rfl, rfl, hgr, fun j hj => HS.out.1 j hj (by omega), HS.out.2.2⟩⟩, by simp, by simp, hbw⟩
theorem to_items_zero (a : Option Addr) (c : Nat) (w : World) :
    Calls Try.prog 38 #[.slice a 0 c] w fun e w' => ∃ v', e = .returned v' ∧ ItemsNew w w' v' [] := by
  obtain ⟨i0, hi, hz0, hz1, hz2⟩ := info_parts infoItem
  go_enter Try.func38, Try.ntmps38
  go_wp2_with (at_make; refine wpList_make_full _ rfl _ _ 35 rfl w.heap.size 26 i0 (.agg #[.string itemZero.k, .string itemZero.v, .int .i64 itemZero.f]) 3 Try.underlying35 hi hz0 hz1 .i64 .i64 _ _ 0 rfl rfl rfl rfl (by omega) (by unfold maxLen; omega) (Nat.le_refl _) ?_; intro w1 hown hgrow)
  have hb1 : Below w.heap.size w w1 := (Below.refl _ _).grown hgrow (Nat.le_refl _) (fun k hk => by cases hk)
  clear hown hgrow
  go_wp2
  go_loop [4] (fun i => i = .int .i64 0) (fun _ => 0)
  case atStart => rfl
  case round =>
    subst hrel
    go_wp2
    go_ret
    exact ⟨.slice (some ⟨w.heap.size, 0, none⟩) 0 0, rfl, [], ⟨_, 0, rfl, Nat.le_refl _, .inl ⟨rfl, rfl⟩⟩, by simp, by simp, hb1⟩
theorem to_items (w : World) (v : Value) (L : List It) (hn : L.length ≤ 4194304) (h : ItemsIn w v L) :
    Calls Try.prog 38 #[v] w fun e w' => ∃ v', e = .returned v' ∧ ItemsNew w w' v' L := by
  obtain ⟨a, cap, rfl, -, h⟩ := h
  by_cases h0 : 0 < L.length
  · rcases h with rfl | ⟨b, off, rfl, h1, h2⟩
    · exact absurd h0 (by simp)
    · exact to_items_some b off cap L w hn h0 h1 h2
  · obtain rfl := len_zero h0
    exact to_items_zero _ cap w
def mkItem (k : Nat) : It := ⟨mt k, mt (k + 1), ((k + 2 : Nat) : Int)⟩
def mkItems (k n : Nat) : List It := (List.range n).map fun j => mkItem (k + 3 * j)
theorem mkItems_len (k n : Nat) : (mkItems k n).length = n := by simp [mkItems]
theorem mkItems_at (k n j : Nat) (hj : j < (mkItems k n).length) : (mkItems k n)[j] = mkItem (k + 3 * j) := by simp [mkItems]
theorem mark_items_zero (a : Option Addr) (c k0 : Nat) (w : World) :
    Calls Try.prog 48 #[.slice a 0 c, .int .i64 k0] w fun e w' => e = .returned (.int .i64 k0) ∧ w' = w := by
  go_enter Try.func48, Try.ntmps48
  go_wp2
  go_loop [5, 1] (fun i k => i = .int .i64 0 ∧ k = .int .i64 k0) (fun _ _ => 0)
  case atStart => exact ⟨rfl, rfl⟩
  case round =>
    obtain ⟨rfl, rfl⟩ := hrel
    go_wp2
    go_ret
    exact ⟨rfl, rfl⟩
theorem held_items_zero (a : Option Addr) (c k0 : Nat) (w : World) :
    Calls Try.prog 50 #[.slice a 0 c, .int .i64 k0] w fun e w' => e = .returned (.int .i64 k0) ∧ w' = w := by
  go_enter Try.func50, Try.ntmps50
  go_wp2
  go_loop [5, 1] (fun i k => i = .int .i64 0 ∧ k = .int .i64 k0) (fun _ _ => 0)
  case atStart => exact ⟨rfl, rfl⟩
  case round =>
    obtain ⟨rfl, rfl⟩ := hrel
    go_wp2
    go_ret
    exact ⟨rfl, rfl⟩
theorem ItemAt.of' {w w' : World} {b o : Nat} {c : It} (h : ItemAt w b o c) (hb : ∀ i, i < 3 → w'.cell? ⟨b, o + i, none⟩ = w.cell? ⟨b, o + i, none⟩) : ItemAt w' b o c := by
  obtain ⟨h0, h1, h2⟩ := h
  exact ⟨(hb 0 (by omega)).trans h0, (hb 1 (by omega)).trans h1, (hb 2 (by omega)).trans h2⟩
theorem setc_ex {w : World} {a p : Addr} {x : Value} (h : ∃ z, w.cell? p = some z) : ∃ z, (w.setCell a x).cell? p = some z := by
  obtain ⟨z, hz⟩ := h
  by_cases e : p = a
  · subst e
    exact ⟨x, World.cell?_setCell_same _ _ _ hz⟩
  · exact ⟨z, (World.cell?_setCell_other _ _ _ _ (fun h => e h.symm)).trans hz⟩
theorem mark3 (w wr w1 w2 w3 : World) (g k n : Nat) (v0 v1 v2 : Value) (hgr : g < wr.heap.size) (kp : Kp [g] w wr) (b1 : Below wr.heap.size wr w1) (b3 : Below w2.heap.size w2 w3)
    (e2 : w2 = w1.setCell ⟨g, k * 3, none⟩ v0) (x1 : ∃ z, w3.cell? ⟨g, k * 3 + 1, none⟩ = some z) (x2 : ∃ z, w3.cell? ⟨g, k * 3 + 2, none⟩ = some z) (q0 : w3.cell? ⟨g, k * 3, none⟩ = some v0) (f3 : ∀ j, w3.frozen? ⟨g, j, none⟩ = false) :
    let W := (w3.setCell ⟨g, k * 3 + 1, none⟩ v1).setCell ⟨g, k * 3 + 2, none⟩ v2
    Kp [g] w W ∧ g < W.heap.size ∧ (W.cell? ⟨g, k * 3, none⟩ = some v0 ∧ W.cell? ⟨g, k * 3 + 1, none⟩ = some v1 ∧ W.cell? ⟨g, k * 3 + 2, none⟩ = some v2) ∧ (∀ j, j < k * 3 ∨ k * 3 + 3 ≤ j → W.cell? ⟨g, j, none⟩ = wr.cell? ⟨g, j, none⟩) ∧ (∀ j, W.frozen? ⟨g, j, none⟩ = false) ∧ W.heap.size = w3.heap.size := by
  have z1 := b1.size
  have z2 : w2.heap.size = w1.heap.size := by rw [e2]; simp
  have z3 := b3.size
  have h2 : Kp [g] w w2 := by rw [e2]; exact (kp.trans (Kp.of_below b1)).setCell (.inl (by simp))
  have hc : ∀ j, j < k * 3 ∨ k * 3 + 3 ≤ j → w3.cell? ⟨g, j, none⟩ = wr.cell? ⟨g, j, none⟩ := fun j hj => by
    rw [b3.cell (p := ⟨g, j, none⟩) (by show g < _; omega), e2, World.cell?_setCell_other _ _ _ _ (by simp <;> omega)]
    exact b1.cell (p := ⟨g, j, none⟩) hgr
  refine ⟨((h2.trans (Kp.of_below b3)).setCell (.inl (by simp))).setCell (.inl (by simp)), by simp; omega, ⟨?_, ?_, ?_⟩, fun j hj => ?_, fun j => ?_, by simp⟩
  · rw [World.cell?_setCell_other _ _ _ _ (by simp), World.cell?_setCell_other _ _ _ _ (by simp)]
    exact q0
  · rw [World.cell?_setCell_other _ _ _ _ (by simp)]
    obtain ⟨z, hz⟩ := x1
    exact World.cell?_setCell_same _ _ _ hz
  · obtain ⟨z, hz⟩ := setc_ex (a := ⟨g, k * 3 + 1, none⟩) (x := v1) x2
    exact World.cell?_setCell_same _ _ _ hz
  · rw [World.cell?_setCell_other _ _ _ _ (by simp <;> omega), World.cell?_setCell_other _ _ _ _ (by simp <;> omega)]
    exact hc j hj
  · simp only [World.frozen?_setCell]
    exact f3 j
set_option maxHeartbeats 1600000 in
set_option maxRecDepth 100000 in
theorem mark_items_some (g c n k0 : Nat) (w : World) (hn : n ≤ 1048576) (h1 : 1 ≤ k0) (h2 : k0 + 3 * n ≤ 4194300) (hg : g < w.heap.size)
    (hA : ∀ j, j < n * 3 → ∃ x, w.cell? ⟨g, j, none⟩ = some x) (hF : ∀ j, w.frozen? ⟨g, j, none⟩ = false) :
    Calls Try.prog 48 #[.slice (some ⟨g, 0, none⟩) n c, .int .i64 k0] w fun e w' => e = .returned (.int .i64 ((k0 + 3 * n : Nat) : Int)) ∧
      (∀ j, j < n → ItemAt w' g (j * 3) (mkItem (k0 + 3 * j))) ∧ (∀ j, w'.frozen? ⟨g, j, none⟩ = false) ∧ Kp [g] w w' := by
  have HA := hidIt hA
  have HF := hidIt hF
  clear hA hF
  go_enter Try.func48, Try.ntmps48
  go_wp2
  go_loopw [5, 1] (fun i kk wr => ∃ k : Nat, k ≤ n ∧ i = .int .i64 k ∧ kk = .int .i64 ((k0 + 3 * k : Nat) : Int) ∧ g < wr.heap.size ∧ Hid (Kp [g] w wr ∧ (∀ j, j < k → ItemAt wr g (j * 3) (mkItem (k0 + 3 * j))) ∧ (∀ j, k * 3 ≤ j → j < n * 3 → ∃ x, wr.cell? ⟨g, j, none⟩ = some x) ∧ ∀ j, wr.frozen? ⟨g, j, none⟩ = false)) (fun i _ _ => n - (intOf i).toNat)
  case atStart => exact ⟨0, Nat.zero_le _, rfl, rfl, hg, ⟨Kp.refl _ _, fun j hj => by omega, fun j _ hj => HA.out j hj, HF.out⟩⟩
  case round =>
    rename World => wr
    obtain ⟨k, hk, rfl, rfl, hgr, HS⟩ := hrel
    by_cases hlt : k < n
    · have hx : ∀ i, i < 3 → ∃ z, wr.cell? ⟨g, k * 3 + i, none⟩ = some z := fun i hi => HS.out.2.2.1 (k * 3 + i) (by omega) (by omega)
      have HX := hidIt hx
      clear hx
      have hlt' : (k : Int) < (n : Int) := by omega
      go_wp2_with fail
      refine (mark_text (k0 + 3 * k) wr (by omega) (by omega)).mono ?_
      rintro e w1 ⟨rfl, b1⟩
      have z1 := b1.size
      have hx1 : ∀ i, i < 3 → ∃ z, w1.cell? ⟨g, k * 3 + i, none⟩ = some z := fun i hi => by
        obtain ⟨z, hz⟩ := HX.out i hi
        exact ⟨z, below_cell b1 hgr hz⟩
      have f1 : ∀ j, w1.frozen? ⟨g, j, none⟩ = false := fun j => below_frozen b1 hgr (HS.out.2.2.2 j)
      obtain ⟨x0, c0⟩ := hx1 0 (by omega)
      rw [Nat.add_zero] at c0
      have HX1 := hidIt hx1
      have HB1 := hidIt b1
      have HF1 := hidIt f1
      have fz := f1 (k * 3)
      clear hx1 b1 f1
      go_wp2_with fail
      clear fz c0
      generalize hW2 : World.setCell w1 _ _ = w2
      have y2 : w2.heap.size = w1.heap.size := by rw [← hW2]; simp
      have e2 := hidIt hW2.symm
      clear hW2
      refine (mark_text (k0 + 3 * k + 1) w2 (by omega) (by omega)).mono ?_
      rintro e w3 ⟨rfl, b3⟩
      have z3 := b3.size
      have hg2 : g < w2.heap.size := by omega
      have hx3 : ∀ i, i < 3 → ∃ z, w3.cell? ⟨g, k * 3 + i, none⟩ = some z := fun i hi => by
        obtain ⟨z, hz⟩ := HX1.out i hi
        obtain ⟨z', hz'⟩ := setc_ex (a := ⟨g, k * 3, none⟩) (x := .string (mt (k0 + 3 * k))) ⟨z, hz⟩
        exact ⟨z', below_cell b3 hg2 (by rw [e2.out]; exact hz')⟩
      have f3 : ∀ j, w3.frozen? ⟨g, j, none⟩ = false := fun j => below_frozen b3 hg2 (by rw [e2.out, World.frozen?_setCell]; exact HF1.out j)
      obtain ⟨x1, c1⟩ := hx3 1 (by omega)
      obtain ⟨x2, c2⟩ := hx3 2 (by omega)
      have HX3 := hidIt hx3
      have HB3 := hidIt b3
      have HF3 := hidIt f3
      have fz1 := f3 (k * 3 + 1)
      have fz2 := f3 (k * 3 + 2)
      clear hx3 b3 f3
      go_wp2
      go_roundw
      case rel =>
        have q0 : w3.cell? ⟨g, k * 3, none⟩ = some (.string (mt (k0 + 3 * k))) := below_cell HB3.out hg2 (by
          obtain ⟨z, hz⟩ := HX1.out 0 (by omega)
          rw [e2.out]; exact World.cell?_setCell_same _ _ _ hz)
        have key := mark3 w wr w1 w2 w3 g k n (.string (mt (k0 + 3 * k))) (.string (mt (k0 + 3 * k + 1))) (.int .i64 ((k0 : Int) + 3 * (k : Int) + 1 + 1)) hgr HS.out.1 HB1.out HB3.out e2.out (HX3.out 1 (by omega)) (HX3.out 2 (by omega)) q0 HF3.out
        obtain ⟨k1, k2, k3, k4, k5, k6⟩ := key
        refine ⟨k + 1, by omega, by go_num, by go_num, by simp; omega, ⟨k1, fun j hj => ?_, fun j hj1 hj2 => ?_, k5⟩⟩
        · by_cases ej : j = k
          · subst ej
            exact ⟨k3.1, k3.2.1, k3.2.2.trans (by show _ = some (Value.int .i64 (((k0 + 3 * j + 2 : Nat)) : Int)); rw [show (((k0 + 3 * j + 2 : Nat)) : Int) = (k0 : Int) + 3 * (j : Int) + 1 + 1 by push_cast; omega])⟩
          · exact ItemAt.of' (HS.out.2.1 j (by omega)) (fun i hi => k4 (j * 3 + i) (by omega))
        · obtain ⟨z, hz⟩ := HS.out.2.2.1 j (by omega) hj2
          exact ⟨z, (k4 j (by omega)).trans hz⟩
      case measure => simp [intOf]; omega
    · have HK : Hid (k = n) := (by omega : k = n)
      go_wp2
      go_ret
      exact ⟨ret_ints (by rw [HK.out]), by rw [← HK.out]; exact HS.out.2.1, HS.out.2.2.2, HS.out.1⟩
theorem mark_items (w : World) (v : Value) (xs : List It) (fp : List Nat) (k0 : Nat) (hn : xs.length ≤ 1048576) (h1 : 1 ≤ k0) (h2 : k0 + 3 * xs.length ≤ 4194300) (h : ItemsO w v xs fp) :
    Calls Try.prog 48 #[v, .int .i64 k0] w fun e w' => e = .returned (.int .i64 ((k0 + 3 * xs.length : Nat) : Int)) ∧ ItemsO w' v (mkItems k0 xs.length) fp ∧ Kp fp w w' := by
  obtain ⟨a, cap, rfl, hc, h⟩ := h
  by_cases h0 : 0 < xs.length
  · rcases h with ⟨rfl, -⟩ | ⟨g, rfl, rfl, g1, g2, g3⟩
    · exact absurd h0 (by simp)
    · refine (mark_items_some g cap xs.length k0 w hn h1 h2 g1 (fun j hj => ?_) g3).mono ?_
      · obtain ⟨q, r, hr, rfl⟩ : ∃ q r, r < 3 ∧ j = q * 3 + r := ⟨j / 3, j % 3, by omega, by omega⟩
        obtain ⟨m0, m1, m2⟩ := g2 q (by omega)
        match r, hr with
        | 0, _ => exact ⟨_, m0⟩
        | 1, _ => exact ⟨_, m1⟩
        | 2, _ => exact ⟨_, m2⟩
      · rintro e w' ⟨rfl, m1, m2, m3⟩
        exact ⟨rfl, ⟨_, cap, by rw [mkItems_len], by rw [mkItems_len]; exact hc, .inr ⟨g, rfl, rfl, Nat.lt_of_lt_of_le g1 m3.size, fun j hj => by rw [mkItems_at]; exact m1 j (by rw [mkItems_len] at hj; exact hj), m2⟩⟩, m3⟩
  · obtain rfl := len_zero h0
    rcases h with ⟨-, rfl⟩ | ⟨g, rfl, rfl, g1, g2, g3⟩
    · refine (mark_items_zero a cap k0 w).mono ?_
      rintro e w' ⟨rfl, rfl⟩
      exact ⟨rfl, ⟨a, cap, rfl, hc, .inl ⟨rfl, rfl⟩⟩, Kp.refl _ _⟩
    · refine (mark_items_zero _ cap k0 w).mono ?_
      rintro e w' ⟨rfl, rfl⟩
      exact ⟨rfl, ⟨_, cap, rfl, hc, .inr ⟨g, rfl, rfl, g1, fun j hj => by simp [mkItems] at hj, g3⟩⟩, Kp.refl _ _⟩
set_option maxHeartbeats 1600000 in
set_option maxRecDepth 100000 in
theorem held_items_some (g c n k0 : Nat) (w : World) (hn : n ≤ 1048576) (h1 : 1 ≤ k0) (h2 : k0 + 3 * n ≤ 4194300) (hg : g < w.heap.size)
    (hA : ∀ j, j < n → ItemAt w g (j * 3) (mkItem (k0 + 3 * j))) :
    Calls Try.prog 50 #[.slice (some ⟨g, 0, none⟩) n c, .int .i64 k0] w fun e w' => e = .returned (.int .i64 ((k0 + 3 * n : Nat) : Int)) ∧ Below w.heap.size w w' := by
  have HA := hidIt hA
  clear hA
  go_enter Try.func50, Try.ntmps50
  go_wp2
  go_loopw [5, 1] (fun i kk wr => ∃ k : Nat, k ≤ n ∧ i = .int .i64 k ∧ kk = .int .i64 ((k0 + 3 * k : Nat) : Int) ∧ Below w.heap.size w wr) (fun i _ _ => n - (intOf i).toNat)
  case atStart => exact ⟨0, Nat.zero_le _, rfl, rfl, Below.refl _ _⟩
  case round =>
    rename World => wr
    obtain ⟨k, hk, rfl, rfl, hb⟩ := hrel
    have hsz := hb.size
    by_cases hlt : k < n
    · obtain ⟨r0, r1, r2⟩ := (HA.out k hlt).of (fun q => hb.cell (p := ⟨g, q, none⟩) hg)
      simp only [mkItem] at r0 r1 r2
      have hlt' : (k : Int) < (n : Int) := by omega
      have hgr : g < wr.heap.size := by omega
      have r2' : wr.cell? ⟨g, k * 3 + 2, none⟩ = some (.int .i64 ((k0 : Int) + 3 * (k : Int) + 1 + 1)) := r2.trans (by rw [show (((k0 + 3 * k + 2 : Nat)) : Int) = (k0 : Int) + 3 * (k : Int) + 1 + 1 by push_cast; omega])
      clear r2
      generalize hm0 : mt (k0 + 3 * k) = y0 at r0
      generalize hm1 : mt (k0 + 3 * k + 1) = y1 at r1
      have HM0 := hidIt hm0
      have HM1 := hidIt hm1
      clear hm0 hm1
      have HR := hidIt (And.intro r1 r2')
      clear r1 r2'
      go_wp2
      go_region_with (go_at_call 67; refine (mark_text (k0 + 3 * k) _ (by omega) (by omega)).mono ?_; rintro e w1 ⟨rfl, hb1⟩; have cx := (hb1.cell (p := ⟨g, k * 3, none⟩) hgr).trans r0; rw [HM0.out])
      all_goals
        have z1 := hb1.size
        have q1 := below_cell (b := g) hb1 hgr (show (World.drew wr).cell? ⟨g, k * 3 + 1, none⟩ = _ from HR.out.1)
        have q2 := below_cell (b := g) hb1 hgr (show (World.drew wr).cell? ⟨g, k * 3 + 2, none⟩ = _ from HR.out.2)
        have hgr1 : g < w1.heap.size := by simp at z1; omega
        have BB := hidIt (hb.drew.trans (hb1.mono hsz))
        clear hb1 cx
        go_wp2
        go_region_with (go_at_call 67; refine (mark_text (k0 + 3 * k + 1) _ (by omega) (by omega)).mono ?_; rintro e w2 ⟨rfl, hb2⟩; have cx := (hb2.cell (p := ⟨g, k * 3 + 1, none⟩) hgr1).trans q1; rw [HM1.out])
        all_goals
          have z2 := hb2.size
          have q3 := below_cell (b := g) hb2 hgr1 (show (World.drew w1).cell? ⟨g, k * 3 + 2, none⟩ = _ from q2)
          have BB2 := hidIt (BB.out.drew.trans (hb2.mono (by simp at z1; simp; omega)))
          clear hb2 cx q1 q2
          go_wp2
          go_roundw
          case rel => exact ⟨k + 1, by omega, by go_num, by go_num, BB2.out⟩
          case measure => simp [intOf]; omega
    · have HK : Hid (k = n) := (by omega : k = n)
      go_wp2
      go_ret
      exact ⟨ret_ints (by rw [HK.out]), hb⟩
theorem held_items (w : World) (v : Value) (n k0 : Nat) (fp : List Nat) (hn : n ≤ 1048576) (h1 : 1 ≤ k0) (h2 : k0 + 3 * n ≤ 4194300) (h : ItemsO w v (mkItems k0 n) fp) :
    Calls Try.prog 50 #[v, .int .i64 k0] w fun e w' => e = .returned (.int .i64 ((k0 + 3 * n : Nat) : Int)) ∧ Below w.heap.size w w' := by
  obtain ⟨a, cap, rfl, hc, h⟩ := h
  rw [mkItems_len]
  by_cases h0 : 0 < n
  · rcases h with ⟨h, -⟩ | ⟨g, rfl, rfl, g1, g2, g3⟩
    · exact absurd (congrArg List.length h) (by rw [mkItems_len]; simp; omega)
    · exact held_items_some g cap n k0 w hn h1 h2 g1 (fun j hj => by have := g2 j (by rw [mkItems_len]; exact hj); rwa [mkItems_at] at this)
  · obtain rfl : n = 0 := by omega
    refine (held_items_zero a cap k0 w).mono ?_
    rintro e w' ⟨rfl, rfl⟩
    exact ⟨rfl, Below.refl _ _⟩

end Go.Proofs.Ytijmjpjclhgaoaa

namespace Go.Proofs.Ytijmjpjclhgaoaa
open Go.ChangeShapes Go.WideShapes Go.ChangeAt Go.RowKit
set_option linter.unusedVariables false

theorem imarks_at (k0 n j : Nat) (hj : j < n) : (imarks k0 n)[j]'(by rw [imarks_len]; exact hj) = .int .i64 ((k0 + j : Nat) : Int) := by simp [imarks]

end Go.Proofs.Ytijmjpjclhgaoaa

namespace Go.Proofs.Ytijmjpjclhgaoaa
open Go.ChangeShapes Go.WideShapes Go.ChangeAt Go.RowKit
set_option linter.unusedVariables false

theorem made_two (n j : Nat) (hj : j < n) : (madeCells #[Value.int .i64 0, Value.int .i64 0] n)[j]? = some (.int .i64 0) := by
  have h : j % 2 = 0 ∨ j % 2 = 1 := by omega
  rcases h with h | h <;> simp [madeCells, hj, h]

theorem four_keep {W0 W W' : World} {a b : Nat} {p q r s : Nat} {x y u v : Value} (h : Below W0.heap.size W0 W ∧ W.cell? ⟨a, p, none⟩ = some x ∧ W.cell? ⟨a, q, none⟩ = some y ∧ W.cell? ⟨b, r, none⟩ = some u ∧ W.cell? ⟨b, s, none⟩ = some v ∧ a < W.heap.size ∧ b < W.heap.size) (hb : Below W.heap.size W W') :
    Below W0.heap.size W0 W' ∧ W'.cell? ⟨a, p, none⟩ = some x ∧ W'.cell? ⟨a, q, none⟩ = some y ∧ W'.cell? ⟨b, r, none⟩ = some u ∧ W'.cell? ⟨b, s, none⟩ = some v ∧ a < W'.heap.size ∧ b < W'.heap.size := by
  obtain ⟨h0, h1, h2, h3, h4, h5, h6⟩ := h
  have := hb.size
  exact ⟨below_step h0 hb, below_cell hb h5 h1, below_cell hb h5 h2, below_cell hb h6 h3, below_cell hb h6 h4, by omega, by omega⟩

theorem gones_cell {w : World} {g lo hi : Nat} {L : List (Int × Int)} (h3 : ∀ j (hj : j < (gones L).length), w.cell? ⟨g, j, none⟩ = some (gones L)[j]) : ∀ j (hj : j < L.length), w.cell? ⟨g, j * 2, none⟩ = some (.int .i64 L[j].1) ∧ w.cell? ⟨g, j * 2 + 1, none⟩ = some (.int .i64 L[j].2) := by
  intro j hj
  have l := gones_len L
  have e := gones_at L j hj
  have e1 : j * 2 < (gones L).length := by omega
  have e2 : j * 2 + 1 < (gones L).length := by omega
  rw [List.getElem?_eq_getElem e1, List.getElem?_eq_getElem e2] at e
  exact ⟨(h3 _ e1).trans e.1, (h3 _ e2).trans e.2⟩
theorem gones_zero {L : List (Int × Int)} (h : gones L = []) : L = [] := List.length_eq_zero_iff.1 (by have := congrArg List.length h; rw [gones_len] at this; simp only [List.length_nil] at this; omega)

end Go.Proofs.Ytijmjpjclhgaoaa

namespace Go.Proofs.Ytijmjpjclhgaoaa
open Go.ChangeShapes Go.WideShapes Go.ChangeAt Go.RowKit
set_option linter.unusedVariables false

theorem Rw.set_below {w : World} {lo hi : Nat} {v : Value} {n : Nat} {xs : List Value} (h : Rw w lo hi v n xs) (p : Addr) (x : Value) (hp : p.block < lo) : Rw (w.setCell p x) lo hi v n xs :=
  Rw.loc lo hi v n xs w _ h (fun k k1 k2 => Below.heap_setCell _ _ _ _ (by omega))
theorem Rw.alloc {w : World} {lo hi : Nat} {v : Value} {n : Nat} {xs : List Value} (h : Rw w lo hi v n xs) (hh : hi ≤ w.heap.size) (o : Obj) : Rw (w.alloc o) lo hi v n xs := h.below ((Below.refl _ _).alloc hh o)

theorem Rw.grown {w w' : World} {lo hi : Nat} {v : Value} {n : Nat} {xs : List Value} {q : Option Nat} (r : Rw w lo hi v n xs) (hz : hi ≤ w.heap.size) (hg : w.grownBy w' q) (hne : xs ≠ [] → ∀ k, q = some k → v.ownBlock ≠ some k) : Rw w' lo hi v n xs := by
  obtain ⟨a, cap, rfl, hcp, h⟩ := r
  refine ⟨a, cap, rfl, hcp, ?_⟩
  by_cases hx : xs = []
  · exact .inl hx
  · rcases h with h | ⟨g, rfl, h1, h2, h3, h4⟩
    · exact .inl h
    · have hq : w'.heap[g]? = w.heap[g]? := hg.block g (by omega) (fun e => hne hx g e.symm rfl)
      exact .inr ⟨g, rfl, h1, h2, fun j hj => (World.cell?_of_block (a := ⟨g, j, none⟩) hq).trans (h3 j hj), fun j => (World.frozen?_of_block (a := ⟨g, j, none⟩) hq).trans (h4 j)⟩
theorem Row.grown {w w' : World} {lo hi : Nat} {v : Value} {xs : List Value} {q : Option Nat} (r : Row w lo hi v xs) (hz : hi ≤ w.heap.size) (hg : w.grownBy w' q) (hne : xs ≠ [] → ∀ k, q = some k → v.ownBlock ≠ some k) : Row w' lo hi v xs := by
  obtain ⟨a, cap, rfl, h⟩ := r
  refine ⟨a, cap, rfl, ?_⟩
  by_cases hx : xs = []
  · exact .inl hx
  · rcases h with h | ⟨g, rfl, h1, h2, h3, h4⟩
    · exact .inl h
    · have hq : w'.heap[g]? = w.heap[g]? := hg.block g (by omega) (fun e => hne hx g e.symm rfl)
      exact .inr ⟨g, rfl, h1, h2, fun j hj => (World.cell?_of_block (a := ⟨g, j, none⟩) hq).trans (h3 j hj), fun j => (World.frozen?_of_block (a := ⟨g, j, none⟩) hq).trans (h4 j)⟩
theorem mark_int_fine (w : World) (lo hi : Nat) (v : Value) (ps : List Int) (k0 : Nat) (hn : ps.length ≤ 4194304) (h2 : k0 ≤ 4194304) (hh : hi ≤ w.heap.size) (r : Row w lo hi v (ints ps)) :
    Calls Try.prog 49 #[v, .int .i64 k0] w fun e w' => e = .returned (.int .i64 ((k0 + ps.length : Nat) : Int)) ∧ Row w' lo hi v (imarks k0 ps.length) ∧ ∃ g, w.grownBy w' g ∧ ∀ k, g = some k → 0 < ps.length ∧ v.ownBlock = some k ∧ lo ≤ k ∧ k < hi := by
  obtain ⟨a, c, rfl, q1⟩ := r
  rw [ints_len]
  by_cases h0 : ps.length = 0
  · rw [h0]
    refine (mark_int_zero a c k0 w).mono ?_
    rintro e w' ⟨rfl, rfl⟩
    exact ⟨rfl, ⟨a, c, rfl, .inl rfl⟩, none, World.grownBy.refl _ _, fun k h => by cases h⟩
  · rcases q1 with q1 | ⟨g, rfl, g1, g2, q1, q2⟩
    · exact absurd (by simpa using congrArg List.length q1) h0
    · refine (mark_int_some g c ps.length k0 w hn h2 (by omega) (fun j hj => ⟨ps[j], by have := q1 j (by simpa using hj); rw [List.getElem_map] at this; exact this⟩) q2).mono ?_
      rintro e w' ⟨rfl, m1, m2, m3⟩
      exact ⟨rfl, ⟨_, c, by rw [imarks_len], .inr ⟨g, rfl, g1, g2, fun j hj => by
        rw [imarks_len] at hj
        rw [m1 j hj, imarks_at _ _ _ hj], m2⟩⟩, some g, m3, fun k h => by cases h; exact ⟨by omega, rfl, g1, g2⟩⟩
theorem out_fine {w w' : World} {lo hi : Nat} {g : Option Nat} {n : Nat} {v : Value} (hg : w.grownBy w' g) (h : ∀ k, g = some k → 0 < n ∧ v.ownBlock = some k ∧ lo ≤ k ∧ k < hi) : Out lo hi w w' := by
  refine ⟨hg.os, hg.tape, hg.output, hg.size, fun k hk hn => hg.block k hk (fun e => ?_)⟩
  have := h k e.symm
  omega
theorem ne_nil_pos {L : List (Int × Int)} (h : gones L ≠ []) : 0 < L.length := by
  rcases Nat.eq_zero_or_pos L.length with h0 | h0
  · exact absurd (by rw [List.length_eq_zero_iff.1 h0]; rfl) h
  · exact h0
theorem imarks_pos {k0 n : Nat} (h : imarks k0 n ≠ []) : 0 < n := by
  rcases Nat.eq_zero_or_pos n with h0 | h0
  · exact absurd (by rw [h0]; rfl) h
  · exact h0

end Go.Proofs.Ytijmjpjclhgaoaa

namespace Go.Proofs.Ytijmjpjclhgaoaa
open Go.ChangeShapes Go.WideShapes Go.ChangeAt Go.RowKit
set_option linter.unusedVariables false

theorem cells3 : Try.prog.cellsOf 3 = 1 := by kernel_rfl
theorem cells22 : Try.prog.cellsOf 30 = 1 := by kernel_rfl
set_option maxRecDepth 100000 in
theorem open_introw {H : Type} {enc : TypeId × Value → H} {W : World} {fuel : Nat} {cs : List Value} {x : DataW H × List MemPlace} (h : DataW.trod enc Try.prog W 0 (fun _ => true) true fuel 30 cs = some x) :
    ∃ v xs, cs = [v] ∧ InRow W v xs ∧ xs.length ≤ maxLen ∧ ∀ z ∈ xs, (Lit.int .i64 z).wf = true := by
  rcases open_ints Try.underlying30 Try.underlying3 cells3 h with ⟨rfl, -⟩ | ⟨a, len, cap, zs, rfl, -, hl, hm, hz, -, hc, hw⟩
  · exact ⟨_, [], rfl, ⟨none, 0, rfl, .inl rfl⟩, by simp, by simp⟩
  · simp at hz
    refine ⟨_, zs.take len, rfl, ⟨some a, cap, by simp [hz, hl], ?_⟩, by simp; omega, fun z hz => hw z (List.mem_of_mem_take hz)⟩
    by_cases h0 : len = 0
    · left; simp [h0]
    · right
      obtain ⟨b, off, rfl, hb⟩ := ints_at hc (by omega)
      refine ⟨b, off, rfl, ?_, fun j hj => ?_⟩
      · have h1 := hb 0 (by omega)
        by_cases hlt : b < W.heap.size
        · exact hlt
        · simp [World.cell?, hlt] at h1
      · simp at hj
        rw [hb j (by omega)]
        simp [List.getElem_take, show j < zs.length by omega]
set_option maxRecDepth 100000 in
theorem open_intcell {H : Type} {enc : TypeId × Value → H} {W : World} {fuel : Nat} {cs : List Value} {x : DataW H × List MemPlace} (h : DataW.trod enc Try.prog W 0 (fun _ => true) true fuel 3 cs = some x) :
    ∃ z, cs = [.int .i64 z] ∧ (Lit.int .i64 z).wf = true := by
  obtain ⟨z, h1, -, h2⟩ := DataW.trod_int Try.underlying3 h
  exact ⟨z, h1, h2⟩
theorem field_of {H : Type} {enc : TypeId × Value → H} {P : Program} {W : World} {base : Nat} {spare : Nat → Bool} {held : Bool} {fuel : Nat} {t : TypeId} {cs : List Value} {x : DataW H × List MemPlace} {fs : Array Field} (ht : P.underlying t = some (.struct fs)) (h : DataW.trod enc P W base spare held fuel t cs = some x) (i : Nat) (f : Field) (hf : fs[i]? = some f) :
    ∃ n y, DataW.trod enc P W base spare held n f.type ((cs.drop f.offset).take (P.cellsOf f.type)) = some y := by
  obtain ⟨ys, n, _, _, _, hlen, hfi⟩ := DataW.trod_struct ht h
  have hi : i < ys.length := by rw [hlen]; exact (Array.getElem?_eq_some_iff.1 hf).1
  exact ⟨n, ys[i], by rw [hfi i f hf, List.getElem?_eq_getElem hi]⟩
set_option maxRecDepth 100000 in
theorem open_Int {H : Type} {enc : TypeId × Value → H} {W : World} {b0 : Nat} {v : Value} {d : DataW H} {p : List MemPlace} (hv : Value.okWide Try.prog W .any b0 3 v) (h : DataW.Trod enc Try.prog W 0 (fun _ => true) true 3 v d p) :
    ∃ a : Int, v = .int .i64 a ∧ (Lit.int .i64 a).wf = true := by
  obtain ⟨x, rfl, rfl, rfl, wx⟩ := open_int Try.underlying3 hv h
  exact ⟨x, rfl, wx⟩
set_option maxRecDepth 100000 in
theorem open_Bool {H : Type} {enc : TypeId × Value → H} {W : World} {b0 : Nat} {v : Value} {d : DataW H} {p : List MemPlace} (hv : Value.okWide Try.prog W .any b0 4 v) (h : DataW.Trod enc Try.prog W 0 (fun _ => true) true 4 v d p) :
    ∃ a : Bool, v = .bool a ∧ True := by
  obtain ⟨x, rfl, rfl, rfl⟩ := open_bool Try.underlying4 hv h
  exact ⟨x, rfl, trivial⟩
theorem array1 {α : Type} {cs : Array α} (h : cs.size = 1) : ∃ c0, cs = #[c0] := by
  obtain ⟨l⟩ := cs
  match l, h with
  | [c0], _ => exact ⟨c0, rfl⟩
theorem array4 {α : Type} {cs : Array α} (h : cs.size = 4) : ∃ c0 c1 c2 c3, cs = #[c0, c1, c2, c3] := by
  obtain ⟨l⟩ := cs
  match l, h with
  | [c0, c1, c2, c3], _ => exact ⟨c0, c1, c2, c3, rfl⟩
theorem array10 {α : Type} {cs : Array α} (h : cs.size = 10) : ∃ c0 c1 c2 c3 c4 c5 c6 c7 c8 c9, cs = #[c0, c1, c2, c3, c4, c5, c6, c7, c8, c9] := by
  obtain ⟨l⟩ := cs
  match l, h with
  | [c0, c1, c2, c3, c4, c5, c6, c7, c8, c9], _ => exact ⟨c0, c1, c2, c3, c4, c5, c6, c7, c8, c9, rfl⟩
theorem cellsBool : Try.prog.cellsOf 4 = 1 := by kernel_rfl
set_option maxRecDepth 100000 in
theorem open_boolcell {H : Type} {enc : TypeId × Value → H} {W : World} {fuel : Nat} {cs : List Value} {x : DataW H × List MemPlace} (h : DataW.trod enc Try.prog W 0 (fun _ => true) true fuel 4 cs = some x) :
    ∃ z, cs = [.bool z] := by
  obtain ⟨z, h1, -⟩ := DataW.trod_bool Try.underlying4 h
  exact ⟨z, h1⟩

end Go.Proofs.Ytijmjpjclhgaoaa

namespace Go.Proofs.Ytijmjpjclhgaoaa
open Go.ChangeShapes Go.WideShapes Go.ChangeAt Go.RowKit
set_option linter.unusedVariables false

theorem row_cells {H : Type} {enc : TypeId × Value → H} {P : Program} {W : World} {fuel : Nat} {t e : TypeId} {cs : List Value} {x : DataW H × List MemPlace} {k : Nat} (ht : P.underlying t = some (.slice e)) (hk : P.cellsOf e = k) (k0 : 0 < k) (h : DataW.trod enc P W 0 (fun _ => true) true fuel t cs = some x) :
    ∃ a len cap, cs = [.slice a len cap] ∧ len ≤ cap ∧ len ≤ maxLen ∧ (len = 0 ∨ ∃ b off, a = some ⟨b, off, none⟩ ∧ b < W.heap.size ∧ ∀ i, i < len → ∃ cs' n d, cs'.length = k ∧ (∀ j (hj : j < cs'.length), W.cell? ⟨b, off + i * k + j, none⟩ = some cs'[j]) ∧ DataW.trod enc P W 0 (fun _ => true) true n e cs' = some d) := by
  rcases Go.Deep.open_slice ht h with ⟨rfl, -⟩ | ⟨a, len, cap, m, n, D, Pl, rfl, -, hl, hm, hmm, -, hx⟩
  · exact ⟨none, 0, 0, rfl, Nat.le_refl _, by simp, .inl rfl⟩
  · have hlm : len ≤ m := by rw [hmm]; simp; exact hl
    refine ⟨some a, len, cap, rfl, hl, by omega, ?_⟩
    by_cases h0 : len = 0
    · exact .inl h0
    · right
      have key : ∀ i, i < len → ∃ cs' d, cs'.length = k ∧ (∀ j (hj : j < cs'.length), W.cell? (a.add (i * k + j)) = some cs'[j]) ∧ DataW.trod enc P W 0 (fun _ => true) true n e cs' = some d := by
        intro i hi
        obtain ⟨cs', h1, h2⟩ := hx i (by omega)
        rw [hk] at h1
        obtain ⟨_, hlen, hcell⟩ := World.cells?_some h1
        refine ⟨cs', _, hlen, fun j hj => ?_, h2⟩
        have := hcell j (by omega)
        rw [Go.Deep.add_add] at this
        rw [this]
        exact List.getElem?_eq_getElem hj
      obtain ⟨cs0, d0, l0, c0, -⟩ := key 0 (by omega)
      have hfirst := c0 0 (by omega)
      obtain ⟨b, off, spot⟩ := a
      have hspot : spot = none := by simpa [Addr.add] using World.cell?_spot hfirst
      subst hspot
      refine ⟨b, off, rfl, ?_, fun i hi => ?_⟩
      · rw [Go.WideShapes.add_plain] at hfirst
        by_cases hlt : b < W.heap.size
        · exact hlt
        · simp [World.cell?, hlt] at hfirst
      · obtain ⟨cs', d, q1, q2, q3⟩ := key i hi
        refine ⟨cs', n, d, q1, fun j hj => ?_, q3⟩
        have := q2 j hj
        rwa [Go.WideShapes.add_plain, ← Nat.add_assoc] at this
theorem list4 {α : Type} {cs : List α} (h : cs.length = 4) : ∃ c0 c1 c2 c3, cs = [c0, c1, c2, c3] := by
  match cs, h with
  | [c0, c1, c2, c3], _ => exact ⟨c0, c1, c2, c3, rfl⟩
theorem list10 {α : Type} {cs : List α} (h : cs.length = 10) : ∃ c0 c1 c2 c3 c4 c5 c6 c7 c8 c9, cs = [c0, c1, c2, c3, c4, c5, c6, c7, c8, c9] := by
  match cs, h with
  | [c0, c1, c2, c3, c4, c5, c6, c7, c8, c9], _ => exact ⟨c0, c1, c2, c3, c4, c5, c6, c7, c8, c9, rfl⟩
def CWf (c : Cl) : Prop := ∀ z ∈ [c.k, c.a, c.x, c.pc, c.p, c.c, c.w, c.r, c.v], (Lit.int .i64 z).wf = true
def callVs (c : Cl) : List Value := [.int .i64 c.k, .int .i64 c.a, .int .i64 c.x, .int .i64 c.pc, .int .i64 c.p, .int .i64 c.c, .int .i64 c.w, .int .i64 c.r, .int .i64 c.v, .bool c.d]
theorem at10_of {W : World} {b o : Nat} {c : Cl} {cs : List Value} (e : cs = callVs c) (h : ∀ j (hj : j < cs.length), W.cell? ⟨b, o + j, none⟩ = some cs[j]) : At10 W b o c := by
  subst e
  exact ⟨h 0 (by simp [callVs]), h 1 (by simp [callVs]), h 2 (by simp [callVs]), h 3 (by simp [callVs]), h 4 (by simp [callVs]), h 5 (by simp [callVs]), h 6 (by simp [callVs]), h 7 (by simp [callVs]), h 8 (by simp [callVs]), h 9 (by simp [callVs])⟩
set_option maxRecDepth 100000 in
theorem open_introwN {H : Type} {enc : TypeId × Value → H} {W : World} {fuel : Nat} {cs : List Value} {x : DataW H × List MemPlace} (h : DataW.trod enc Try.prog W 0 (fun _ => true) true fuel 30 cs = some x) :
    ∃ v xs, cs = [v] ∧ IntsIn W v xs ∧ xs.length ≤ maxLen ∧ ∀ z ∈ xs, (Lit.int .i64 z).wf = true := by
  obtain ⟨v, xs, rfl, h1, h2, h3⟩ := open_introw h
  obtain ⟨a, len, cap, e, hl, -⟩ := row_cells Try.underlying30 cells3 (by omega) h
  obtain ⟨a', cap', rfl, h4⟩ := h1
  simp at e
  obtain ⟨rfl, rfl, rfl⟩ := e
  exact ⟨_, xs, rfl, ⟨⟨_, _, rfl, h4⟩, _, _, rfl, trivial⟩, h2, h3⟩
def TWf (t : Th) : Prop := (∀ c ∈ t.cs, CWf c) ∧ (Lit.int .i64 t.at_).wf = true ∧ (∀ z ∈ t.bs, (Lit.int .i64 z).wf = true) ∧ ∀ z ∈ t.es, (Lit.int .i64 z).wf = true
def ThLim (t : Th) : Prop := t.cs.length ≤ 9223372036854775807 ∧ t.bs.length ≤ 9223372036854775807 ∧ t.es.length ≤ 9223372036854775807
theorem array5 {α : Type} {cs : Array α} (h : cs.size = 5) : ∃ c0 c1 c2 c3 c4, cs = #[c0, c1, c2, c3, c4] := by
  obtain ⟨l⟩ := cs
  match l, h with
  | [c0, c1, c2, c3, c4], _ => exact ⟨c0, c1, c2, c3, c4, rfl⟩
def CwLim (C : Cw) : Prop := C.m.length ≤ 9223372036854775807 ∧ C.ts.length ≤ 9223372036854775807 ∧ TsLim C.ts
def CwWf (C : Cw) : Prop := (Lit.int .i64 C.what).wf = true ∧ (Lit.int .i64 C.size).wf = true ∧ (Lit.int .i64 C.clock).wf = true ∧ (∀ z ∈ C.m, (Lit.int .i64 z).wf = true) ∧ ∀ t ∈ C.ts, TWf t

end Go.Proofs.Ytijmjpjclhgaoaa

namespace Go.Proofs.Ytijmjpjclhgaoaa
open Go.ChangeShapes Go.WideShapes Go.ChangeAt Go.RowKit
set_option linter.unusedVariables false

theorem Sv.box5 {w W : World} {cs : List (Nat × Nat × Value)} {rs : List (Nat × Nat × (World → Prop))} (h : Sv w cs rs W) (x0 x1 x2 x3 x4 : Value) (T : TypeId) : Sv w ((W.heap.size, 0, x0) :: (W.heap.size, 1, x1) :: (W.heap.size, 2, x2) :: (W.heap.size, 3, x3) :: (W.heap.size, 4, x4) :: cs) rs (W.alloc (.cells #[x0, x1, x2, x3, x4] T)) :=
  (((((h.alloc _).cell (by simp) (by simp)).cell (by simp) (by simp)).cell (by simp) (by simp)).cell (by simp) (by simp)).cell (by simp) (by simp)
theorem Sv.get5 {w W : World} {cs : List (Nat × Nat × Value)} {rs : List (Nat × Nat × (World → Prop))} (h : Sv w cs rs W) {b : Nat} {x0 x1 x2 x3 x4 : Value} (h0 : (b, 0, x0) ∈ cs) (h1 : (b, 1, x1) ∈ cs) (h2 : (b, 2, x2) ∈ cs) (h3 : (b, 3, x3) ∈ cs) (h4 : (b, 4, x4) ∈ cs) : W.cell? ⟨b, 0, none⟩ = some x0 ∧ W.cell? ⟨b, 1, none⟩ = some x1 ∧ W.cell? ⟨b, 2, none⟩ = some x2 ∧ W.cell? ⟨b, 3, none⟩ = some x3 ∧ W.cell? ⟨b, 4, none⟩ = some x4 := ⟨h.get h0, h.get h1, h.get h2, h.get h3, h.get h4⟩
theorem pS_le (ts : List Th) (j : Nat) (hj : j < ts.length) : szTh ts[j] ≤ pS ts ts.length := by
  have h1 := pS_step ts j hj
  have h2 := pS_mono ts (show j + 1 ≤ ts.length by omega)
  omega
theorem ts_fit (ts : List Th) (h : pS ts ts.length ≤ 1048576) : TsFit ts := by
  intro j hj
  have := pS_le ts j hj
  unfold szTh at this
  refine ⟨?_, ?_, ?_⟩ <;> omega
theorem cw_fit (C : Cw) (h : C.m.length + szThs C.ts ≤ 1048576) : CwFit C := by
  unfold szThs at h
  exact ⟨by omega, by omega, ts_fit C.ts (by omega)⟩
def Within (lo hi : Nat) (fp : List Nat) : Prop := ∀ g ∈ fp, lo ≤ g ∧ g < hi
theorem CwO.within {lo hi : Nat} {vm vt : Value} {C : Cw} {fp : List Nat} (h : Within lo hi fp) : Loc lo hi (fun W => CwO W vm vt C fp) :=
  fun w w' p hk => p.loc' (fun g hg => hk g (h g hg).1 (h g hg).2)
theorem ThsO.within {lo hi : Nat} {v : Value} {ts : List Th} {fp : List Nat} (h : Within lo hi fp) : Loc lo hi (fun W => ThsO W v ts fp) :=
  fun w w' p hk => p.loc' (fun g hg => hk g (h g hg).1 (h g hg).2)
theorem IntsO.within {lo hi : Nat} {v : Value} {xs : List Int} {fp : List Nat} (h : Within lo hi fp) : Loc lo hi (fun W => IntsO W v xs fp) :=
  fun w w' p hk => p.loc' (fun g hg => hk g (h g hg).1 (h g hg).2)
theorem Kp.toOut {fp : List Nat} {w w' : World} {lo hi : Nat} (h : Kp fp w w') (k : Within lo hi fp) : Out lo hi w w' :=
  ⟨h.os, h.tape, h.output, h.size, fun x hx hn => h.block x hx (fun hm => by have := k x hm; omega)⟩

end Go.Proofs.Ytijmjpjclhgaoaa

namespace Go.Proofs.Ytijmjpjclhgaoaa
open Go.ChangeShapes Go.WideShapes Go.ChangeAt Go.RowKit
set_option linter.unusedVariables false

structure Pl where
  fr : List Int
  a : Int
  ps : List Int
  L : List (Int × Int)
  lv : List Int
def plZero : Pl := ⟨[], 0, [], [], []⟩
instance : Inhabited Pl := ⟨plZero⟩
def PlWf (P : Pl) : Prop := (∀ z ∈ P.fr, (Lit.int .i64 z).wf = true) ∧ (∀ q ∈ P.L, (Lit.int .i64 q.1).wf = true) ∧ ∀ z ∈ P.lv, (Lit.int .i64 z).wf = true
structure PlIn (w : World) (f p l v : Value) (P : Pl) : Prop where
  fr : IntsIn w f P.fr
  ag : AIn w p l P.ps P.L
  lv : IntsIn w v P.lv
theorem PlIn.below {w w' : World} {f p l v : Value} {P : Pl} (h : PlIn w f p l v P) (hb : Below w.heap.size w w') : PlIn w' f p l v P := ⟨h.fr.below hb, h.ag.below hb, h.lv.below hb⟩
theorem PlIn.form {w : World} {f p l v : Value} {P : Pl} (h : PlIn w f p l v P) : ∃ fa fc pa pc la lc va vc, f = .slice fa P.fr.length fc ∧ p = .slice pa P.ps.length pc ∧ l = .slice la P.L.length lc ∧ v = .slice va P.lv.length vc := by
  obtain ⟨fa, fc, h1, -⟩ := h.fr.form
  obtain ⟨pa, pc, la, lc, h2, h3, -⟩ := h.ag.form
  obtain ⟨va, vc, h4, -⟩ := h.lv.form
  exact ⟨fa, fc, pa, pc, la, lc, va, vc, h1, h2, h3, h4⟩
/- a row of integers that is only read, in a block from lo to hi -/
def RowQ (w : World) (lo hi : Nat) (v : Value) (xs : List Int) : Prop := ∃ a cap, v = .slice a xs.length cap ∧ (xs = [] ∨ ∃ b off, a = some ⟨b, off, none⟩ ∧ lo ≤ b ∧ b < hi ∧ ∀ j (hj : j < xs.length), w.cell? ⟨b, off + j, none⟩ = some (.int .i64 xs[j]))
theorem RowQ.loc (lo hi : Nat) (v : Value) (xs : List Int) : Loc lo hi (fun w => RowQ w lo hi v xs) := by
  rintro w w' ⟨a, cap, hv, h⟩ hk
  refine ⟨a, cap, hv, ?_⟩
  rcases h with h | ⟨b, off, ha, h1, h2, h3⟩
  · exact .inl h
  · exact .inr ⟨b, off, ha, h1, h2, fun j hj => (World.cell?_of_block (a := ⟨b, off + j, none⟩) (hk b h1 h2)).trans (h3 j hj)⟩
theorem RowQ.wide {w : World} {lo hi lo' hi' : Nat} {v : Value} {xs : List Int} (h : RowQ w lo hi v xs) (h1 : lo' ≤ lo) (h2 : hi ≤ hi') : RowQ w lo' hi' v xs := by
  obtain ⟨a, cap, hv, h⟩ := h
  refine ⟨a, cap, hv, ?_⟩
  rcases h with h | ⟨b, off, ha, g1, g2, h3⟩
  · exact .inl h
  · exact .inr ⟨b, off, ha, by omega, by omega, h3⟩
theorem RowQ.inr {w : World} {lo hi : Nat} {v : Value} {xs : List Int} (h : RowQ w lo hi v xs) (hz : hi ≤ w.heap.size) : IntsIn w v xs := by
  obtain ⟨a, cap, hv, h⟩ := h
  refine ⟨⟨a, cap, hv, ?_⟩, a, cap, hv, trivial⟩
  rcases h with h | ⟨b, off, ha, h1, h2, h3⟩
  · exact .inl h
  · exact .inr ⟨b, off, ha, by omega, h3⟩
theorem Row.toQ {w : World} {lo hi : Nat} {v : Value} {xs : List Int} (h : Row w lo hi v (ints xs)) : RowQ w lo hi v xs := by
  obtain ⟨a, cap, hv, h⟩ := h
  refine ⟨a, cap, by rw [hv, ints_len], ?_⟩
  rcases h with h | ⟨g, ha, g1, g2, h3, h4⟩
  · exact .inl (by simpa using h)
  · refine .inr ⟨g, 0, ha, g1, g2, fun j hj => ?_⟩
    have := h3 j (by simpa using hj)
    rw [List.getElem_map] at this
    simpa using this
theorem Row.intsIn {w : World} {lo hi : Nat} {v : Value} {xs : List Int} (h : Row w lo hi v (ints xs)) (hz : hi ≤ w.heap.size) : IntsIn w v xs := h.toQ.inr hz
theorem IntsO.rowW {w : World} {lo hi : Nat} {v : Value} {xs : List Int} {fp : List Nat} (h : IntsO w v xs fp) (k : Within lo hi fp) : Row w lo hi v (ints xs) := by
  obtain ⟨a, cap, hv, -, h⟩ := h
  refine ⟨a, cap, by rw [hv, ints_len], ?_⟩
  rcases h with ⟨h, -⟩ | ⟨g, ha, hf, h1, h2, h3⟩
  · exact .inl (by simp [h])
  · have := k g (by rw [hf]; exact List.mem_singleton.2 rfl)
    exact .inr ⟨g, ha, this.1, this.2, fun j hj => by rw [List.getElem_map]; exact h2 j (by simpa using hj), h3⟩
theorem IntsNew.row {w w' : World} {v : Value} {xs : List Int} (h : IntsNew w w' v xs) : Row w' w.heap.size w'.heap.size v (ints xs) ∧ Below w.heap.size w w' := by
  obtain ⟨fp, o, -, g, b⟩ := h
  exact ⟨o.rowW fun x hx => ⟨g x hx, o.lt x hx⟩, b⟩
theorem Row.size0 (w : World) (lo hi : Nat) : Row w lo hi (.slice none 0 0) (ints []) := ⟨none, 0, rfl, .inl rfl⟩
/- what a model answers -/
structure PlQ (lo hi : Nat) (f p l v : Value) (P : Pl) (W : World) : Prop where
  fr : RowQ W lo hi f P.fr
  ag : AR lo hi p l P.ps P.L W
  lv : RowQ W lo hi v P.lv
theorem PlQ.loc (lo hi : Nat) (f p l v : Value) (P : Pl) : Loc lo hi (PlQ lo hi f p l v P) :=
  fun w w' h hk => ⟨RowQ.loc _ _ _ _ w w' h.fr hk, AR.loc _ _ _ _ _ _ w w' h.ag hk, RowQ.loc _ _ _ _ w w' h.lv hk⟩
theorem PlQ.pin {w : World} {lo hi : Nat} {f p l v : Value} {P : Pl} (h : PlQ lo hi f p l v P w) (hz : hi ≤ w.heap.size) : PlIn w f p l v P := ⟨h.fr.inr hz, h.ag.ain hz, h.lv.inr hz⟩
theorem PlQ.below {w w' : World} {lo hi : Nat} {f p l v : Value} {P : Pl} (h : PlQ lo hi f p l v P w) (hb : Below hi w w') : PlQ lo hi f p l v P w' := PlQ.loc _ _ _ _ _ _ _ w w' h (fun k _ hk => hb.block k hk)
theorem PlQ.wide {w : World} {lo hi lo' hi' : Nat} {f p l v : Value} {P : Pl} (h : PlQ lo hi f p l v P w) (h1 : lo' ≤ lo) (h2 : hi ≤ hi') : PlQ lo' hi' f p l v P w := ⟨h.fr.wide h1 h2, h.ag.wide h1 h2, h.lv.wide h1 h2⟩
/- what is owned: three parts, each in blocks of its own -/
structure Dis (lo hi a1 b1 a2 b2 a3 b3 : Nat) : Prop where
  l1 : lo ≤ a1
  h1 : b1 ≤ hi
  l2 : lo ≤ a2
  h2 : b2 ≤ hi
  l3 : lo ≤ a3
  h3 : b3 ≤ hi
  d12 : b1 ≤ a2 ∨ b2 ≤ a1
  d13 : b1 ≤ a3 ∨ b3 ≤ a1
  d23 : b2 ≤ a3 ∨ b3 ≤ a2
def PlR (lo hi : Nat) (f p l v : Value) (P : Pl) (W : World) : Prop :=
  ∃ a1 b1 a2 b2 a3 b3, Dis lo hi a1 b1 a2 b2 a3 b3 ∧ Row W a1 b1 f (ints P.fr) ∧ AR a2 b2 p l P.ps P.L W ∧ Row W a3 b3 v (ints P.lv)
theorem Dis.wide {lo hi lo' hi' a1 b1 a2 b2 a3 b3 : Nat} (d : Dis lo hi a1 b1 a2 b2 a3 b3) (h1 : lo' ≤ lo) (h2 : hi ≤ hi') : Dis lo' hi' a1 b1 a2 b2 a3 b3 := by
  obtain ⟨e1, e2, e3, e4, e5, e6, e7, e8, e9⟩ := d
  exact ⟨by omega, by omega, by omega, by omega, by omega, by omega, e7, e8, e9⟩
theorem PlR.loc (lo hi : Nat) (f p l v : Value) (P : Pl) : Loc lo hi (PlR lo hi f p l v P) := by
  rintro w w' ⟨a1, b1, a2, b2, a3, b3, d, r1, r2, r3⟩ hk
  exact ⟨a1, b1, a2, b2, a3, b3, d, Row.loc _ _ _ _ w w' r1 (fun k k1 k2 => hk k (Nat.le_trans d.l1 k1) (Nat.lt_of_lt_of_le k2 d.h1)), AR.loc _ _ _ _ _ _ w w' r2 (fun k k1 k2 => hk k (Nat.le_trans d.l2 k1) (Nat.lt_of_lt_of_le k2 d.h2)), Row.loc _ _ _ _ w w' r3 (fun k k1 k2 => hk k (Nat.le_trans d.l3 k1) (Nat.lt_of_lt_of_le k2 d.h3))⟩
theorem PlR.toQ {lo hi : Nat} {f p l v : Value} {P : Pl} {W : World} (h : PlR lo hi f p l v P W) : PlQ lo hi f p l v P W := by
  obtain ⟨a1, b1, a2, b2, a3, b3, d, r1, r2, r3⟩ := h
  exact ⟨r1.toQ.wide d.l1 d.h1, r2.wide d.l2 d.h2, r3.toQ.wide d.l3 d.h3⟩
theorem PlR.below {w w' : World} {lo hi : Nat} {f p l v : Value} {P : Pl} (h : PlR lo hi f p l v P w) (hb : Below hi w w') : PlR lo hi f p l v P w' := PlR.loc _ _ _ _ _ _ _ w w' h (fun k _ hk => hb.block k hk)
theorem PlR.wide {w : World} {lo hi lo' hi' : Nat} {f p l v : Value} {P : Pl} (h : PlR lo hi f p l v P w) (h1 : lo' ≤ lo) (h2 : hi ≤ hi') : PlR lo' hi' f p l v P w := by
  obtain ⟨a1, b1, a2, b2, a3, b3, d, r⟩ := h
  exact ⟨a1, b1, a2, b2, a3, b3, d.wide h1 h2, r⟩
theorem PlR.zero (lo : Nat) (hi : Nat) (h : lo ≤ hi) (w : World) : PlR lo hi (.slice none 0 0) (.slice none 0 0) (.slice none 0 0) (.slice none 0 0) plZero w :=
  ⟨lo, lo, lo, lo, lo, lo, ⟨Nat.le_refl _, h, Nat.le_refl _, h, Nat.le_refl _, h, .inl (Nat.le_refl _), .inl (Nat.le_refl _), .inl (Nat.le_refl _)⟩, Row.size0 _ _ _, AR.nil _ _ _, Row.size0 _ _ _⟩
theorem PlQ.form {lo hi : Nat} {f p l v : Value} {P : Pl} {W : World} (h : PlQ lo hi f p l v P W) : ∃ fa fc pa pc la lc va vc, f = .slice fa P.fr.length fc ∧ p = .slice pa P.ps.length pc ∧ l = .slice la P.L.length lc ∧ v = .slice va P.lv.length vc := by
  obtain ⟨fa, fc, h1, -⟩ := h.fr
  obtain ⟨pa, pc, la, lc, h2, h3, -⟩ := h.ag.form
  obtain ⟨va, vc, h4, -⟩ := h.lv
  exact ⟨fa, fc, pa, pc, la, lc, va, vc, h1, h2, h3, h4⟩
theorem PlR.form {lo hi : Nat} {f p l v : Value} {P : Pl} {W : World} (h : PlR lo hi f p l v P W) : ∃ fa fc pa pc la lc va vc, f = .slice fa P.fr.length fc ∧ p = .slice pa P.ps.length pc ∧ l = .slice la P.L.length lc ∧ v = .slice va P.lv.length vc := h.toQ.form
/- marked: n, m, q, r: how many there are -/
structure PlM (lo hi : Nat) (f p l v : Value) (k0 n m q r : Nat) (W : World) : Prop where
  fr : Row W lo hi f (imarks k0 n)
  ag : AM lo hi p l (k0 + n) m q W
  lv : Row W lo hi v (imarks (k0 + n + m + q * 2) r)
theorem PlM.loc (lo hi : Nat) (f p l v : Value) (k0 n m q r : Nat) : Loc lo hi (PlM lo hi f p l v k0 n m q r) :=
  fun w w' h hk => ⟨Row.loc _ _ _ _ w w' h.fr hk, AM.loc _ _ _ _ _ _ _ w w' h.ag hk, Row.loc _ _ _ _ w w' h.lv hk⟩
theorem AM.wide {w : World} {lo hi lo' hi' : Nat} {p l : Value} {k0 n m : Nat} (h : AM lo hi p l k0 n m w) (h1 : lo' ≤ lo) (h2 : hi ≤ hi') : AM lo' hi' p l k0 n m w := ⟨h.pins.wide h1 h2, h.limbo.wide h1 h2⟩
theorem Loc.out {a b lo hi : Nat} {P : World → Prop} {w w' : World} (l : Loc a b P) (p : P w) (o : Out lo hi w w') (hz : b ≤ w.heap.size) (hn : b ≤ lo ∨ hi ≤ a) : P w' :=
  l w w' p (fun k k1 k2 => o.block k (by omega) (by omega))
theorem Out.wide {lo hi lo' hi' : Nat} {w w' : World} (h : Out lo hi w w') (h1 : lo' ≤ lo) (h2 : hi ≤ hi') : Out lo' hi' w w' := ⟨h.os, h.tape, h.output, h.size, fun k hk hn => h.block k hk (by omega)⟩

end Go.Proofs.Ytijmjpjclhgaoaa

namespace Go.Proofs.Ytijmjpjclhgaoaa
open Go.ChangeShapes Go.WideShapes Go.ChangeAt Go.RowKit
set_option linter.unusedVariables false

def CapIn (v : Value) : Prop := ∃ a n c, v = .slice a n c ∧ n ≤ c
set_option maxHeartbeats 800000 in
set_option maxRecDepth 100000 in
theorem to_intsC_some (b off c : Nat) (xs : List Int) (w : World) (hn : xs.length ≤ 4194304) (h0 : 0 < xs.length) (hb : b < w.heap.size)
    (hA : ∀ j (hj : j < xs.length), w.cell? ⟨b, off + j, none⟩ = some (.int .i64 xs[j])) :
    Calls Try.prog 39 #[.slice (some ⟨b, off, none⟩) xs.length c] w fun e w' => ∃ v', e = .returned v' ∧ CapIn v' ∧ IntsNew w w' v' xs := by
  obtain ⟨i0, hi, hz0, hz1, hz2⟩ := info_parts info3
  have HA : Hid _ := hA
  clear hA
  go_enter Try.func39, Try.ntmps39
  go_wp2_with (at_make; refine wpList_make_full _ rfl _ _ 30 rfl w.heap.size 3 i0 (.int .i64 0) 1 Try.underlying30 hi hz0 hz1 .i64 .i64 _ _ xs.length rfl rfl rfl rfl (by rw [hz2]; omega) (by unfold maxLen; omega) (Nat.le_refl _) ?_; intro w1 hown hgrow)
  have hb1 : Below w.heap.size w w1 := (Below.refl _ _).grown hgrow (Nat.le_refl _) (fun k hk => by cases hk)
  have hgz : w.heap.size < w1.heap.size ∧ (∀ j, j < xs.length → ∃ x, w1.cell? ⟨w.heap.size, j, none⟩ = some x) ∧ ∀ j, w1.frozen? ⟨w.heap.size, j, none⟩ = false := by
    rcases own_cells hown with ⟨h, _⟩ | ⟨g, cap, hv, h1, h2, h3, h4, h5, h6, h7⟩
    · cases h
    · simp at hv
      obtain ⟨rfl, _⟩ := hv
      refine ⟨h2, fun j hj => ?_, h7⟩
      have hl : j < (madeCells (Value.int .i64 0).cells (xs.length * 1)).toList.length := by omega
      exact ⟨_, h6 j hl⟩
  clear hown hgrow
  obtain ⟨hgs, hg1, hg2⟩ := hgz
  have HG : Hid _ := hg1
  have HF : Hid _ := hg2
  clear hg1 hg2
  go_wp2
  go_loopw [4] (fun i wr => ∃ k : Nat, k ≤ xs.length ∧ i = .int .i64 k ∧ w.heap.size < wr.heap.size ∧ Below w.heap.size w wr ∧ Hid ((∀ j (hj : j < xs.length), j < k → wr.cell? ⟨w.heap.size, j, none⟩ = some (.int .i64 xs[j])) ∧ (∀ j, k ≤ j → j < xs.length → ∃ x, wr.cell? ⟨w.heap.size, j, none⟩ = some x) ∧ ∀ j, wr.frozen? ⟨w.heap.size, j, none⟩ = false)) (fun i _ => xs.length - (intOf i).toNat)
  case atStart => exact ⟨0, Nat.zero_le _, rfl, hgs, hb1, ⟨fun j _ hj => by omega, fun j _ hj => HG.out j hj, HF.out⟩⟩
  case round =>
    obtain ⟨k, hk, rfl, hgr, hbw, HS⟩ := hrel
    by_cases hlt : k < xs.length
    · obtain ⟨x, hx⟩ := HS.out.2.1 k (Nat.le_refl _) hlt
      have hz := HS.out.2.2 k
      have hlt' : (k : Int) < (xs.length : Int) := by omega
      have hr := (hbw.cell (p := ⟨b, off + k, none⟩) hb).trans (HA.out k hlt)
      obtain ⟨y, hy⟩ : ∃ y, xs[k] = y := ⟨_, rfl⟩
      rw [hy] at hr
      have HY : Hid _ := hy
      clear hy
      go_wp2
      go_roundw
      case rel =>
        refine ⟨k + 1, by omega, by go_num, by simp; omega, hbw.setCell (Nat.le_refl _) _, ⟨fun j hj hjk => ?_, fun j hj1 hj2 => ?_, fun j => ?_⟩⟩
        · by_cases ej : j = k
          · subst ej; refine (World.cell?_setCell_same _ _ _ hx).trans ?_; rw [HY.out]
          · rw [World.cell?_setCell_other _ _ _ _ (by simp <;> omega)]; exact HS.out.1 j hj (by omega)
        · rw [World.cell?_setCell_other _ _ _ _ (by simp <;> omega)]; exact HS.out.2.1 j (by omega) hj2
        · rw [World.frozen?_setCell]; exact HS.out.2.2 j
      case measure => simp [intOf]; omega
    · go_wp2
      go_ret
      exact ⟨.slice (some ⟨w.heap.size, 0, none⟩) xs.length xs.length, rfl, ⟨_, _, _, rfl, Nat.le_refl _⟩, [w.heap.size], ⟨_, xs.length, rfl, trivial, .inr ⟨w.heap.size, rfl, rfl, hgr, fun j hj => HS.out.1 j hj (by omega), HS.out.2.2⟩⟩, by simp, by simp, hbw⟩
theorem to_intsC_zero (a : Option Addr) (c : Nat) (w : World) :
    Calls Try.prog 39 #[.slice a 0 c] w fun e w' => ∃ v', e = .returned v' ∧ CapIn v' ∧ IntsNew w w' v' [] := by
  obtain ⟨i0, hi, hz0, hz1, hz2⟩ := info_parts info3
  go_enter Try.func39, Try.ntmps39
  go_wp2_with (at_make; refine wpList_make_full _ rfl _ _ 30 rfl w.heap.size 3 i0 (.int .i64 0) 1 Try.underlying30 hi hz0 hz1 .i64 .i64 _ _ 0 rfl rfl rfl rfl (by omega) (by unfold maxLen; omega) (Nat.le_refl _) ?_; intro w1 hown hgrow)
  have hb1 : Below w.heap.size w w1 := (Below.refl _ _).grown hgrow (Nat.le_refl _) (fun k hk => by cases hk)
  clear hown hgrow
  go_wp2
  go_loop [4] (fun i => i = .int .i64 0) (fun _ => 0)
  case atStart => rfl
  case round =>
    subst hrel
    go_wp2
    go_ret
    exact ⟨.slice (some ⟨w.heap.size, 0, none⟩) 0 0, rfl, ⟨_, _, _, rfl, Nat.le_refl _⟩, [], ⟨_, 0, rfl, trivial, .inl ⟨rfl, rfl⟩⟩, by simp, by simp, hb1⟩
theorem to_intsC (w : World) (v : Value) (xs : List Int) (hn : xs.length ≤ 4194304) (h : IntsIn w v xs) :
    Calls Try.prog 39 #[v] w fun e w' => ∃ v', e = .returned v' ∧ CapIn v' ∧ IntsNew w w' v' xs := by
  obtain ⟨⟨a, cap, rfl, h⟩, -⟩ := h
  by_cases h0 : 0 < xs.length
  · rcases h with rfl | ⟨b, off, rfl, h1, h2⟩
    · exact absurd h0 (by simp)
    · exact to_intsC_some b off cap xs w hn h0 h1 h2
  · obtain rfl := len_zero h0
    exact to_intsC_zero _ cap w

end Go.Proofs.Ytijmjpjclhgaoaa

namespace Go.Proofs.Ytijmjpjclhgaoaa
open Go.ChangeShapes Go.WideShapes Go.ChangeAt Go.RowKit
set_option linter.unusedVariables false

structure Tr where
  cap : Int
  most : Int
  sm : List It
  mn : List It
  gh : List Int
def trZero : Tr := ⟨0, 0, [], [], []⟩
instance : Inhabited Tr := ⟨trZero⟩
structure TrIn (w : World) (s m g : Value) (T : Tr) : Prop where
  sm : ItemsIn w s T.sm
  mn : ItemsIn w m T.mn
  gh : IntsIn w g T.gh
  cp : CapIn g
theorem CapIn.le {a : Option Addr} {n c : Nat} (h : CapIn (.slice a n c)) : n ≤ c := by
  obtain ⟨a', n', c', h1, h2⟩ := h
  simp at h1
  omega
theorem TrIn.below {w w' : World} {s m g : Value} {T : Tr} (h : TrIn w s m g T) (hb : Below w.heap.size w w') : TrIn w' s m g T := ⟨h.sm.below hb, h.mn.below hb, h.gh.below hb, h.cp⟩
theorem TrIn.form {w : World} {s m g : Value} {T : Tr} (h : TrIn w s m g T) : ∃ sa sc ma mc ga gc, s = .slice sa T.sm.length sc ∧ m = .slice ma T.mn.length mc ∧ g = .slice ga T.gh.length gc := by
  obtain ⟨sa, sc, h1, -⟩ := h.sm.form
  obtain ⟨ma, mc, h2, -⟩ := h.mn.form
  obtain ⟨ga, gc, h3, -⟩ := h.gh.form
  exact ⟨sa, sc, ma, mc, ga, gc, h1, h2, h3⟩
def ItemsQ (w : World) (lo hi : Nat) (v : Value) (cs : List It) : Prop :=
  ∃ a cap, v = .slice a cs.length cap ∧ cs.length ≤ cap ∧ (cs = [] ∨ ∃ b off, a = some ⟨b, off, none⟩ ∧ lo ≤ b ∧ b < hi ∧ ∀ j (hj : j < cs.length), ItemAt w b (off + j * 3) cs[j])
theorem ItemsQ.loc (lo hi : Nat) (v : Value) (cs : List It) : Loc lo hi (fun w => ItemsQ w lo hi v cs) := by
  rintro w w' ⟨a, cap, hv, hc, h⟩ hk
  refine ⟨a, cap, hv, hc, ?_⟩
  rcases h with h | ⟨b, off, ha, h1, h2, h3⟩
  · exact .inl h
  · exact .inr ⟨b, off, ha, h1, h2, fun j hj => (h3 j hj).of (cells_of_block (hk b h1 h2))⟩
theorem ItemsQ.wide {w : World} {lo hi lo' hi' : Nat} {v : Value} {cs : List It} (h : ItemsQ w lo hi v cs) (h1 : lo' ≤ lo) (h2 : hi ≤ hi') : ItemsQ w lo' hi' v cs := by
  obtain ⟨a, cap, hv, hc, h⟩ := h
  refine ⟨a, cap, hv, hc, ?_⟩
  rcases h with h | ⟨b, off, ha, g1, g2, h3⟩
  · exact .inl h
  · exact .inr ⟨b, off, ha, by omega, by omega, h3⟩
theorem ItemsQ.inr {w : World} {lo hi : Nat} {v : Value} {cs : List It} (h : ItemsQ w lo hi v cs) (hz : hi ≤ w.heap.size) : ItemsIn w v cs := by
  obtain ⟨a, cap, hv, hc, h⟩ := h
  refine ⟨a, cap, hv, hc, ?_⟩
  rcases h with h | ⟨b, off, ha, h1, h2, h3⟩
  · exact .inl h
  · exact .inr ⟨b, off, ha, by omega, h3⟩
theorem ItemsO.toQ {w : World} {lo hi : Nat} {v : Value} {cs : List It} {fp : List Nat} (h : ItemsO w v cs fp) (k : Within lo hi fp) : ItemsQ w lo hi v cs := by
  obtain ⟨a, cap, hv, hc, h⟩ := h
  refine ⟨a, cap, hv, hc, ?_⟩
  rcases h with ⟨h, -⟩ | ⟨g, ha, hf, h1, h2, -⟩
  · exact .inl h
  · have := k g (by rw [hf]; exact List.mem_singleton.2 rfl)
    exact .inr ⟨g, 0, ha, this.1, this.2, fun j hj => by rw [Nat.zero_add]; exact h2 j hj⟩
structure TrQ (lo hi : Nat) (s m g : Value) (T : Tr) (W : World) : Prop where
  sm : ItemsQ W lo hi s T.sm
  mn : ItemsQ W lo hi m T.mn
  gh : RowQ W lo hi g T.gh
  cp : CapIn g
theorem TrQ.loc (lo hi : Nat) (s m g : Value) (T : Tr) : Loc lo hi (TrQ lo hi s m g T) :=
  fun w w' h hk => ⟨ItemsQ.loc _ _ _ _ w w' h.sm hk, ItemsQ.loc _ _ _ _ w w' h.mn hk, RowQ.loc _ _ _ _ w w' h.gh hk, h.cp⟩
theorem TrQ.tin {w : World} {lo hi : Nat} {s m g : Value} {T : Tr} (h : TrQ lo hi s m g T w) (hz : hi ≤ w.heap.size) : TrIn w s m g T := ⟨h.sm.inr hz, h.mn.inr hz, h.gh.inr hz, h.cp⟩
theorem TrQ.below {w w' : World} {lo hi : Nat} {s m g : Value} {T : Tr} (h : TrQ lo hi s m g T w) (hb : Below hi w w') : TrQ lo hi s m g T w' := TrQ.loc _ _ _ _ _ _ w w' h (fun k _ hk => hb.block k hk)
theorem TrQ.wide {w : World} {lo hi lo' hi' : Nat} {s m g : Value} {T : Tr} (h : TrQ lo hi s m g T w) (h1 : lo' ≤ lo) (h2 : hi ≤ hi') : TrQ lo' hi' s m g T w := ⟨h.sm.wide h1 h2, h.mn.wide h1 h2, h.gh.wide h1 h2, h.cp⟩
theorem TrQ.form {lo hi : Nat} {s m g : Value} {T : Tr} {W : World} (h : TrQ lo hi s m g T W) : ∃ sa sc ma mc ga gc, s = .slice sa T.sm.length sc ∧ m = .slice ma T.mn.length mc ∧ g = .slice ga T.gh.length gc := by
  obtain ⟨sa, sc, h1, -⟩ := h.sm
  obtain ⟨ma, mc, h2, -⟩ := h.mn
  obtain ⟨ga, gc, h3, -⟩ := h.gh
  exact ⟨sa, sc, ma, mc, ga, gc, h1, h2, h3⟩
/- what is owned: each queue in blocks of its own -/
def TrR (lo hi : Nat) (s m g : Value) (T : Tr) (W : World) : Prop :=
  ∃ f1 f2 f3, ItemsO W s T.sm f1 ∧ ItemsO W m T.mn f2 ∧ IntsO W g T.gh f3 ∧ (f1 ++ (f2 ++ f3)).Nodup ∧ Within lo hi f1 ∧ Within lo hi f2 ∧ Within lo hi f3 ∧ CapIn g
theorem TrR.loc (lo hi : Nat) (s m g : Value) (T : Tr) : Loc lo hi (TrR lo hi s m g T) := by
  rintro w w' ⟨f1, f2, f3, h1, h2, h3, hn, k1, k2, k3, kc⟩ hk
  exact ⟨f1, f2, f3, h1.loc' (fun x hx => hk x (k1 x hx).1 (k1 x hx).2), h2.loc' (fun x hx => hk x (k2 x hx).1 (k2 x hx).2), h3.loc' (fun x hx => hk x (k3 x hx).1 (k3 x hx).2), hn, k1, k2, k3, kc⟩
theorem IntsO.rowQ {w : World} {lo hi : Nat} {v : Value} {xs : List Int} {fp : List Nat} (h : IntsO w v xs fp) (k : Within lo hi fp) : RowQ w lo hi v xs := (h.rowW k).toQ
theorem TrR.toQ {lo hi : Nat} {s m g : Value} {T : Tr} {W : World} (h : TrR lo hi s m g T W) : TrQ lo hi s m g T W := by
  obtain ⟨f1, f2, f3, h1, h2, h3, hn, k1, k2, k3, kc⟩ := h
  exact ⟨h1.toQ k1, h2.toQ k2, h3.rowQ k3, kc⟩
theorem TrR.below {w w' : World} {lo hi : Nat} {s m g : Value} {T : Tr} (h : TrR lo hi s m g T w) (hb : Below hi w w') : TrR lo hi s m g T w' := TrR.loc _ _ _ _ _ _ w w' h (fun k _ hk => hb.block k hk)
theorem Within.wide {lo hi lo' hi' : Nat} {fp : List Nat} (h : Within lo hi fp) (h1 : lo' ≤ lo) (h2 : hi ≤ hi') : Within lo' hi' fp := fun x hx => ⟨by have := (h x hx).1; omega, by have := (h x hx).2; omega⟩
theorem TrR.wide {w : World} {lo hi lo' hi' : Nat} {s m g : Value} {T : Tr} (h : TrR lo hi s m g T w) (h1 : lo' ≤ lo) (h2 : hi ≤ hi') : TrR lo' hi' s m g T w := by
  obtain ⟨f1, f2, f3, q1, q2, q3, hn, k1, k2, k3, kc⟩ := h
  exact ⟨f1, f2, f3, q1, q2, q3, hn, k1.wide h1 h2, k2.wide h1 h2, k3.wide h1 h2, kc⟩
theorem TrR.form {lo hi : Nat} {s m g : Value} {T : Tr} {W : World} (h : TrR lo hi s m g T W) : ∃ sa sc ma mc ga gc, s = .slice sa T.sm.length sc ∧ m = .slice ma T.mn.length mc ∧ g = .slice ga T.gh.length gc := h.toQ.form
theorem ItemsO.nil (w : World) : ItemsO w (.slice none 0 0) [] [] := ⟨none, 0, rfl, Nat.le_refl _, .inl ⟨rfl, rfl⟩⟩
theorem IntsO.nil (w : World) : IntsO w (.slice none 0 0) [] [] := ⟨none, 0, rfl, trivial, .inl ⟨rfl, rfl⟩⟩
theorem TrR.zero (lo hi : Nat) (c d : Int) (w : World) : TrR lo hi (.slice none 0 0) (.slice none 0 0) (.slice none 0 0) ⟨c, d, [], [], []⟩ w :=
  ⟨[], [], [], ItemsO.nil w, ItemsO.nil w, IntsO.nil w, by simp, fun _ h => (by cases h), fun _ h => (by cases h), fun _ h => (by cases h), ⟨_, _, _, rfl, Nat.le_refl _⟩⟩
theorem within_nil (lo hi : Nat) : Within lo hi [] := fun _ h => (by cases h)
/- three new rows, made one after the other -/
theorem trr_of {w0 w1 w2 w3 : World} {s m g : Value} {T : Tr} {f1 f2 f3 : List Nat} (h1 : ItemsO w3 s T.sm f1) (h2 : ItemsO w3 m T.mn f2) (h3 : IntsO w3 g T.gh f3) (n1 : f1.Nodup) (n2 : f2.Nodup) (n3 : f3.Nodup) (k1 : Within w0.heap.size w1.heap.size f1) (k2 : Within w1.heap.size w2.heap.size f2) (k3 : Within w2.heap.size w3.heap.size f3) (z1 : w0.heap.size ≤ w1.heap.size) (z2 : w1.heap.size ≤ w2.heap.size) (z3 : w2.heap.size ≤ w3.heap.size) (kc : CapIn g) :
    TrR w0.heap.size w3.heap.size s m g T w3 :=
  ⟨f1, f2, f3, h1, h2, h3, nodup_app (s := w1.heap.size) n1 (nodup_app (s := w2.heap.size) n2 n3 (fun x hx => (k2 x hx).2) (fun x hx => (k3 x hx).1)) (fun x hx => (k1 x hx).2) (fun x hx => by
    rcases List.mem_append.1 hx with hx | hx
    · exact (k2 x hx).1
    · have := (k3 x hx).1; omega), k1.wide (Nat.le_refl _) (by omega), k2.wide z1 z3, k3.wide (by omega) (Nat.le_refl _), kc⟩
def szN (L : List It) : Nat := L.length + szItS L
def TrFit (T : Tr) : Prop := szN T.sm + szN T.mn + T.gh.length ≤ 1048576
def TrLim (T : Tr) : Prop := T.sm.length ≤ 9223372036854775807 ∧ T.mn.length ≤ 9223372036854775807 ∧ T.gh.length ≤ 9223372036854775807 ∧ (∀ c ∈ T.sm, ItLim c) ∧ ∀ c ∈ T.mn, ItLim c
theorem szRI_yes {L : List It} {l : Int} (h : ((szN L : Nat) : Int) ≤ l) : szRI L l = l - (szN L : Nat) := by unfold szRI; unfold szN at h; rw [if_pos h]; rfl
theorem szRI_no {L : List It} {l : Int} (h : ¬ ((szN L : Nat) : Int) ≤ l) : szRI L l = -1 := by unfold szRI; unfold szN at h; rw [if_neg h]
theorem TrFit.lens {T : Tr} (h : TrFit T) : T.sm.length ≤ 1048576 ∧ T.mn.length ≤ 1048576 ∧ T.gh.length ≤ 1048576 ∧ T.sm.length + T.mn.length + T.gh.length ≤ 1048576 := by
  unfold TrFit szN at h
  omega
def mkTr (k : Nat) (T : Tr) : Tr := ⟨T.cap, T.most, mkItems k T.sm.length, mkItems (k + 3 * T.sm.length) T.mn.length, mkInts (k + 3 * T.sm.length + 3 * T.mn.length) T.gh.length⟩

end Go.Proofs.Ytijmjpjclhgaoaa

namespace Go.Proofs.Ytijmjpjclhgaoaa
open Go.ChangeShapes Go.WideShapes Go.ChangeAt Go.RowKit
set_option linter.unusedVariables false

set_option maxHeartbeats 1600000 in
set_option maxRecDepth 100000 in
theorem sz_three (w : World) (s m g : Value) (T : Tr) (h : TrIn w s m g T) (hl : TrLim T) :
    Calls Try.prog 13 #[.agg #[.int .i64 T.cap, .int .i64 T.most, s, m, g], .int .i64 1048576] w fun e w' => (∃ z, e = .returned (.int .i64 z) ∧ (TrFit T → 0 ≤ z) ∧ (¬ TrFit T → z = -1)) ∧ Below w.heap.size w w' := by
  obtain ⟨l1, l2, l3, l4, l5⟩ := hl
  have H := hidIt h
  obtain ⟨sa, sc, ma, mc, ga, gc, rfl, rfl, rfl⟩ := h.form
  clear h
  have X := Bx.new w #[.int .i64 T.cap, .int .i64 T.most, .slice sa T.sm.length sc, .slice ma T.mn.length mc, .slice ga T.gh.length gc] 32
  have bW : Below w.heap.size w (w.alloc (.cells #[.int .i64 T.cap, .int .i64 T.most, .slice sa T.sm.length sc, .slice ma T.mn.length mc, .slice ga T.gh.length gc] 32)) := (Below.refl _ _).alloc (Nat.le_refl _) _
  have zW : (w.alloc (.cells #[.int .i64 T.cap, .int .i64 T.most, .slice sa T.sm.length sc, .slice ma T.mn.length mc, .slice ga T.gh.length gc] 32)).heap.size = w.heap.size + 1 := by simp
  by_cases c1 : ((szN T.sm : Nat) : Int) ≤ 1048576
  · have HV1 := hidIt (szRI_yes c1)
    by_cases c2 : ((szN T.mn : Nat) : Int) ≤ 1048576 - (szN T.sm : Nat)
    · have HV2 := hidIt (szRI_yes c2)
      by_cases c3 : ((T.gh.length : Nat) : Int) ≤ 1048576 - (szN T.sm : Nat) - (szN T.mn : Nat)
      all_goals
        go_enter Try.func13, Try.ntmps13
        go_wp2_with fail
        generalize hW : World.alloc w _ = W0 at X bW zW ⊢
        clear hW
        refine (sz_items W0 _ T.sm 1048576 l1 (by omega) (by omega) (H.out.sm.below bW) l4).mono ?_
        rintro e w1 ⟨rfl, b1⟩
        rw [HV1.out]
        have z1 := b1.size
        have Y := hidIt (And.intro (X.below b1) (below_step bW (b1.mono (by omega))))
        clear X b1 bW
        have y3 := Y.out.1.2.1 3
        simp at y3
        go_wp2_with fail
        clear y3
        refine (sz_items w1 _ T.mn _ l2 (by omega) (by omega) (H.out.mn.below Y.out.2) l5).mono ?_
        rintro e w2 ⟨rfl, b2⟩
        rw [HV2.out]
        have z2 := b2.size
        have Z := hidIt (And.intro (Y.out.1.below b2) (below_step Y.out.2 (b2.mono (by omega))))
        clear Y b2
        have y4 := Z.out.1.2.1 4
        simp at y4
        go_wp2_with fail
        clear y4
        refine (sz_int ga T.gh.length gc _ _ l3 (by omega) (by omega)).mono ?_
        rintro e w3 ⟨rfl, rfl⟩
        first | rw [if_neg (by omega)] | rw [if_pos (by omega)]
        go_wp2
        go_ret
        first
          | exact ⟨⟨_, rfl, fun _ => by omega, fun hh => absurd (show TrFit T by unfold TrFit; omega) hh⟩, Z.out.2⟩
          | exact ⟨⟨_, rfl, fun hh => absurd hh (by unfold TrFit; omega), fun _ => rfl⟩, Z.out.2⟩
    · have HV2 := hidIt (szRI_no c2)
      go_enter Try.func13, Try.ntmps13
      go_wp2_with fail
      generalize hW : World.alloc w _ = W0 at X bW zW ⊢
      clear hW
      refine (sz_items W0 _ T.sm 1048576 l1 (by omega) (by omega) (H.out.sm.below bW) l4).mono ?_
      rintro e w1 ⟨rfl, b1⟩
      rw [HV1.out]
      have z1 := b1.size
      have Y := hidIt (And.intro (X.below b1) (below_step bW (b1.mono (by omega))))
      clear X b1 bW
      have y3 := Y.out.1.2.1 3
      simp at y3
      go_wp2_with fail
      clear y3
      refine (sz_items w1 _ T.mn _ l2 (by omega) (by omega) (H.out.mn.below Y.out.2) l5).mono ?_
      rintro e w2 ⟨rfl, b2⟩
      rw [HV2.out]
      go_wp2
      go_ret
      exact ⟨⟨_, rfl, fun hh => absurd hh (by unfold TrFit; omega), fun _ => rfl⟩, below_step Y.out.2 (b2.mono (by omega))⟩
  · have HV1 := hidIt (szRI_no c1)
    go_enter Try.func13, Try.ntmps13
    go_wp2_with fail
    generalize hW : World.alloc w _ = W0 at X bW zW ⊢
    clear hW
    refine (sz_items W0 _ T.sm 1048576 l1 (by omega) (by omega) (H.out.sm.below bW) l4).mono ?_
    rintro e w1 ⟨rfl, b1⟩
    rw [HV1.out]
    go_wp2
    go_ret
    exact ⟨⟨_, rfl, fun hh => absurd hh (by unfold TrFit; omega), fun _ => rfl⟩, below_step bW (b1.mono (by omega))⟩
theorem TrR.set_low {W : World} {lo hi : Nat} {s m g : Value} {T : Tr} (h : TrR lo hi s m g T W) {b o : Nat} {x : Value} (hb : b < lo) : TrR lo hi s m g T (W.setCell ⟨b, o, none⟩ x) :=
  TrR.loc lo hi s m g T W _ h (fun k k1 _ => Below.heap_setCell _ _ _ _ (by show k ≠ b; omega))
theorem not_in_lo {lo hi p : Nat} {fp : List Nat} (h : Within lo hi fp) (hp : p < lo) : ¬ p ∈ fp := fun hm => by have := (h p hm).1; omega
set_option maxHeartbeats 1600000 in
set_option maxRecDepth 100000 in
theorem to_three (w : World) (s m g : Value) (T : Tr) (hf : TrFit T) (h : TrIn w s m g T) :
    Calls Try.prog 15 #[.agg #[.int .i64 T.cap, .int .i64 T.most, s, m, g]] w fun e w' => ∃ s' m' g', e = .returned (.agg #[.int .i64 T.cap, .int .i64 T.most, s', m', g']) ∧ TrR w.heap.size w'.heap.size s' m' g' T w' ∧ Below w.heap.size w w' := by
  obtain ⟨n1, n2, n3, -⟩ := hf.lens
  have H := hidIt h
  obtain ⟨sa, sc, ma, mc, ga, gc, rfl, rfl, rfl⟩ := h.form
  clear h
  go_enter Try.func15, Try.ntmps15
  go_wp2_with fail
  generalize hW : World.alloc (World.alloc (World.alloc w _) _) _ = W0
  have X := bx3 w #[.int .i64 T.cap, .int .i64 T.most, .slice sa T.sm.length sc, .slice ma T.mn.length mc, .slice ga T.gh.length gc] #[.int .i64 0, .int .i64 0, .slice none 0 0, .slice none 0 0, .slice none 0 0] #[.int .i64 T.cap, .int .i64 T.most, .slice none 0 0, .slice none 0 0, .slice none 0 0] 32 37 37
  rw [hW] at X
  clear hW
  obtain ⟨X0, X1, X2, bW, zW⟩ := X
  refine (to_items W0 _ T.sm (by omega) (H.out.sm.below bW)).mono ?_
  rintro e w1 ⟨v1, rfl, r1⟩
  obtain ⟨f1, o1, d1, k1, b1⟩ := r1
  have z1 := b1.size
  obtain ⟨a1, c1, rfl, -⟩ := o1.rd.form
  have R1 := hidIt (And.intro o1 (And.intro d1 (show Within W0.heap.size w1.heap.size f1 from fun x hx => ⟨k1 x hx, o1.lt x hx⟩)))
  have Y := hidIt (And.intro (X0.below b1) (And.intro (X1.below b1) (And.intro (X2.below b1) (below_step bW (b1.mono (by omega))))))
  clear X0 X1 X2 bW b1 o1 d1 k1
  have y3 := Y.out.1.2.1 3
  have q2 := Y.out.2.2.1.2.2
  have y2 := Y.out.2.2.1.2.1 2
  simp at y3 y2
  go_wp2_with fail
  clear y3 y2 q2
  generalize hW : World.setCell w1 _ _ = W1
  have e1 := hidIt hW.symm
  have zW1 : W1.heap.size = w1.heap.size := by rw [← hW]; simp
  clear hW
  have X := hidIt (show Bx W1 w.heap.size _ ∧ Bx W1 (w.heap.size + 1) _ ∧ Bx W1 (w.heap.size + 1 + 1) _ ∧ Below w.heap.size w W1 from by
    rw [e1.out]
    exact ⟨Y.out.1.other _ (by omega), Y.out.2.1.other _ (by omega), Y.out.2.2.1.set (i := 2) _ (by simp), Y.out.2.2.2.setCell (by simp <;> omega) _⟩)
  have R1b := hidIt (show ItemsO W1 _ T.sm f1 ∧ f1.Nodup ∧ Within W0.heap.size W1.heap.size f1 from by
    rw [e1.out]
    exact ⟨R1.out.1.set (not_in_lo R1.out.2.2 (by omega)), R1.out.2.1, by simpa using R1.out.2.2⟩)
  clear Y R1 e1
  refine (to_items W1 _ T.mn (by omega) (H.out.mn.below X.out.2.2.2)).mono ?_
  rintro e w2 ⟨v2, rfl, r2⟩
  obtain ⟨f2, o2, d2, k2, b2⟩ := r2
  have z2 := b2.size
  obtain ⟨a2, c2, rfl, -⟩ := o2.rd.form
  have R2 := hidIt (And.intro o2 (And.intro d2 (show Within W1.heap.size w2.heap.size f2 from fun x hx => ⟨k2 x hx, o2.lt x hx⟩)))
  have R1c := hidIt (And.intro (R1b.out.1.below b2) R1b.out.2)
  have Y := hidIt (And.intro (X.out.1.below b2) (And.intro (X.out.2.1.below b2) (And.intro (X.out.2.2.1.below b2) (below_step X.out.2.2.2 (b2.mono (by omega))))))
  clear X b2 o2 d2 k2 R1b
  have y4 := Y.out.1.2.1 4
  have q2 := Y.out.2.2.1.2.2
  have y2 := Y.out.2.2.1.2.1 3
  simp at y4 y2
  go_wp2_with fail
  clear y4 y2 q2
  generalize hW : World.setCell w2 _ _ = W2
  have e2 := hidIt hW.symm
  have zW2 : W2.heap.size = w2.heap.size := by rw [← hW]; simp
  clear hW
  have X := hidIt (show Bx W2 (w.heap.size + 1) _ ∧ Bx W2 (w.heap.size + 1 + 1) _ ∧ Below w.heap.size w W2 from by
    rw [e2.out]
    exact ⟨Y.out.2.1.other _ (by omega), Y.out.2.2.1.set (i := 3) _ (by simp), Y.out.2.2.2.setCell (by simp <;> omega) _⟩)
  have R1d := hidIt (show ItemsO W2 _ T.sm f1 ∧ f1.Nodup ∧ Within W0.heap.size W1.heap.size f1 from by
    rw [e2.out]
    exact ⟨R1c.out.1.set (not_in_lo R1c.out.2.2 (by omega)), R1c.out.2⟩)
  have R2b := hidIt (show ItemsO W2 _ T.mn f2 ∧ f2.Nodup ∧ Within W1.heap.size W2.heap.size f2 from by
    rw [e2.out]
    exact ⟨R2.out.1.set (not_in_lo R2.out.2.2 (by omega)), R2.out.2.1, by simpa using R2.out.2.2⟩)
  clear Y R1c R2 e2
  refine (to_intsC W2 _ T.gh (by omega) (H.out.gh.below X.out.2.2)).mono ?_
  rintro e w3 ⟨v3, rfl, kc, r3⟩
  have KC := hidIt kc
  clear kc
  obtain ⟨f3, o3, d3, k3, b3⟩ := r3
  have z3 := b3.size
  obtain ⟨a3, c3, rfl, -⟩ := o3.rd.form
  have R3 := hidIt (And.intro o3 (And.intro d3 (show Within W2.heap.size w3.heap.size f3 from fun x hx => ⟨k3 x hx, o3.lt x hx⟩)))
  have R1e := hidIt (And.intro (R1d.out.1.below b3) R1d.out.2)
  have R2c := hidIt (And.intro (R2b.out.1.below b3) R2b.out.2)
  have Y := hidIt (And.intro (X.out.1.below b3) (And.intro (X.out.2.1.below b3) (below_step X.out.2.2 (b3.mono (by omega)))))
  clear X b3 o3 d3 k3 R1d R2b
  have m0 := Y.out.1.2.1 0
  have m1 := Y.out.1.2.1 1
  have m2 := Y.out.1.2.1 2
  have m3 := Y.out.1.2.1 3
  have m4 := Y.out.1.2.1 4
  have q1' := Y.out.1.2.2
  have k0 := Y.out.2.1.2.1 0
  have k1 := Y.out.2.1.2.1 1
  have k2 := Y.out.2.1.2.1 2
  have k3 := Y.out.2.1.2.1 3
  have k4 := Y.out.2.1.2.1 4
  have q2' := Y.out.2.1.2.2
  simp at m0 m1 m2 m3 m4 k0 k1 k2 k3 k4
  go_wp2
  refine bodyPost_ret (v := .agg #[.int .i64 T.cap, .int .i64 T.most, .slice a1 T.sm.length c1, .slice a2 T.mn.length c2, .slice a3 T.gh.length c3]) (by simp [results, Try.results15, go_sem, m0, m1, m2, m3, m4]) rfl ⟨_, _, _, rfl, ?_, ?_⟩
  · have K := trr_of (w0 := W0) (w1 := W1) (w2 := W2) (w3 := w3) (T := T) R1e.out.1 R2c.out.1 R3.out.1 R1e.out.2.1 R2c.out.2.1 R3.out.2.1 R1e.out.2.2 R2c.out.2.2 R3.out.2.2 (by omega) (by omega) (by omega) KC.out
    exact TrR.wide ((((((K.set_low (by omega)).set_low (by omega)).set_low (by omega)).set_low (by omega)).set_low (by omega)).set_low (by omega)) (by omega) (by simp)
  · have y3 := Y.out.2.2
    exact ((((((y3.setCell (by simp <;> omega) _).setCell (by simp <;> omega) _).setCell (by simp <;> omega) _).setCell (by simp <;> omega) _).setCell (by simp <;> omega) _).setCell (by simp <;> omega) _)
set_option maxHeartbeats 1600000 in
set_option maxRecDepth 100000 in
theorem eq_three (w : World) (s1 m1 g1 s2 m2 g2 : Value) (T : Tr) (hf : TrFit T) (r1 : TrIn w s1 m1 g1 T) (r2 : TrIn w s2 m2 g2 T) :
    Calls Try.prog 17 #[.agg #[.int .i64 T.cap, .int .i64 T.most, s1, m1, g1], .agg #[.int .i64 T.cap, .int .i64 T.most, s2, m2, g2]] w fun e w' => e = .returned (.bool true) ∧ Below w.heap.size w w' := by
  obtain ⟨n1, n2, n3, -⟩ := hf.lens
  have R1 := hidIt r1
  have R2 := hidIt r2
  obtain ⟨sa, sc, ma, mc, ga, gc, rfl, rfl, rfl⟩ := r1.form
  obtain ⟨sb, sd, mb, md, gb, gd, rfl, rfl, rfl⟩ := r2.form
  clear r1 r2
  go_enter Try.func17, Try.ntmps17
  go_wp2_with fail
  generalize hW : World.alloc (World.alloc w _) _ = W0
  have X := bx2 w #[.int .i64 T.cap, .int .i64 T.most, .slice sa T.sm.length sc, .slice ma T.mn.length mc, .slice ga T.gh.length gc] #[.int .i64 T.cap, .int .i64 T.most, .slice sb T.sm.length sd, .slice mb T.mn.length md, .slice gb T.gh.length gd] 37 37
  rw [hW] at X
  clear hW
  obtain ⟨X0, X1, bW, zW⟩ := X
  refine (eq_items W0 _ _ T.sm (by omega) (R1.out.sm.below bW) (R2.out.sm.below bW)).mono ?_
  rintro e w1 ⟨rfl, b1⟩
  have z1 := b1.size
  have Y := hidIt (And.intro (X0.below b1) (And.intro (X1.below b1) (below_step bW (b1.mono (by omega)))))
  clear X0 X1 bW b1
  have y1 := Y.out.1.2.1 3
  have k1 := Y.out.2.1.2.1 3
  simp at y1 k1
  go_wp2_with fail
  clear y1 k1
  refine (eq_items w1 _ _ T.mn (by omega) (R1.out.mn.below Y.out.2.2) (R2.out.mn.below Y.out.2.2)).mono ?_
  rintro e w2 ⟨rfl, b2⟩
  have z2 := b2.size
  have Z := hidIt (And.intro (Y.out.1.below b2) (And.intro (Y.out.2.1.below b2) (below_step Y.out.2.2 (b2.mono (by omega)))))
  clear Y b2
  have y4 := Z.out.1.2.1 4
  have k4 := Z.out.2.1.2.1 4
  simp at y4 k4
  go_wp2_with fail
  clear y4 k4
  refine (eq_ints w2 _ _ T.gh (by omega) (R1.out.gh.below Z.out.2.2) (R2.out.gh.below Z.out.2.2)).mono ?_
  rintro e w3 ⟨rfl, b3⟩
  go_wp2
  go_ret
  exact ⟨rfl, below_step Z.out.2.2 (b3.mono (by omega))⟩
set_option maxHeartbeats 1600000 in
set_option maxRecDepth 100000 in
theorem mark_three (w : World) (lo hi : Nat) (s m g : Value) (T : Tr) (k0 : Nat) (hf : TrFit T) (h1 : 1 ≤ k0) (h2 : k0 ≤ 1) (r : TrR lo hi s m g T w) (hh : hi ≤ w.heap.size) :
    Calls Try.prog 20 #[.agg #[.int .i64 T.cap, .int .i64 T.most, s, m, g], .int .i64 k0] w fun e w' => e = .returned (.int .i64 ((k0 + 3 * T.sm.length + 3 * T.mn.length + T.gh.length : Nat) : Int)) ∧ TrR lo hi s m g (mkTr k0 T) w' ∧ Out lo hi w w' := by
  obtain ⟨n1, n2, n3, -⟩ := hf.lens
  have nn := hf.lens.2.2.2
  have F := r.form
  obtain ⟨f1, f2, f3, o1, o2, o3, hn, k1, k2, k3, kc⟩ := r
  have KC := hidIt kc
  clear kc
  obtain ⟨sa, sc, ma, mc, ga, gc, rfl, rfl, rfl⟩ := F
  have HN := hidIt hn
  have K := hidIt (And.intro k1 (And.intro k2 k3))
  have R := hidIt (And.intro o1 (And.intro o2 o3))
  clear o1 o2 o3 hn k1 k2 k3
  go_enter Try.func20, Try.ntmps20
  go_wp2_with fail
  generalize hW : World.alloc w _ = W0
  have X := Bx.new w #[.int .i64 T.cap, .int .i64 T.most, .slice sa T.sm.length sc, .slice ma T.mn.length mc, .slice ga T.gh.length gc] 37
  have bW : Below w.heap.size w W0 := by rw [← hW]; exact (Below.refl _ _).alloc (Nat.le_refl _) _
  have zW : W0.heap.size = w.heap.size + 1 := by rw [← hW]; simp
  rw [hW] at X
  clear hW
  have hd := List.nodup_append.1 HN.out
  have hd2 := List.nodup_append.1 hd.2.1
  have D12 := hidIt (fun x (h1 : x ∈ f1) (h2 : x ∈ f2) => hd.2.2 x h1 x (List.mem_append_left _ h2) rfl)
  have D13 := hidIt (fun x (h1 : x ∈ f1) (h2 : x ∈ f3) => hd.2.2 x h1 x (List.mem_append_right _ h2) rfl)
  have D23 := hidIt (fun x (h1 : x ∈ f2) (h2 : x ∈ f3) => hd2.2.2 x h1 x h2 rfl)
  clear hd hd2
  refine (mark_items W0 _ T.sm f1 k0 (by omega) h1 (by omega) (R.out.1.below bW)).mono ?_
  rintro e w1 ⟨rfl, m1, p1⟩
  have zz1 := p1.size
  have M1 := hidIt m1
  have R2 := hidIt (p1.items (R.out.2.1.below bW) (fun x h2 h1 => D12.out x h1 h2))
  have R3 := hidIt (p1.ints (R.out.2.2.below bW) (fun x h2 h1 => D13.out x h1 h2))
  have X1 := hidIt (X.block p1.size (p1.block _ X.1 (fun hm => by have := (K.out.1 _ hm).2; omega)))
  have O1 := hidIt ((Out.of_below (lo := lo) (hi := hi) bW).trans (p1.toOut K.out.1))
  clear m1 p1 X bW
  have y3 := X1.out.2.1 3
  simp at y3
  go_wp2_with fail
  clear y3
  refine (mark_items w1 _ T.mn f2 (k0 + 3 * T.sm.length) (by omega) (by omega) (by omega) R2.out).mono ?_
  rintro e w2 ⟨rfl, m2, p2⟩
  have zz2 := p2.size
  have M2 := hidIt m2
  have M1b := hidIt (p2.items M1.out (fun x h1 h2 => D12.out x h1 h2))
  have R3b := hidIt (p2.ints R3.out (fun x h2 h1 => D23.out x h1 h2))
  have X2 := hidIt (X1.out.block p2.size (p2.block _ X1.out.1 (fun hm => by have := (K.out.2.1 _ hm).2; omega)))
  have O2 := hidIt (O1.out.trans (p2.toOut K.out.2.1))
  clear m2 p2 X1 O1 M1 R2 R3
  have y4 := X2.out.2.1 4
  simp at y4
  go_wp2_with fail
  clear y4
  refine (mark_ints w2 _ T.gh f3 (k0 + 3 * T.sm.length + 3 * T.mn.length) (by omega) (by omega) R3b.out).mono ?_
  rintro e w3 ⟨rfl, m3, p3⟩
  have M3 := hidIt m3
  have M1c := hidIt (p3.items M1b.out (fun x h1 h2 => D13.out x h1 h2))
  have M2b := hidIt (p3.items M2.out (fun x h1 h2 => D23.out x h1 h2))
  have O3 := hidIt (O2.out.trans (p3.toOut K.out.2.2))
  clear m3 p3 M1b M2 R3b O2 X2
  go_wp2
  go_ret
  exact ⟨rfl, ⟨f1, f2, f3, M1c.out, M2b.out, M3.out, HN.out, K.out.1, K.out.2.1, K.out.2.2, KC.out⟩, O3.out⟩
set_option maxHeartbeats 1600000 in
set_option maxRecDepth 100000 in
theorem held_three (w : World) (lo hi : Nat) (s m g : Value) (T : Tr) (k0 : Nat) (hf : TrFit T) (h1 : 1 ≤ k0) (h2 : k0 ≤ 1) (r : TrR lo hi s m g (mkTr k0 T) w) :
    Calls Try.prog 21 #[.agg #[.int .i64 T.cap, .int .i64 T.most, s, m, g], .int .i64 k0] w fun e w' => e = .returned (.int .i64 ((k0 + 3 * T.sm.length + 3 * T.mn.length + T.gh.length : Nat) : Int)) ∧ Below w.heap.size w w' := by
  obtain ⟨n1, n2, n3, -⟩ := hf.lens
  have nn := hf.lens.2.2.2
  have F := r.form
  obtain ⟨f1, f2, f3, o1, o2, o3, -⟩ := r
  obtain ⟨sa, sc, ma, mc, ga, gc, e1, e2, e3⟩ := F
  have q1 : (mkTr k0 T).sm.length = T.sm.length := by simp [mkTr, mkItems_len]
  have q2 : (mkTr k0 T).mn.length = T.mn.length := by simp [mkTr, mkItems_len]
  have q3 : (mkTr k0 T).gh.length = T.gh.length := by simp [mkTr, mkInts_len]
  rw [q1] at e1
  rw [q2] at e2
  rw [q3] at e3
  subst e1 e2 e3
  clear q1 q2 q3
  have R := hidIt (And.intro o1 (And.intro o2 o3))
  clear o1 o2 o3
  go_enter Try.func21, Try.ntmps21
  go_wp2_with fail
  generalize hW : World.alloc w _ = W0
  have X := Bx.new w #[.int .i64 T.cap, .int .i64 T.most, .slice sa T.sm.length sc, .slice ma T.mn.length mc, .slice ga T.gh.length gc] 37
  have bW : Below w.heap.size w W0 := by rw [← hW]; exact (Below.refl _ _).alloc (Nat.le_refl _) _
  have zW : W0.heap.size = w.heap.size + 1 := by rw [← hW]; simp
  rw [hW] at X
  clear hW
  refine (held_items W0 _ T.sm.length k0 f1 (by omega) h1 (by omega) (R.out.1.below bW)).mono ?_
  rintro e w1 ⟨rfl, b1⟩
  have z1 := b1.size
  have Y := hidIt (And.intro (X.below b1) (below_step bW (b1.mono (by omega))))
  clear X b1 bW
  have y3 := Y.out.1.2.1 3
  simp at y3
  go_wp2_with fail
  clear y3
  refine (held_items w1 _ T.mn.length (k0 + 3 * T.sm.length) f2 (by omega) (by omega) (by omega) (R.out.2.1.below Y.out.2)).mono ?_
  rintro e w2 ⟨rfl, b2⟩
  have z2 := b2.size
  have Z := hidIt (And.intro (Y.out.1.below b2) (below_step Y.out.2 (b2.mono (by omega))))
  clear Y b2
  have y4 := Z.out.1.2.1 4
  simp at y4
  go_wp2_with fail
  clear y4
  refine (held_ints w2 _ T.gh.length (k0 + 3 * T.sm.length + 3 * T.mn.length) f3 (by omega) (by omega) (R.out.2.2.below Z.out.2)).mono ?_
  rintro e w3 ⟨rfl, rfl⟩
  go_wp2
  go_ret
  exact ⟨rfl, Z.out.2⟩

end Go.Proofs.Ytijmjpjclhgaoaa
