/- Contracts of functions of the program and of its model, and plain lemmas: several texts in one. -/
import Derived.Test.YtijmjpjclhgaoaaRows
import Derived.WalkKit
import Derived.ProofKit
import Derived.OpenShut
import Derived.ShutString
import Derived.Test.YtijmjpjclhgaoaaRtB
import Derived.Deep.AppendLies
import Derived.Deep.LoopGhost
import Derived.Deep.DeepCutAuto

namespace Go.Proofs.Ytijmjpjclhgaoaa
open Go.ChangeShapes Go.WideShapes Go.ChangeAt Go.RowKit
set_option linter.unusedVariables false

def strs (ks : List ByteArray) : List Value := ks.map Value.string
theorem strs_len (ks : List ByteArray) : (strs ks).length = ks.length := by simp [strs]
theorem strs_app (a b : List ByteArray) : strs (a ++ b) = strs a ++ strs b := by simp [strs]
theorem strs_one (ks : List ByteArray) : ∀ u ∈ strs ks, u.oneCell' = true := by
  intro u hu
  simp [strs] at hu
  obtain ⟨k, _, rfl⟩ := hu
  rfl
def StrsIn (w : World) (v : Value) (ks : List ByteArray) : Prop :=
  ∃ a cap, v = .slice a ks.length cap ∧ ks.length ≤ cap ∧ (ks = [] ∨ ∃ b off, a = some ⟨b, off, none⟩ ∧ b < w.heap.size ∧ ∀ j (hj : j < ks.length), w.cell? ⟨b, off + j, none⟩ = some (.string ks[j]))
theorem StrsIn.below {w w' : World} {v : Value} {ks : List ByteArray} (h : StrsIn w v ks) (hb : Below w.heap.size w w') : StrsIn w' v ks := by
  obtain ⟨a, cap, hv, hc, h⟩ := h
  refine ⟨a, cap, hv, hc, ?_⟩
  rcases h with h | ⟨b, off, ha, h1, h2⟩
  · exact .inl h
  · exact .inr ⟨b, off, ha, Nat.lt_of_lt_of_le h1 hb.size, fun j hj => (hb.cell (p := ⟨b, off + j, none⟩) h1).trans (h2 j hj)⟩
theorem strs_of_owns {w : World} {base : Nat} {e : TypeId} {v : Value} {n : Nat} {ks : List ByteArray} (h : w.ownsRow base e 1 v n (strs ks)) : StrsIn w v ks := by
  rcases own_cells2 h with ⟨rfl, hn, hx⟩ | ⟨g, cap, rfl, h1, h2, h3, h4, h5, h6, h7⟩
  · have : ks = [] := by simpa [strs] using hx
    subst this
    exact ⟨none, 0, rfl, Nat.le_refl _, .inl rfl⟩
  · rw [strs_len] at h5
    obtain rfl : n = ks.length := by omega
    exact ⟨_, cap, rfl, h3, .inr ⟨g, 0, rfl, h2, fun j hj => by
      have := h6 j (by rw [strs_len]; exact hj)
      rw [Nat.zero_add, this]
      simp [strs]⟩⟩
theorem StrsIn.take {w : World} {a : Option Addr} {n c : Nat} {ks : List ByteArray} (h : StrsIn w (.slice a n c) ks) (k : Nat) (hk : k ≤ ks.length) : StrsIn w (.slice a k c) (ks.take k) := by
  obtain ⟨a', c2, hv, hc, h⟩ := h
  simp at hv
  obtain ⟨rfl, rfl, rfl⟩ := hv
  have hl : (ks.take k).length = k := by simp; omega
  refine ⟨a, c, by rw [hl], by omega, ?_⟩
  rcases h with rfl | ⟨b, off, rfl, h1, h2⟩
  · exact .inl (by simp)
  · exact .inr ⟨b, off, rfl, h1, fun j hj => by rw [List.getElem_take]; exact h2 j (by omega)⟩
/- where x stands first -/
def IAt {α : Type} (xs : List α) (x : α) (z : Int) : Prop := (z = -1 ∧ ¬ x ∈ xs) ∨ ∃ j : Nat, ∃ hj : j < xs.length, z = j ∧ xs[j] = x ∧ ∀ i (hi : i < j), xs[i]'(by omega) ≠ x
theorem IAt.nonneg {α : Type} {xs : List α} {x : α} {z : Int} (h : IAt xs x z) : 0 ≤ z ↔ x ∈ xs := by
  rcases h with ⟨rfl, h⟩ | ⟨j, hj, rfl, h1, -⟩
  · exact ⟨fun h => absurd h (by omega), fun k => absurd k h⟩
  · exact ⟨fun _ => h1 ▸ List.getElem_mem hj, fun _ => by omega⟩
theorem IAt.low {α : Type} {xs : List α} {x : α} {z : Int} (h : IAt xs x z) : -1 ≤ z := by
  rcases h with ⟨rfl, -⟩ | ⟨j, hj, rfl, -⟩ <;> omega
theorem nodup_step {α : Type} {xs : List α} (k : Nat) (hk : k < xs.length) (h : (xs.take k).Nodup) (hn : ¬ xs[k] ∈ xs.take k) : (xs.take (k + 1)).Nodup := by
  rw [List.take_succ_eq_append_getElem hk]
  refine List.nodup_append.2 ⟨h, by simp, fun a ha b hb => ?_⟩
  simp at hb
  subst hb
  intro e
  subst e
  exact hn ha
theorem not_nodup_at {α : Type} {xs : List α} (k : Nat) (hk : k < xs.length) (hn : xs[k] ∈ xs.take k) : ¬ xs.Nodup := by
  intro h
  have : (xs.take (k + 1)).Nodup := h.sublist (List.take_sublist _ _)
  rw [List.take_succ_eq_append_getElem hk] at this
  exact (List.nodup_append.1 this).2.2 _ hn _ (by simp) rfl
/- all blocks below B but p stand -/
def Kb (B p : Nat) (w w' : World) : Prop := ∃ bs, (∀ k ∈ bs, k = p ∨ B ≤ k) ∧ Kp bs w w'
theorem Kb.refl (B p : Nat) (w : World) : Kb B p w w := ⟨[], by simp, Kp.refl _ _⟩
theorem Kb.trans {B p : Nat} {w w1 w2 : World} (h : Kb B p w w1) (k : Kb B p w1 w2) : Kb B p w w2 := by
  obtain ⟨bs, h1, h2⟩ := h
  obtain ⟨cs, k1, k2⟩ := k
  refine ⟨bs ++ cs, fun x hx => by rcases List.mem_append.1 hx with hx | hx; exact h1 x hx; exact k1 x hx, (h2.more fun x hx => .inl (List.mem_append_left _ hx)).trans (k2.more fun x hx => .inl (List.mem_append_right _ hx))⟩
theorem Kb.below {B p : Nat} {w w1 w2 : World} (h : Kb B p w w1) (k : Below w1.heap.size w1 w2) : Kb B p w w2 := h.trans ⟨[], by simp, Kp.of_below k⟩
theorem Kb.size {B p : Nat} {w w1 : World} (h : Kb B p w w1) : w.heap.size ≤ w1.heap.size := by
  obtain ⟨bs, -, h2⟩ := h
  exact h2.size
theorem Kb.block {B p : Nat} {w w1 : World} (h : Kb B p w w1) {k : Nat} (hk : k < w.heap.size) (h1 : k < B) (h2 : k ≠ p) : w1.heap[k]? = w.heap[k]? := by
  obtain ⟨bs, q1, q2⟩ := h
  exact q2.block k hk (fun hm => by rcases q1 k hm with e | e <;> omega)
theorem Kb.toBelow {B p : Nat} {u w w1 : World} (b : Below u.heap.size u w) (h : Kb B p w w1) (hp : u.heap.size ≤ p) (hB : u.heap.size ≤ B) : Below u.heap.size u w1 := by
  obtain ⟨bs, q1, q2⟩ := h
  exact b.trans (q2.below b.size (fun k hk => by rcases q1 k hk with e | e <;> omega))

end Go.Proofs.Ytijmjpjclhgaoaa

namespace Go.Proofs.Ytijmjpjclhgaoaa
open Go.ChangeShapes Go.WideShapes Go.ChangeAt Go.RowKit
set_option linter.unusedVariables false

def BAns (OK : Prop) (e : Ending) : Prop := ∃ b, e = .returned (.bool b) ∧ Hid (b = true ↔ OK)
theorem bans_no {OK : Prop} (h : ¬ OK) : BAns OK (.returned (.bool false)) := ⟨false, rfl, ⟨fun h => (by cases h), fun k => absurd k h⟩⟩
theorem bans_yes {OK : Prop} (h : OK) : BAns OK (.returned (.bool true)) := ⟨true, rfl, ⟨fun _ => h, fun _ => rfl⟩⟩
set_option maxHeartbeats 1600000 in
set_option maxRecDepth 100000 in
theorem index_str (w : World) (v : Value) (xs : List ByteArray) (x : ByteArray) (hn : xs.length ≤ 4194304) (h : StrsIn w v xs) :
    Calls Try.prog 76 #[v, .string x] w fun e w' => (∃ z, e = .returned (.int .i64 z) ∧ Hid (IAt xs x z)) ∧ w' = w := by
  obtain ⟨a, cap, rfl, hc, h⟩ := h
  have hA : Hid (∀ j (hj : j < xs.length), ∃ b off, a = some ⟨b, off, none⟩ ∧ w.cell? ⟨b, off + j, none⟩ = some (.string xs[j])) := by
    intro j hj
    rcases h with rfl | ⟨b, off, rfl, h1, h2⟩
    · simp at hj
    · exact ⟨b, off, rfl, h2 j hj⟩
  clear h
  go_enter Try.func76, Try.ntmps76
  go_wp2
  go_loop [8] (fun i => ∃ k : Nat, k ≤ xs.length ∧ i = .int .i64 k ∧ Hid (∀ i (hi : i < xs.length), i < k → xs[i] ≠ x)) (fun i => xs.length - (intOf i).toNat)
  case atStart => exact ⟨0, Nat.zero_le _, rfl, fun i _ h => absurd h (by omega)⟩
  case round =>
    obtain ⟨k, hk, rfl, HS⟩ := hrel
    by_cases hlt : k < xs.length
    · have hlt' : (k : Int) < (xs.length : Int) := by omega
      obtain ⟨b, off, ha, hc⟩ := hA.out k hlt
      subst ha
      obtain ⟨y, hy⟩ : ∃ y, xs[k] = y := ⟨_, rfl⟩
      have HY := hidIt hy
      rw [hy] at hc
      clear hy
      by_cases e : x = y
      · have d := ba_eq e
        have HE := hidIt e
        clear e
        go_wp2
        go_ret
        exact ⟨⟨k, rfl, .inr ⟨k, hlt, rfl, by rw [HY.out, HE.out], fun i hi => HS.out i (by omega) hi⟩⟩, rfl⟩
      · have d := ba_ne e
        have HE := hidIt e
        clear e
        go_wp2
        go_round
        case rel => exact ⟨k + 1, by omega, by go_num, fun i hi h => by
          by_cases ei : i = k
          · subst ei; rw [HY.out]; exact fun e => HE.out e.symm
          · exact HS.out i hi (by omega)⟩
        case measure => simp [intOf]; omega
    · go_wp2
      go_ret
      exact ⟨⟨-1, rfl, .inl ⟨rfl, fun hm => by
        obtain ⟨i, hi, e⟩ := List.getElem_of_mem hm
        exact HS.out i hi (by omega) e⟩⟩, rfl⟩
theorem contains_str (w : World) (v : Value) (xs : List ByteArray) (x : ByteArray) (hn : xs.length ≤ 4194304) (h : StrsIn w v xs) :
    Calls Try.prog 64 #[v, .string x] w fun e w' => BAns (x ∈ xs) e ∧ w' = w := by
  have HI := hidIt (index_str w v xs x hn h)
  clear h
  go_enter Try.func64, Try.ntmps64
  go_wp2_with fail
  refine HI.out.mono ?_
  rintro e w' ⟨⟨z, rfl, hz⟩, rfl⟩
  go_wp2
  go_ret
  exact ⟨⟨decide (0 ≤ z), rfl, by show _ ↔ _; rw [decide_eq_true_iff]; exact hz.out.nonneg⟩, rfl⟩
set_option maxHeartbeats 1600000 in
set_option maxRecDepth 100000 in
theorem twice_str (w : World) (v : Value) (xs : List ByteArray) (hn : xs.length ≤ 4194304) (h : StrsIn w v xs) (hcp : CapIn v) :
    Calls Try.prog 44 #[v] w fun e w' => BAns (¬ xs.Nodup) e ∧ w' = w := by
  have HT := h
  obtain ⟨a, cap, rfl, hc, h⟩ := h
  have hle := hcp.le
  have hA : Hid (∀ j (hj : j < xs.length), ∃ b off, a = some ⟨b, off, none⟩ ∧ w.cell? ⟨b, off + j, none⟩ = some (.string xs[j])) := by
    intro j hj
    rcases h with rfl | ⟨b, off, rfl, h1, h2⟩
    · simp at hj
    · exact ⟨b, off, rfl, h2 j hj⟩
  have HC := hidIt (fun k (hk : k ≤ xs.length) x => contains_str w (.slice a k cap) (xs.take k) x (by simp; omega) (HT.take k hk))
  clear h HT hcp
  go_enter Try.func44, Try.ntmps44
  go_wp2
  go_loop [7] (fun i => ∃ k : Nat, k ≤ xs.length ∧ i = .int .i64 k ∧ Hid ((xs.take k).Nodup)) (fun i => xs.length - (intOf i).toNat)
  case atStart => exact ⟨0, Nat.zero_le _, rfl, by show (xs.take 0).Nodup; simp⟩
  case round =>
    obtain ⟨k, hk, rfl, HS⟩ := hrel
    by_cases hlt : k < xs.length
    · have hlt' : (k : Int) < (xs.length : Int) := by omega
      have hkc : (k : Int) ≤ (cap : Int) := by omega
      obtain ⟨b, off, ha, hc⟩ := hA.out k hlt
      subst ha
      obtain ⟨y, hy⟩ : ∃ y, xs[k] = y := ⟨_, rfl⟩
      have HY := hidIt hy
      rw [hy] at hc
      clear hy
      go_wp2_with fail
      refine (HC.out k hk y).mono ?_
      rintro e w1 ⟨⟨b1, rfl, hb1⟩, rfl⟩
      cases b1
      · have HN := hidIt (show ¬ xs[k] ∈ xs.take k by rw [HY.out]; intro hm; have := hb1.out.2 hm; cases this)
        go_wp2
        go_round
        case rel => exact ⟨k + 1, by omega, by go_num, nodup_step k hlt HS.out HN.out⟩
        case measure => simp [intOf]; omega
      · have HN := hidIt (show xs[k] ∈ xs.take k by rw [HY.out]; exact hb1.out.1 rfl)
        go_wp2
        go_ret
        exact ⟨bans_yes (not_nodup_at k hlt HN.out), rfl⟩
    · have HN := hidIt (show xs.Nodup by have := HS.out; rwa [List.take_of_length_le (by omega)] at this)
      go_wp2
      go_ret
      exact ⟨bans_no (fun h => h HN.out), rfl⟩
set_option maxHeartbeats 1600000 in
set_option maxRecDepth 100000 in
theorem index_int (w : World) (v : Value) (xs : List Int) (x : Int) (hn : xs.length ≤ 4194304) (h : IntsIn w v xs) :
    Calls Try.prog 77 #[v, .int .i64 x] w fun e w' => (∃ z, e = .returned (.int .i64 z) ∧ Hid (IAt xs x z)) ∧ w' = w := by
  obtain ⟨⟨a, cap, rfl, h⟩, -⟩ := h
  have hA : Hid (∀ j (hj : j < xs.length), ∃ b off, a = some ⟨b, off, none⟩ ∧ w.cell? ⟨b, off + j, none⟩ = some (.int .i64 xs[j])) := by
    intro j hj
    rcases h with rfl | ⟨b, off, rfl, h1, h2⟩
    · simp at hj
    · exact ⟨b, off, rfl, h2 j hj⟩
  clear h
  go_enter Try.func77, Try.ntmps77
  go_wp2
  go_loop [8] (fun i => ∃ k : Nat, k ≤ xs.length ∧ i = .int .i64 k ∧ Hid (∀ i (hi : i < xs.length), i < k → xs[i] ≠ x)) (fun i => xs.length - (intOf i).toNat)
  case atStart => exact ⟨0, Nat.zero_le _, rfl, fun i _ h => absurd h (by omega)⟩
  case round =>
    obtain ⟨k, hk, rfl, HS⟩ := hrel
    by_cases hlt : k < xs.length
    · have hlt' : (k : Int) < (xs.length : Int) := by omega
      obtain ⟨b, off, ha, hc⟩ := hA.out k hlt
      subst ha
      obtain ⟨y, hy⟩ : ∃ y, xs[k] = y := ⟨_, rfl⟩
      have HY := hidIt hy
      rw [hy] at hc
      clear hy
      by_cases e : x = y
      · have d := (show (x == y) = true by simpa using e)
        have HE := hidIt e
        clear e
        go_wp2
        go_ret
        exact ⟨⟨k, rfl, .inr ⟨k, hlt, rfl, by rw [HY.out, HE.out], fun i hi => HS.out i (by omega) hi⟩⟩, rfl⟩
      · have d := (show (x == y) = false by simpa using e)
        have HE := hidIt e
        clear e
        go_wp2
        go_round
        case rel => exact ⟨k + 1, by omega, by go_num, fun i hi h => by
          by_cases ei : i = k
          · subst ei; rw [HY.out]; exact fun e => HE.out e.symm
          · exact HS.out i hi (by omega)⟩
        case measure => simp [intOf]; omega
    · go_wp2
      go_ret
      exact ⟨⟨-1, rfl, .inl ⟨rfl, fun hm => by
        obtain ⟨i, hi, e⟩ := List.getElem_of_mem hm
        exact HS.out i hi (by omega) e⟩⟩, rfl⟩
theorem contains_int (w : World) (v : Value) (xs : List Int) (x : Int) (hn : xs.length ≤ 4194304) (h : IntsIn w v xs) :
    Calls Try.prog 65 #[v, .int .i64 x] w fun e w' => BAns (x ∈ xs) e ∧ w' = w := by
  have HI := hidIt (index_int w v xs x hn h)
  clear h
  go_enter Try.func65, Try.ntmps65
  go_wp2_with fail
  refine HI.out.mono ?_
  rintro e w' ⟨⟨z, rfl, hz⟩, rfl⟩
  go_wp2
  go_ret
  exact ⟨⟨decide (0 ≤ z), rfl, by show _ ↔ _; rw [decide_eq_true_iff]; exact hz.out.nonneg⟩, rfl⟩
set_option maxHeartbeats 1600000 in
set_option maxRecDepth 100000 in
theorem twice_int (w : World) (v : Value) (xs : List Int) (hn : xs.length ≤ 4194304) (h : IntsIn w v xs) (hcp : CapIn v) :
    Calls Try.prog 45 #[v] w fun e w' => BAns (¬ xs.Nodup) e ∧ w' = w := by
  have HT := h
  obtain ⟨⟨a, cap, rfl, h⟩, -⟩ := h
  have hle := hcp.le
  have hA : Hid (∀ j (hj : j < xs.length), ∃ b off, a = some ⟨b, off, none⟩ ∧ w.cell? ⟨b, off + j, none⟩ = some (.int .i64 xs[j])) := by
    intro j hj
    rcases h with rfl | ⟨b, off, rfl, h1, h2⟩
    · simp at hj
    · exact ⟨b, off, rfl, h2 j hj⟩
  have HC := hidIt (fun k (hk : k ≤ xs.length) x => contains_int w (.slice a k cap) (xs.take k) x (by simp; omega) (HT.take k hk cap))
  clear h HT hcp
  go_enter Try.func45, Try.ntmps45
  go_wp2
  go_loop [7] (fun i => ∃ k : Nat, k ≤ xs.length ∧ i = .int .i64 k ∧ Hid ((xs.take k).Nodup)) (fun i => xs.length - (intOf i).toNat)
  case atStart => exact ⟨0, Nat.zero_le _, rfl, by show (xs.take 0).Nodup; simp⟩
  case round =>
    obtain ⟨k, hk, rfl, HS⟩ := hrel
    by_cases hlt : k < xs.length
    · have hlt' : (k : Int) < (xs.length : Int) := by omega
      have hkc : (k : Int) ≤ (cap : Int) := by omega
      obtain ⟨b, off, ha, hc⟩ := hA.out k hlt
      subst ha
      obtain ⟨y, hy⟩ : ∃ y, xs[k] = y := ⟨_, rfl⟩
      have HY := hidIt hy
      rw [hy] at hc
      clear hy
      go_wp2_with fail
      refine (HC.out k hk y).mono ?_
      rintro e w1 ⟨⟨b1, rfl, hb1⟩, rfl⟩
      cases b1
      · have HN := hidIt (show ¬ xs[k] ∈ xs.take k by rw [HY.out]; intro hm; have := hb1.out.2 hm; cases this)
        go_wp2
        go_round
        case rel => exact ⟨k + 1, by omega, by go_num, nodup_step k hlt HS.out HN.out⟩
        case measure => simp [intOf]; omega
      · have HN := hidIt (show xs[k] ∈ xs.take k by rw [HY.out]; exact hb1.out.1 rfl)
        go_wp2
        go_ret
        exact ⟨bans_yes (not_nodup_at k hlt HN.out), rfl⟩
    · have HN := hidIt (show xs.Nodup by have := HS.out; rwa [List.take_of_length_le (by omega)] at this)
      go_wp2
      go_ret
      exact ⟨bans_no (fun h => h HN.out), rfl⟩
theorem own_str_form {w : World} {base : Nat} {e : TypeId} {v : Value} {n : Nat} {xs : List Value} (h : w.ownsRow base e 1 v n xs) : ∃ a c, v = .slice a n c ∧ ∀ q, v.ownBlock = some q → base ≤ q := by
  rcases own_cells2 h with ⟨rfl, rfl, -⟩ | ⟨g, cap, rfl, h1, -⟩
  · exact ⟨none, 0, rfl, fun q hq => by simp [Value.ownBlock] at hq⟩
  · exact ⟨_, cap, rfl, fun q hq => by simp [Value.ownBlock] at hq; omega⟩
theorem own_set_other {w : World} {base : Nat} {e : TypeId} {size : Nat} {v : Value} {n : Nat} {xs : List Value} (h : w.ownsRow base e size v n xs) {p o : Nat} {x : Value} (hp : ∀ j, v.ownBlock = some j → j ≠ p) : (w.setCell ⟨p, o, none⟩ x).ownsRow base e size v n xs := by
  refine ⟨h.1, ?_⟩
  rcases h.2 with hn | ⟨g, cap, cur, rfl, hbg, hgg, rest⟩
  · exact .inl hn
  · exact .inr ⟨g, cap, cur, rfl, hbg, (Below.heap_setCell _ _ _ _ (by show g ≠ p; exact hp g rfl)).trans hgg, rest⟩
theorem add_kb {w w1 : World} {B p : Nat} {v x : Value} {T : TypeId} {y : Value} (hg : (w.alloc (.cells #[y] T)).grownBy w1 v.ownBlock) (hq : ∀ j, v.ownBlock = some j → B ≤ j) (hp : p < w.heap.size) : Kb B p w (w1.setCell ⟨p, 0, none⟩ x) := by
  have k0 : Kp [] w (w.alloc (.cells #[y] T)) := (Kp.refl _ _).alloc _
  have k1 : ∃ bs, (∀ k ∈ bs, B ≤ k) ∧ Kp bs (w.alloc (.cells #[y] T)) w1 := by
    cases hv : v.ownBlock with
    | none => rw [hv] at hg; exact ⟨[], by simp, ⟨hg.os, hg.tape, hg.output, hg.size, fun k hk _ => hg.block k hk (fun e => by cases e)⟩⟩
    | some q => rw [hv] at hg; exact ⟨[q], by simpa using hq q hv, Kp.of_grown hg⟩
  obtain ⟨bs, h1, h2⟩ := k1
  refine ⟨p :: bs, fun k hk => by rcases List.mem_cons.1 hk with e | hk; exact .inl e; exact .inr (h1 k hk), ?_⟩
  exact ((k0.more (fun _ h => by cases h)).trans (h2.more fun x hx => .inl (List.mem_cons_of_mem _ hx))).setCell (.inl (List.mem_cons_self ..))
theorem infoStr : (Try.prog.info? 9).map (fun i => (i.zero, i.size, i.bytes)) = some (some (.string ByteArray.empty), 1, 16) := by kernel_rfl
set_option maxHeartbeats 1600000 in
set_option maxRecDepth 100000 in
theorem add_str (w : World) (p B : Nat) (v : Value) (ks : List ByteArray) (k : ByteArray) (hp : p < B) (hB : B ≤ w.heap.size) (hc : w.cell? ⟨p, 0, none⟩ = some v) (hf : ∀ o, w.frozen? ⟨p, o, none⟩ = false) (ho : w.ownsRow B 9 1 v ks.length (strs ks)) (hn : ks.length ≤ 4194304) :
    Calls Try.prog 42 #[.pointer (some ⟨p, 0, none⟩), .string k] w fun e w' => e = .returned (.tuple #[]) ∧ ∃ v', w'.cell? ⟨p, 0, none⟩ = some v' ∧ (∀ o, w'.frozen? ⟨p, o, none⟩ = false) ∧ w'.ownsRow B 9 1 v' (ks ++ [k]).length (strs (ks ++ [k])) ∧ Kb B p w w' := by
  obtain ⟨i0, hi0, hz0, hz1, hz2⟩ := info_parts infoStr
  obtain ⟨a, c, hv, hq⟩ := own_str_form ho
  subst hv
  have hpw : p < w.heap.size := by omega
  go_enter Try.func42, Try.ntmps42
  go_wp2_with (at_builtin; refine wpList_append_own _ rfl _ _ 63 rfl B 9 i0 (.string ByteArray.empty) 1 16 Try.underlying63 hi0 hz0 hz1 hz2 rfl (by decide) _ _ _ rfl (ho.alloc _) ⟨w.heap.size, 0, none⟩ 1 1 [.string k] rfl rfl ?c1 ?c2 ?c3 ?c4 ?c5 ?_)
  case c1 => exact cell_one_new w (.string k) 9
  case c2 => intro u hu; simp at hu; subst hu; rfl
  case c3 => unfold maxLen; omega
  case c4 => omega
  case c5 => simp; omega
  intro v' w1 hown hgrow hwhere
  obtain ⟨a', c', hv', hq'⟩ := own_str_form hown
  subst hv'
  have HQ := hidIt hq
  have hk : ∀ j, (Value.slice a ks.length c).ownBlock = some j → j ≠ p := fun j hj => by have := hq j hj; omega
  have blk : w1.heap[p]? = w.heap[p]? := (hgrow.block p (by simp; omega) (fun e => hk p e.symm rfl)).trans (Below.heap_alloc _ _ _ hpw)
  have cp := (cells_of_block blk 0).trans hc
  have fp := fun o => (frozen_of_block blk o).trans (hf o)
  have fp0 := fp 0
  have HFP := hidIt fp
  have HG := hidIt hgrow
  have HO := hidIt hown
  have hs1 := hgrow.size
  have PB := hidIt (fun j (hj : (Value.slice a' (ks.length + 1) c').ownBlock = some j) => hq' j hj)
  clear fp hgrow hown hwhere hk hq hq'
  go_wp2
  go_end0
  refine ⟨rfl, .slice a' (ks.length + 1) c', World.cell?_setCell_same _ _ _ cp, fun o => by rw [World.frozen?_setCell]; exact HFP.out o, ?_, ?_⟩
  · rw [strs_app, List.length_append]
    exact own_set_other HO.out (fun j hj => by have := PB.out j hj; omega)
  · exact add_kb HG.out (fun j hj => HQ.out j hj) hpw

end Go.Proofs.Ytijmjpjclhgaoaa

namespace Go.Proofs.Ytijmjpjclhgaoaa
open Go.ChangeShapes Go.WideShapes Go.ChangeAt Go.RowKit
set_option linter.unusedVariables false

set_option maxRecDepth 100000 in
theorem grow_threes (n : Nat) (w : World) (hn : n ≤ 16777216) :
    Calls Try.prog 63 #[.slice none 0 0, .int .i64 n] w fun e w' => ∃ v', e = .returned v' ∧ w'.ownsRow w.heap.size 26 3 v' 0 [] ∧ Below w.heap.size w w' := by
  obtain ⟨i0, hi0, hz0, hz1, hz2⟩ := info_parts infoItem
  go_enter Try.func63, Try.ntmps63
  by_cases h0 : n = 0
  · subst h0
    go_wp2
    go_ret
    exact ⟨_, rfl, own_nil _ _ _ _, Below.refl _ _⟩
  · have hp : (0 : Int) < (n : Int) := by omega
    have hby : Try.t26.bytes = 40 := by kernel_rfl
    have hns : Builtin.nextslicecap n 0 = n := nextslicecap_zero (by omega)
    go_wp2
    obtain ⟨c, hc⟩ : ∃ c, (Question.appendCap n 0 26).cut (w.tape w.drawn (Question.appendCap n 0 26)) = c := ⟨_, rfl⟩
    have h1 : n ≤ c := by rw [← hc]; exact grownCap_ge w n 0 26
    have h2 : c ≤ maxLen := by rw [← hc]; exact grownCap_le_maxLen w n 0 26 (by unfold maxLen; omega)
    rw [hc]
    go_ret
    refine ⟨_, rfl, ?_, ?_⟩
    · have := World.ownsRow_made (base := w.heap.size) (e := 26) (size := 3) w (Builtin.zeroCells #[Value.string ByteArray.empty, Value.string ByteArray.empty, Value.int IntKind.i64 0] n ++ Builtin.zeroCells #[Value.string ByteArray.empty, Value.string ByteArray.empty, Value.int IntKind.i64 0] (c - n)) c (Nat.le_refl _) h2 (by simp [Builtin.zeroCells]; omega)
      exact own_below this (Below.refl _ _).drew
    · exact ((Below.refl _ _).alloc (Nat.le_refl _) _).drew
def sumLenT (LL : List (List It)) : Nat → Nat
  | 0 => 0
  | k + 1 => sumLenT LL k + (LL.getD k []).length
def catToT (LL : List (List It)) : Nat → List It
  | 0 => []
  | k + 1 => catToT LL k ++ LL.getD k []
theorem sumLenT_mono (LL : List (List It)) {a b : Nat} (h : a ≤ b) : sumLenT LL a ≤ sumLenT LL b := by
  induction b with
  | zero => obtain rfl : a = 0 := by omega
            exact Nat.le_refl _
  | succ b ih =>
    by_cases e : a = b + 1
    · subst e; exact Nat.le_refl _
    · exact Nat.le_trans (ih (by omega)) (Nat.le_add_right _ _)
theorem catToT_len (LL : List (List It)) (k : Nat) : (catToT LL k).length = sumLenT LL k := by
  induction k with
  | zero => rfl
  | succ k ih => show (catToT LL k ++ _).length = sumLenT LL k + _; rw [List.length_append, ih]
theorem getD_llT (LL : List (List It)) (j : Nat) (h : j < LL.length) : LL.getD j [] = LL[j] := by simp [List.getD, h]
set_option maxHeartbeats 1600000 in
set_option maxRecDepth 100000 in
theorem concat_items (q qo c : Nat) (ws : List Value) (LL : List (List It)) (w : World) (hl : ws.length = LL.length) (hn : LL.length ≤ 1024) (hs : sumLenT LL LL.length ≤ 16777216) (hq : q < w.heap.size)
    (hA : ∀ j (hj : j < ws.length), w.cell? ⟨q, qo + j, none⟩ = some ws[j]) (hI : ∀ j (hj : j < ws.length) (hj' : j < LL.length), ItemsIn w ws[j] LL[j]) :
    Calls Try.prog 41 #[.slice (some ⟨q, qo, none⟩) LL.length c] w fun e w' => ∃ v', e = .returned v' ∧ w'.ownsRow w.heap.size 26 3 v' (catToT LL LL.length).length (threes (catToT LL LL.length)) ∧ Below w.heap.size w w' := by
  obtain ⟨i0, hi0, hz0, hz1, hz2⟩ := info_parts infoItem
  have HA := hidIt (fun j (hj : j < LL.length) => (⟨ws[j]'(by omega), hA j (by omega), hI j (by omega) hj⟩ : ∃ v, w.cell? ⟨q, qo + j, none⟩ = some v ∧ ItemsIn w v LL[j]))
  have HM := hidIt (fun k (h : k ≤ LL.length) => Nat.le_trans (sumLenT_mono LL h) hs)
  clear hA hI hl hs
  go_enter Try.func41, Try.ntmps41
  go_wp2
  go_loopg [3, 11] LL.length (fun gk s3 si wr => ∃ k : Nat, k ≤ LL.length ∧ gk = LL.length - k ∧ si = .int .i64 k ∧ s3 = .int .i64 ((sumLenT LL k : Nat) : Int) ∧ wr = w)
  case atStart => exact ⟨0, Nat.zero_le _, rfl, rfl, rfl, rfl⟩
  case round =>
    obtain ⟨k, hk, hgk, rfl, rfl, hw⟩ := hrel
    have hw := hw.symm
    subst hw
    have HG := hidIt hgk
    clear hgk
    by_cases hlt : k < LL.length
    · have hlt' : (k : Int) < (LL.length : Int) := by omega
      obtain ⟨v, hv, hi⟩ := HA.out k hlt
      obtain ⟨va, vc, rfl, -⟩ := hi.form
      have HSS := hidIt (show sumLenT LL (k + 1) = sumLenT LL k + LL[k].length by show sumLenT LL k + (LL.getD k []).length = _; rw [getD_llT LL k hlt])
      have h1 := HM.out k hk
      have h2 := HM.out (k + 1) hlt
      rw [HSS.out] at h2
      generalize LL[k] = L at *
      clear hi
      generalize sumLenT LL k = z at *
      have h3 : (0 : Int) ≤ (z : Int) + (L.length : Int) := by omega
      have h4 : (z : Int) + (L.length : Int) ≤ 16777216 := by omega
      go_wp2
      go_roundg (LL.length - (k + 1))
      case measure => rw [HG.out]; omega
      case rel => exact ⟨k + 1, by omega, rfl, by go_num, by rw [HSS.out]; go_num, rfl⟩
    · have hke : k = LL.length := by omega
      have HKE := hidIt hke
      clear hke
      have h1 := HM.out k hk
      go_wp2_with fail
      refine (grow_threes (sumLenT LL k) _ h1).mono ?_
      rintro e w1 ⟨v1, rfl, o1, b1⟩
      obtain ⟨av, cv, hv⟩ := own_form o1
      subst hv
      clear HG h1
      go_wp2
      go_loopg [6, 27] LL.length (fun gk s6 si wr => ∃ k : Nat, k ≤ LL.length ∧ gk = LL.length - k ∧ si = .int .i64 k ∧ wr.ownsRow w.heap.size 26 3 s6 (catToT LL k).length (threes (catToT LL k)) ∧ Below w.heap.size w wr)
      case atStart => exact ⟨0, Nat.zero_le _, rfl, rfl, o1, b1⟩
      case round =>
        clear o1 b1
        rename World => wr
        obtain ⟨k, hk, hgk, rfl, hown, hbw⟩ := hrel
        have HG := hidIt hgk
        clear hgk
        have hlen := catToT_len LL k
        have h1 := HM.out k hk
        by_cases hlt : k < LL.length
        · have hlt' : (k : Int) < (LL.length : Int) := by omega
          obtain ⟨v, hv, hi⟩ := HA.out k hlt
          have hv2 := below_cell hbw hq hv
          have SI := hidIt (src_items (hi.below hbw))
          obtain ⟨va, vc, rfl, -⟩ := hi.form
          have HSS := hidIt (show catToT LL (k + 1) = catToT LL k ++ LL[k] by show catToT LL k ++ LL.getD k [] = _; rw [getD_llT LL k hlt])
          have h2 := HM.out (k + 1) hlt
          rw [← catToT_len, HSS.out, List.length_append] at h2
          clear hi hv
          generalize LL[k] = L at *
          rw [← hlen] at h1
          clear hlen
          generalize catToT LL k = Z at *
          obtain ⟨av, cv, hv⟩ := own_form hown
          subst hv
          have hz := hbw.size
          go_wp2_with (at_builtin; refine wpList_append_src _ rfl _ _ 35 rfl w.heap.size 26 i0 (.agg #[.string itemZero.k, .string itemZero.v, .int .i64 itemZero.f]) 3 40 Try.underlying35 hi0 hz0 hz1 hz2 rfl (by decide) _ _ _ rfl hown _ L.length (threes L) rfl SI.out (by unfold maxLen; omega) (by omega) hz ?_; intro v' w2 hown' hgrow _)
          have hb2 : Below w.heap.size w w2 := hbw.grown hgrow hz (fun q hq => (hown.lt q hq).1)
          clear hgrow hown
          go_wp2
          go_roundg (LL.length - (k + 1))
          case measure => rw [HG.out]; omega
          case rel => exact ⟨k + 1, by omega, rfl, by go_num, by rw [HSS.out, threes_app, List.length_append]; exact hown', hb2⟩
        · have hke : k = LL.length := by omega
          subst hke
          obtain ⟨av, cv, hv⟩ := own_form hown
          subst hv
          have HO := hidIt hown
          clear hown hlen h1
          go_wp2
          go_ret
          exact ⟨_, rfl, HO.out, hbw⟩

end Go.Proofs.Ytijmjpjclhgaoaa

namespace Go.Proofs.Ytijmjpjclhgaoaa
open Go.ChangeShapes Go.WideShapes Go.ChangeAt Go.RowKit
set_option linter.unusedVariables false

theorem impl_mostghosts (c m : Int) (w : World) (h1 : 1 ≤ c) (h2 : c ≤ 60) (h3 : 1 ≤ m) (h4 : m ≤ c) :
    Calls Try.prog 40 #[.int .i64 c, .int .i64 m] w fun e w' => e = .returned (.int .i64 (if c - m < 1 then 1 else c - m)) ∧ w' = w := by
  by_cases h : c - m < 1
  · rw [if_pos h]
    have hm : max (c - m) 1 = 1 := by omega
    go_enter Try.func40, Try.ntmps40
    go_wp2
    go_ret
    exact ⟨ret_ints (by omega), rfl⟩
  · rw [if_neg h]
    go_enter Try.func40, Try.ntmps40
    go_wp2
    go_ret
    exact ⟨ret_ints (by omega), rfl⟩
set_option maxHeartbeats 800000 in
set_option maxRecDepth 100000 in
theorem impl_threeok_no1 (w : World) (cap most : Int) (sa ma ga : Option Addr) (sl sc ml mc gl gc : Nat) (h : cap < 1 ∨ (1 ≤ cap ∧ 60 < cap) ∨ (1 ≤ cap ∧ cap ≤ 60 ∧ most < 1) ∨ (1 ≤ cap ∧ cap ≤ 60 ∧ 1 ≤ most ∧ cap < most)) :
    Calls Try.prog 16 #[.agg #[.int .i64 cap, .int .i64 most, .slice sa sl sc, .slice ma ml mc, .slice ga gl gc]] w fun e w' => e = .returned (.bool false) ∧ Below w.heap.size w w' := by
  rcases h with h | ⟨h1, h⟩ | ⟨h1, h2, h⟩ | ⟨h1, h2, h3, h⟩
  all_goals
    go_enter Try.func16, Try.ntmps16
    go_wp2
    go_ret
    exact ⟨rfl, (Below.refl _ _).alloc (Nat.le_refl _) _⟩
set_option maxHeartbeats 800000 in
set_option maxRecDepth 100000 in
theorem impl_threeok_no2 (w : World) (cap most : Int) (sa ma ga : Option Addr) (sl sc ml mc gl gc : Nat) (n1 : sl ≤ 1048576) (n2 : ml ≤ 1048576) (h1 : 1 ≤ cap) (h2 : cap ≤ 60) (h3 : 1 ≤ most) (h4 : most ≤ cap) (h : cap < (sl : Int) + (ml : Int)) :
    Calls Try.prog 16 #[.agg #[.int .i64 cap, .int .i64 most, .slice sa sl sc, .slice ma ml mc, .slice ga gl gc]] w fun e w' => e = .returned (.bool false) ∧ Below w.heap.size w w' := by
  have a1 : (0 : Int) ≤ (sl : Int) + (ml : Int) := by omega
  have a2 : (sl : Int) + (ml : Int) ≤ 4194304 := by omega
  go_enter Try.func16, Try.ntmps16
  go_wp2_with fail
  generalize hW : World.alloc w _ = W0
  have X := Bx.new w #[.int .i64 cap, .int .i64 most, .slice sa sl sc, .slice ma ml mc, .slice ga gl gc] 37
  have bW := hidIt (show Below w.heap.size w W0 by rw [← hW]; exact (Below.refl _ _).alloc (Nat.le_refl _) _)
  rw [hW] at X
  clear hW
  have x0 := X.2.1 0
  have x1 := X.2.1 1
  have x2 := X.2.1 2
  have x3 := X.2.1 3
  have x4 := X.2.1 4
  simp at x0 x1 x2 x3 x4
  clear X
  go_quiet (fail)
  go_wp2
  go_ret
  exact ⟨rfl, below_drewN bW.out _⟩

end Go.Proofs.Ytijmjpjclhgaoaa

namespace Go.Proofs.Ytijmjpjclhgaoaa
open Go.ChangeShapes Go.WideShapes Go.ChangeAt Go.RowKit
set_option linter.unusedVariables false

theorem catT2 (a b : List It) : catToT [a, b] 2 = a ++ b := rfl
theorem ghsNum.step {gh : List Int} {k : Nat} (h : ∀ i (hi : i < gh.length), i < k → numOk gh[i] = true) (hk : k < gh.length) (h1 : numOk gh[k] = true) : ∀ i (hi : i < gh.length), i < k + 1 → numOk gh[i] = true := fun i hi hik => by
  by_cases e : i = k
  · subst e; exact h1
  · exact h i hi (by omega)
theorem its_step {all : List It} {k : Nat} (h : ∀ i (hi : i < all.length), i < k → itB all[i] = true) (hk : k < all.length) (h1 : itB all[k] = true) : ∀ i (hi : i < all.length), i < k + 1 → itB all[i] = true := fun i hi hik => by
  by_cases e : i = k
  · subst e; exact h1
  · exact h i hi (by omega)
theorem keys_take (all : List It) (k : Nat) (hk : k < all.length) : (all.take (k + 1)).map It.k = (all.take k).map It.k ++ [all[k].k] := by
  rw [List.take_succ_eq_append_getElem hk, List.map_append, List.map_cons, List.map_nil]
structure KInvT (w2 : World) (p : Nat) (all : List It) (k : Nat) (wr : World) : Prop where
  row : ∃ v, wr.cell? ⟨p, 0, none⟩ = some v ∧ (∀ o, wr.frozen? ⟨p, o, none⟩ = false) ∧ wr.ownsRow w2.heap.size 9 1 v ((all.take k).map It.k).length (strs ((all.take k).map It.k))
  kb : Kb w2.heap.size p w2 wr
  ok : ∀ i (hi : i < all.length), i < k → itB all[i] = true
set_option maxHeartbeats 3200000 in
set_option maxRecDepth 100000 in
theorem impl_threeok_long (w : World) (cap most : Int) (sm mn : List It) (gh : List Int) (sa ma ga : Option Addr) (sc mc gc : Nat) (n1 : sm.length ≤ 1048576) (n2 : mn.length ≤ 1048576) (n3 : gh.length ≤ 1048576) (h : TrIn w (.slice sa sm.length sc) (.slice ma mn.length mc) (.slice ga gh.length gc) ⟨cap, most, sm, mn, gh⟩)
    (h1 : 1 ≤ cap) (h2 : cap ≤ 60) (h3 : 1 ≤ most) (h4 : most ≤ cap)
    (hl : (sm.length : Int) + (mn.length : Int) ≤ cap)
    (HP : Hid ((gh.length : Int) ≤ ghN ⟨cap, most, sm, mn, gh⟩ → (∀ c ∈ sm ++ mn, itB c = true) → ((sm ++ mn).map It.k).Nodup → (∀ x ∈ gh, numOk x = true) → gh.Nodup → TrOk ⟨cap, most, sm, mn, gh⟩)) :
    Calls Try.prog 16 #[.agg #[.int .i64 cap, .int .i64 most, .slice sa sm.length sc, .slice ma mn.length mc, .slice ga gh.length gc]] w fun e w' => OkAns (TrOk ⟨cap, most, sm, mn, gh⟩) w e w' := by
  have H := hidIt h
  clear h
  have HN := hidIt (fun (h : TrOk ⟨cap, most, sm, mn, gh⟩) => (⟨h.gl, h.ok, h.nd, h.gn, h.gd⟩ : (gh.length : Int) ≤ ghN ⟨cap, most, sm, mn, gh⟩ ∧ (∀ c ∈ sm ++ mn, itB c = true) ∧ ((sm ++ mn).map It.k).Nodup ∧ (∀ x ∈ gh, numOk x = true) ∧ gh.Nodup))
  generalize TrOk ⟨cap, most, sm, mn, gh⟩ = OK at HP HN ⊢
  have HM := hidIt (fun W => impl_mostghosts cap most W h1 h2 h3 h4)
  change Hid (∀ W, Calls _ _ _ W fun e w' => e = .returned (.int .i64 (ghN ⟨cap, most, sm, mn, gh⟩)) ∧ w' = W) at HM
  generalize ghN ⟨cap, most, sm, mn, gh⟩ = G at HM HP HN
  have a1 : (0 : Int) ≤ (sm.length : Int) + (mn.length : Int) := by omega
  have a2 : (sm.length : Int) + (mn.length : Int) ≤ 4194304 := by omega
  have hwr : IntKind.i64.wrap ((sm.length : Int) + (mn.length : Int)) = (sm.length : Int) + (mn.length : Int) := wrap_small _ a1 (by omega)
  have hd : decide (cap < (sm.length : Int) + (mn.length : Int)) = false := decide_eq_false (by omega)
  go_enter Try.func16, Try.ntmps16
  go_wp2_with fail
  generalize hW : World.alloc w _ = W0
  have X := Bx.new w #[.int .i64 cap, .int .i64 most, .slice sa sm.length sc, .slice ma mn.length mc, .slice ga gh.length gc] 37
  have bW := hidIt (show Below w.heap.size w W0 by rw [← hW]; exact (Below.refl _ _).alloc (Nat.le_refl _) _)
  have zW : W0.heap.size = w.heap.size + 1 := by rw [← hW]; simp
  rw [hW] at X
  clear hW
  have HX := hidIt X
  have x0 := X.2.1 0
  have x1 := X.2.1 1
  have x2 := X.2.1 2
  have x3 := X.2.1 3
  have x4 := X.2.1 4
  simp at x0 x1 x2 x3 x4
  clear X
  go_quiet (first | (go_at_call 40; with_reducible refine Calls.quiet_of_same (HM.out _)))
  have hB0 : Below W0.heap.size W0 (World.drewN W0 nq) := below_drewN (Below.refl _ _) nq
  have hz0 : (World.drewN W0 nq).heap.size = W0.heap.size := rfl
  generalize World.drewN W0 nq = wq at hB0 hz0 ⊢
  have y2 := below_cell hB0 HX.out.1 x2
  have y3 := below_cell hB0 HX.out.1 x3
  have y4 := below_cell hB0 HX.out.1 x4
  have BQ := hidIt (bl_two bW.out hB0)
  have XQ := hidIt (HX.out.below hB0)
  clear x0 x1 x2 x3 x4 hB0 HX
  by_cases hg : (gh.length : Int) ≤ G
  · have hgd : decide (G < (gh.length : Int)) = false := decide_eq_false (by omega)
    rw [hgd]
    have HG := hidIt hg
    have HY4 := hidIt y4
    clear hg hgd y4
    go_wp2_with fail
    generalize hW1 : World.alloc (World.alloc wq _) _ = w1
    have XA := bx2 wq #[.slice none 0 0] #[.slice sa sm.length sc, .slice ma mn.length mc] 63 35
    rw [hW1] at XA
    clear hW1
    obtain ⟨XP, XS, bA, zA⟩ := XA
    have zqq : wq.heap.size = w.heap.size + 1 := hz0.trans zW
    have BA := hidIt (bl_two BQ.out bA)
    have X1 := hidIt (XQ.out.below bA)
    rw [zqq] at XP XS zA
    clear bA XQ y2 y3
    refine (concat_items (w.heap.size + 1 + 1) 0 2 [.slice sa sm.length sc, .slice ma mn.length mc] [sm, mn] w1 rfl (by simp) (by show 0 + sm.length + mn.length ≤ 16777216; omega) XS.1 (fun j hj => by
      rw [Nat.zero_add, XS.2.1 j]
      match j, hj with
      | 0, _ => rfl
      | 1, _ => rfl) (fun j hj hj' => by
      match j, hj' with
      | 0, _ => exact H.out.sm.below BA.out
      | 1, _ => exact H.out.mn.below BA.out)).mono ?_
    rintro e w2 ⟨v2, rfl, o2, b2⟩
    change w2.ownsRow w1.heap.size _ 3 v2 (sm ++ mn).length (threes (sm ++ mn)) at o2
    have hn12 : (sm ++ mn).length ≤ 2097152 := by simp; omega
    obtain ⟨va, vc, hv⟩ := own_form o2
    subst hv
    have HA : Hid (∀ j (hj : j < (sm ++ mn).length), ∃ b off, va = some ⟨b, off, none⟩ ∧ w1.heap.size ≤ b ∧ b < w2.heap.size ∧ ItemAt w2 b (off + j * 3) (sm ++ mn)[j]) := by
      intro j hj
      obtain ⟨fp, o, -, hg, -⟩ := items_of_owns (w := w1) o2 (Nat.le_refl _) b2
      obtain ⟨a, c, hv, -, hr⟩ := o
      simp only [Value.slice.injEq] at hv
      obtain ⟨rfl, -, -⟩ := hv
      rcases hr with ⟨hr, -⟩ | ⟨g, rfl, hf, q1, q2, q3⟩
      · rw [hr] at hj; simp at hj
      · exact ⟨g, 0, rfl, hg g (by rw [hf]; exact List.mem_singleton.2 rfl), q1, by rw [Nat.zero_add]; exact q2 j hj⟩
    have z2 := b2.size
    have XP2 := hidIt (XP.below b2)
    have X2 := hidIt (X1.out.below b2)
    have B2 := hidIt (bl_two BA.out b2)
    clear XP X1 BA b2 o2 XS
    have HOK := hidIt (fun h j (hj : j < (sm ++ mn).length) => (HN.out h).2.1 _ (List.getElem_mem hj))
    have HND := hidIt (fun h => (HN.out h).2.2.1)
    have HGN := hidIt (fun h => (HN.out h).2.2.2)
    have HP1 := hidIt (HP.out HG.out)
    clear HN HP HG
    generalize sm ++ mn = all at *
    go_wp2_with fail
    go_loopw [56] (fun i wr => ∃ k : Nat, k ≤ all.length ∧ i = .int .i64 k ∧ Hid (KInvT w2 (w.heap.size + 1) all k wr)) (fun i _ => all.length - (intOf i).toNat)
    case atStart =>
      refine ⟨0, Nat.zero_le _, rfl, ⟨.slice none 0 0, ?_, XP2.out.2.2, ?_⟩, Kb.refl _ _ _, fun i _ h => absurd h (by omega)⟩
      · have := XP2.out.2.1 0; simpa using this
      · exact own_nil _ _ _ _
    case round =>
      rename World => wr
      obtain ⟨k, hk, rfl, HS⟩ := hrel
      have hzr := HS.out.kb.size
      by_cases hlt : k < all.length
      · have hlt' : (k : Int) < (all.length : Int) := by omega
        obtain ⟨b, off, ha, hb1, hb2, hat⟩ := HA.out k hlt
        subst ha
        obtain ⟨r0, r1, r2⟩ := hat.of (cells_of_block (HS.out.kb.block hb2 hb2 (by omega)))
        obtain ⟨y, hy⟩ : ∃ y, all[k] = y := ⟨_, rfl⟩
        have HY := hidIt hy
        rw [hy] at r0 r1 r2
        clear hy hat
        go_wp2_with fail
        refine (impl_itemok y _).mono ?_
        rintro e w3 ⟨rfl, b3⟩
        have z3 := b3.size
        simp at z3
        have Y := hidIt ((Bx.new wr #[.string y.k, .string y.v, .int .i64 y.f] 26).below b3)
        have B3 := hidIt (below_step ((Below.refl wr.heap.size wr).alloc (Nat.le_refl _) (.cells #[.string y.k, .string y.v, .int .i64 y.f] 26)) (b3.mono (by simp)))
        clear b3 r0 r1 r2
        by_cases hb : itB y = true
        · rw [hb]
          have y0 := Y.out.2.1 0
          simp at y0
          obtain ⟨v, q1, q2, q3⟩ := HS.out.row
          have q1' := below_cell B3.out (by omega) q1
          have Q := hidIt (And.intro q2 q3)
          clear q1 q2 q3
          go_wp2_with fail
          clear y0
          refine (add_str w3 (w.heap.size + 1) w2.heap.size v ((all.take k).map It.k) y.k (by omega) (by omega) q1' (fun o => below_frozen B3.out (by omega) (Q.out.1 o)) (own_below Q.out.2 B3.out) (by simp; omega)).mono ?_
          rintro e w4 ⟨rfl, v', u1, u2, u3, u4⟩
          have U := hidIt (And.intro u1 (And.intro u2 (And.intro u3 u4)))
          clear u1 u2 u3 u4
          go_wp2
          go_roundw
          case rel => exact ⟨k + 1, by omega, by go_num, ⟨v', U.out.1, U.out.2.1, by rw [keys_take all k hlt, HY.out]; exact U.out.2.2.1⟩, (HS.out.kb.below B3.out).trans U.out.2.2.2, its_step HS.out.ok hlt (by rw [HY.out]; exact hb)⟩
          case measure => simp [intOf]; omega
        · have hb' : itB y = false := by simpa using hb
          rw [hb']
          go_wp2
          go_ret
          exact no_ans (fun h => hb (by rw [← HY.out]; exact HOK.out h k hlt)) (Kb.toBelow B2.out (HS.out.kb.below B3.out) (by omega) (by omega))
      · have HE : Hid ((∀ c ∈ all, itB c = true) ∧ (all.take k).map It.k = all.map It.k) := by
          have e : k = all.length := by omega
          refine ⟨fun c hc => ?_, by rw [e, List.take_length]⟩
          obtain ⟨i, hi, rfl⟩ := List.getElem_of_mem hc
          exact HS.out.ok i hi (by omega)
        obtain ⟨v, q1, q2, q3⟩ := HS.out.row
        rw [HE.out.2] at q3
        obtain ⟨av, cv, hv, -⟩ := own_str_form q3
        subst hv
        have hcv : CapIn (.slice av (List.map It.k all).length cv) := by
          rcases own_cells2 q3 with ⟨e, e2, -⟩ | ⟨g, cap', e, e1, e2, e3, -⟩
          · exact ⟨_, _, _, e, Nat.le_refl _⟩
          · exact ⟨_, _, _, e, e3⟩
        have TK := hidIt (twice_str wr _ (all.map It.k) (by simp; omega) (strs_of_owns q3) hcv)
        have BR := hidIt (Kb.toBelow B2.out HS.out.kb (by omega) (by omega))
        have XR := hidIt (X2.out.block HS.out.kb.size (HS.out.kb.block X2.out.1 (by omega) (by omega)))
        have HI := hidIt (H.out.gh.below BR.out)
        have hgcp := H.out.cp
        have TG := hidIt (twice_int wr _ gh (by omega) HI.out hgcp)
        have x4 := XR.out.2.1 4
        simp at x4
        rw [List.length_map] at q1 TK
        clear q2 q3 hcv HS hgcp
        have hnk : ((all.length : Nat) : Int) ≤ 2097152 := by omega
        have HG2 : Hid (∀ j (hj : j < gh.length), ∃ b off, ga = some ⟨b, off, none⟩ ∧ wr.cell? ⟨b, off + j, none⟩ = some (.int .i64 gh[j])) := by
          intro j hj
          obtain ⟨⟨a', c', hv, hr⟩, -⟩ := HI.out
          simp only [Value.slice.injEq] at hv
          obtain ⟨rfl, -, -⟩ := hv
          rcases hr with hr | ⟨b, off, rfl, g1, g2⟩
          · have hr' : gh = [] := hr
            rw [hr'] at hj; simp at hj
          · exact ⟨b, off, rfl, g2 j hj⟩
        go_wp2_with fail
        go_loop [70] (fun i => ∃ k : Nat, k ≤ gh.length ∧ i = .int .i64 k ∧ Hid (∀ i (hi : i < gh.length), i < k → numOk gh[i] = true)) (fun i => gh.length - (intOf i).toNat)
        case atStart => exact ⟨0, Nat.zero_le _, rfl, fun i _ h => absurd h (by omega)⟩
        case round =>
          obtain ⟨k, hk, rfl, HS⟩ := hrel
          by_cases hlt : k < gh.length
          · have hlt' : (k : Int) < (gh.length : Int) := by omega
            obtain ⟨b, off, ha, hcell⟩ := HG2.out k hlt
            subst ha
            obtain ⟨x, hx⟩ : ∃ x, gh[k] = x := ⟨_, rfl⟩
            have HX := hidIt hx
            rw [hx] at hcell
            clear hx
            have HQ := hidIt (fun W => impl_isnum x W)
            change Hid (∀ W, Calls _ _ _ W fun e w' => e = .returned (.bool (numOk x)) ∧ w' = W) at HQ
            by_cases hb : numOk x = true
            · rw [hb] at HQ
              go_wp2_with fail
              refine (HQ.out _).mono ?_
              rintro e w5 ⟨rfl, rfl⟩
              go_wp2
              go_round
              case rel => exact ⟨k + 1, by omega, by go_num, ghsNum.step HS.out hlt (by rw [HX.out]; exact hb)⟩
              case measure => simp [intOf]; omega
            · have hb' : numOk x = false := by simpa using hb
              rw [hb'] at HQ
              go_wp2_with fail
              refine (HQ.out _).mono ?_
              rintro e w5 ⟨rfl, rfl⟩
              go_wp2
              go_ret
              exact no_ans (fun h => hb (by rw [← HX.out]; exact (HGN.out h).1 _ (List.getElem_mem hlt))) BR.out
          · have HE2 : Hid (∀ x ∈ gh, numOk x = true) := by
              intro x hx
              obtain ⟨i, hi, rfl⟩ := List.getElem_of_mem hx
              exact HS.out i hi (by omega)
            clear HS
            go_wp2_with fail
            refine TK.out.mono ?_
            rintro e w5 ⟨⟨b1, rfl, hb1⟩, rfl⟩
            cases b1
            · have HN1 := hidIt (show (all.map It.k).Nodup from Classical.byContradiction fun h => by have := hb1.out.2 h; cases this)
              go_wp2_with fail
              refine TG.out.mono ?_
              rintro e w6 ⟨⟨b2, rfl, hb2⟩, rfl⟩
              cases b2
              · have HN2 := hidIt (show gh.Nodup from Classical.byContradiction fun h => by have := hb2.out.2 h; cases this)
                go_wp2
                go_ret
                exact yes_ans (HP1.out HE.out.1 HN1.out HE2.out HN2.out) BR.out
              · have HN2 := hidIt (hb2.out.1 rfl)
                go_wp2
                go_ret
                exact no_ans (fun h => HN2.out (HGN.out h).2) BR.out
            · have HN1 := hidIt (hb1.out.1 rfl)
              go_wp2
              go_ret
              exact no_ans (fun h => HN1.out (HND.out h)) BR.out
  · have hgd : decide (G < (gh.length : Int)) = true := decide_eq_true (by omega)
    rw [hgd]
    have HG := hidIt hg
    clear hg
    go_wp2
    go_ret
    exact no_ans (fun h => by have := (HN.out h).1; have := HG.out; omega) BQ.out
theorem impl_threeok (w : World) (s m g : Value) (T : Tr) (hf : TrFit T) (h : TrIn w s m g T) :
    Calls Try.prog 16 #[.agg #[.int .i64 T.cap, .int .i64 T.most, s, m, g]] w fun e w' => OkAns (TrOk T) w e w' := by
  obtain ⟨n1, n2, n3, -⟩ := hf.lens
  obtain ⟨sa, sc, ma, mc, ga, gc, rfl, rfl, rfl⟩ := h.form
  by_cases hn : T.cap < 1 ∨ (1 ≤ T.cap ∧ 60 < T.cap) ∨ (1 ≤ T.cap ∧ T.cap ≤ 60 ∧ T.most < 1) ∨ (1 ≤ T.cap ∧ T.cap ≤ 60 ∧ 1 ≤ T.most ∧ T.cap < T.most)
  · refine (impl_threeok_no1 w _ _ sa ma ga _ sc _ mc _ gc hn).mono ?_
    rintro e w' ⟨rfl, b⟩
    exact no_ans (fun k => by have := k.c1; have := k.c2; have := k.m1; have := k.m2; omega) b
  · have h1 : 1 ≤ T.cap := by omega
    have h2 : T.cap ≤ 60 := by omega
    have h3 : 1 ≤ T.most := by omega
    have h4 : T.most ≤ T.cap := by omega
    by_cases hl : T.cap < (T.sm.length : Int) + (T.mn.length : Int)
    · refine (impl_threeok_no2 w _ _ sa ma ga _ sc _ mc _ gc n1 n2 h1 h2 h3 h4 hl).mono ?_
      rintro e w' ⟨rfl, b⟩
      exact no_ans (fun k => by have := k.len; push_cast at this; omega) b
    · obtain ⟨cap, most, sm, mn, gh⟩ := T
      exact impl_threeok_long w cap most sm mn gh sa ma ga sc mc gc n1 n2 n3 h h1 h2 h3 h4 (by dsimp only at hl; omega) (fun k1 k2 k3 k4 k5 => ⟨h1, h2, h3, h4, by push_cast; dsimp only at hl ⊢; omega, k1, k2, k3, k4, k5⟩)

end Go.Proofs.Ytijmjpjclhgaoaa
