/- Contracts of functions of the program and of its model, and plain lemmas: several texts in one. -/
import Derived.Test.YtijmjpjclhgaoaaRows
import Derived.WalkKit
import Derived.ProofKit
import Derived.OpenShut
import Derived.ShutString
import Derived.Test.YtijmjpjclhgaoaaRtA
import Derived.Laws.RangeString
import Derived.Laws.RangeAny
import Derived.Lib.IndexAny
import Derived.Shelf.Small.Utf8
import Derived.Shelf.Small.Strs
import Derived.Shelf.Strings.Search1
import Derived.Shelf.Strings.Runes
import Derived.Shelf.Strings.IndexAny
import Derived.Shelf.Strings.AsciiSet
import Derived.Shelf.Strings.IndexAnyAll
import Derived.Ground.Names2Prog
import Derived.Shelf.Slices.Clone
import Derived.Test.YtijmjpjclhgaoaaProg
import Derived.Laws.Runes
import Derived.Deep.AppendSrc
import Derived.Deep.Upon
import Derived.Deep.AppendLies
import Derived.Laws.OwnMore
import Derived.Deep.RegionHeld3
import Derived.Deep.LoopGhost
import Derived.Deep.DeepCutAuto

namespace Go.Proofs.Ytijmjpjclhgaoaa
open Go.ChangeShapes Go.WideShapes Go.ChangeAt Go.RowKit
set_option linter.unusedVariables false

def isDig (b : UInt8) : Bool := decide (48 ≤ b.toNat ∧ b.toNat ≤ 57)
def val (l : List UInt8) : Nat := l.foldl (fun n b => n * 10 + (b.toNat - 48)) 0
def tnB (l : List UInt8) : Bool := decide (l ≠ []) && l.all isDig && (decide (l = [48]) || decide (l.head? ≠ some 48)) && decide (val l ≤ 4294967295)
def tnV (l : List UInt8) : Int := if tnB l then ((val l : Nat) : Int) else 0
theorem val_snoc (l : List UInt8) (b : UInt8) : val (l ++ [b]) = val l * 10 + (b.toNat - 48) := by
  unfold val; rw [List.foldl_append]; rfl
theorem take_snoc (s : ByteArray) (k : Nat) (h : k < s.size) : s.data.toList.take (k + 1) = s.data.toList.take k ++ [s[k]] := by
  rw [List.take_succ_eq_append_getElem (by simpa using h)]; rfl
theorem all_snoc (l : List UInt8) (b : UInt8) : (l ++ [b]).all isDig = (l.all isDig && isDig b) := by simp
theorem isDig_bd (b : UInt8) (h : isDig b = true) : 48 ≤ b.toNat ∧ b.toNat ≤ 57 := by simpa [isDig] using h
theorem snocRec {P : List UInt8 → Prop} (h0 : P []) (h1 : ∀ l b, P l → P (l ++ [b])) (l : List UInt8) : P l := by
  have : ∀ n, ∀ l : List UInt8, l.length = n → P l := by
    intro n
    induction n with
    | zero => intro l h; rw [List.length_eq_zero_iff.1 h]; exact h0
    | succ n ih =>
      intro l h
      have hne : l ≠ [] := by intro e; subst e; simp at h
      rw [← List.dropLast_concat_getLast hne]
      exact h1 _ _ (ih _ (by simp [h]))
  exact this _ l rfl
theorem val_lt (l : List UInt8) (h : l.all isDig = true) : val l < 10 ^ l.length := by
  revert h
  refine snocRec (P := fun l => l.all isDig = true → val l < 10 ^ l.length) ?_ ?_ l
  · intro _; simp [val]
  · intro l b ih h
    rw [all_snoc, Bool.and_eq_true] at h
    have h1 := ih h.1
    have h2 := isDig_bd b h.2
    rw [val_snoc, List.length_append, List.length_singleton, Nat.pow_succ]
    omega
theorem val_pos (l : List UInt8) (h : l.all isDig = true) (hne : l ≠ []) (hh : l.head? ≠ some 48) : 1 ≤ val l := by
  revert h hne hh
  refine snocRec (P := fun l => l.all isDig = true → l ≠ [] → l.head? ≠ some 48 → 1 ≤ val l) ?_ ?_ l
  · intro _ h; exact absurd rfl h
  · intro l b ih h _ hh
    rw [all_snoc, Bool.and_eq_true] at h
    rw [val_snoc]
    have h2 := isDig_bd b h.2
    cases l with
    | nil =>
      have : b ≠ 48 := by intro e; subst e; exact hh rfl
      have : b.toNat ≠ 48 := fun e => this (UInt8.toNat_inj.1 (by rw [e]; rfl))
      omega
    | cons a l =>
      have := ih h.1 (by simp) (by simpa using hh)
      omega
theorem digB_of (b : UInt8) (h : isDig b = true) : digB (b.toNat - 48) = b := by
  have h2 := isDig_bd b h
  unfold digB
  rw [show 48 + (b.toNat - 48) = b.toNat by omega]
  simp
theorem dec_val (l : List UInt8) (h : l.all isDig = true) (hne : l ≠ []) (hh : l = [48] ∨ l.head? ≠ some 48) : Lib.decDigits (val l) = l := by
  revert h hne hh
  refine snocRec (P := fun l => l.all isDig = true → l ≠ [] → (l = [48] ∨ l.head? ≠ some 48) → Lib.decDigits (val l) = l) ?_ ?_ l
  · intro _ h; exact absurd rfl h
  · intro l b ih h _ hh
    rw [all_snoc, Bool.and_eq_true] at h
    rw [val_snoc]
    have h2 := isDig_bd b h.2
    cases l with
    | nil =>
      have e : val [] * 10 + (b.toNat - 48) = b.toNat - 48 := by simp [val]
      rw [e, dec_small _ (by omega), digB_of b h.2]; rfl
    | cons a l =>
      have hh' : (a :: l).head? ≠ some 48 := by
        rcases hh with hh | hh
        · simp at hh
        · simpa using hh
      have hp := val_pos (a :: l) h.1 (by simp) hh'
      rw [dec_step _ (by omega)]
      have e1 : (val (a :: l) * 10 + (b.toNat - 48)) / 10 = val (a :: l) := by omega
      have e2 : (val (a :: l) * 10 + (b.toNat - 48)) % 10 = b.toNat - 48 := by omega
      rw [e1, e2, ih h.1 (by simp) (Or.inr hh'), digB_of b h.2]
theorem dec_ne (n : Nat) : Lib.decDigits n ≠ [] := by
  by_cases h : n < 10
  · rw [dec_small n h]; simp
  · rw [dec_step n h]; simp
theorem dec_head (n : Nat) (h1 : 1 ≤ n) : (Lib.decDigits n).head? ≠ some 48 := by
  induction n using Nat.strongRecOn with
  | ind n ih =>
    by_cases h : n < 10
    · rw [dec_small n h]
      intro e
      have e2 : digB n = 48 := by simpa using e
      have e3 : (digB n).toNat = 48 := by rw [e2]; rfl
      unfold digB at e3
      simp at e3
      omega
    · rw [dec_step n h]
      have := ih (n / 10) (by omega) (by omega)
      have hne := dec_ne (n / 10)
      cases hx : Lib.decDigits (n / 10) with
      | nil => exact absurd hx hne
      | cons a l => rw [hx] at this; simpa using this
theorem dec_len_le (k n : Nat) (hk : 1 ≤ k) (h : n < 10 ^ k) : (Lib.decDigits n).length ≤ k := by
  induction k generalizing n with
  | zero => omega
  | succ k ih =>
    by_cases h10 : n < 10
    · rw [dec_small n h10]; simp
    · rw [dec_step n h10, List.length_append, List.length_singleton]
      have hk1 : 1 ≤ k := by
        cases k with
        | zero => simp at h; omega
        | succ k => omega
      have := ih (n / 10) hk1 (by rw [Nat.pow_succ] at h; omega)
      omega
theorem val_mono (l r : List UInt8) : val l ≤ val (l ++ r) := by
  refine snocRec (P := fun r => val l ≤ val (l ++ r)) ?_ ?_ r
  · simp
  · intro r b ih
    rw [← List.append_assoc, val_snoc]; omega
theorem tn_true (l : List UInt8) (h : tnB l = true) : l ≠ [] ∧ l.all isDig = true ∧ (l = [48] ∨ l.head? ≠ some 48) ∧ val l ≤ 4294967295 := by
  unfold tnB at h
  simp only [Bool.and_eq_true, Bool.or_eq_true, decide_eq_true_eq] at h
  exact ⟨h.1.1.1, h.1.1.2, h.1.2, h.2⟩
theorem tn_mk (l : List UInt8) (h1 : l ≠ []) (h2 : l.all isDig = true) (h3 : l = [48] ∨ l.head? ≠ some 48) (h4 : val l ≤ 4294967295) : tnB l = true ∧ tnV l = ((val l : Nat) : Int) := by
  have e : tnB l = true := by
    unfold tnB
    simp only [Bool.and_eq_true, Bool.or_eq_true, decide_eq_true_eq]
    exact ⟨⟨⟨h1, h2⟩, h3⟩, h4⟩
  exact ⟨e, by unfold tnV; rw [if_pos e]⟩
theorem tn_no (l : List UInt8) (h : ¬ (l ≠ [] ∧ l.all isDig = true ∧ (l = [48] ∨ l.head? ≠ some 48) ∧ val l ≤ 4294967295)) : tnB l = false ∧ tnV l = 0 := by
  have e : tnB l = false := by
    cases hb : tnB l with
    | false => rfl
    | true => exact absurd (tn_true l hb) h
  exact ⟨e, by unfold tnV; rw [e]; rfl⟩
theorem tn_yes (l : List UInt8) (h1 : l ≠ []) (h2 : l.all isDig = true) (h4 : val l ≤ 4294967295) (h5 : Lib.decDigits (val l) = l) : tnB l = true ∧ tnV l = ((val l : Nat) : Int) := by
  refine tn_mk l h1 h2 ?_ h4
  by_cases h0 : val l = 0
  · left; rw [← h5, h0, dec_small 0 (by omega)]; rfl
  · right; rw [← h5]; exact dec_head _ (by omega)
theorem tn_no_dec (l : List UInt8) (h5 : ¬ Lib.decDigits (val l) = l) : tnB l = false ∧ tnV l = 0 :=
  tn_no l (fun h => h5 (dec_val l h.2.1 h.1 h.2.2.1))
theorem tn_no_big (l : List UInt8) (h : 4294967295 < val l) : tnB l = false ∧ tnV l = 0 := tn_no l (fun k => by have := k.2.2.2; omega)
theorem tn_no_long (l : List UInt8) (h : 10 < l.length) : tnB l = false ∧ tnV l = 0 :=
  tn_no l (fun k => by
    have e := dec_val l k.2.1 k.1 k.2.2.1
    have := dec_len_le 10 (val l) (by omega) (by have := k.2.2.2; omega)
    rw [e] at this; omega)
theorem tn_no_dig (l : List UInt8) (j : Nat) (h : j < l.length) (hj : isDig l[j] = false) : tnB l = false ∧ tnV l = 0 :=
  tn_no l (fun k => by
    have := List.all_eq_true.1 k.2.1 l[j] (List.getElem_mem h)
    rw [hj] at this; exact absurd this (by decide))
theorem tn_no_zero (l : List UInt8) (h1 : l.head? = some 48) (h2 : l ≠ [48]) : tnB l = false ∧ tnV l = 0 :=
  tn_no l (fun k => by rcases k.2.2.1 with h | h; exact h2 h; exact h h1)
theorem len_eq (s : ByteArray) : s.data.toList.length = s.size := by rw [Array.length_toList]; rfl

end Go.Proofs.Ytijmjpjclhgaoaa

namespace Go.Proofs.Ytijmjpjclhgaoaa
open Go.ChangeShapes Go.WideShapes Go.ChangeAt Go.RowKit
set_option linter.unusedVariables false

def clean1 (b : UInt8) : Bool := b != 32 && b != 10
def clB (s : ByteArray) : Bool := s.data.toList.all clean1
theorem clean1_of (b : UInt8) (h1 : b.toNat ≠ 32) (h2 : b.toNat ≠ 10) : clean1 b = true := by
  unfold clean1
  have e1 : b ≠ 32 := fun e => h1 (by rw [e]; rfl)
  have e2 : b ≠ 10 := fun e => h2 (by rw [e]; rfl)
  simp [e1, e2]
theorem clean1_32 (b : UInt8) (h : b.toNat = 32) : clean1 b = false := by
  obtain rfl : b = 32 := UInt8.toNat_inj.1 (by rw [h]; rfl)
  rfl
theorem clean1_10 (b : UInt8) (h : b.toNat = 10) : clean1 b = false := by
  obtain rfl : b = 10 := UInt8.toNat_inj.1 (by rw [h]; rfl)
  rfl
theorem clB_no (s : ByteArray) (k : Nat) (hk : k < s.size) (h : clean1 s[k] = false) : clB s = false := by
  unfold clB
  rw [List.all_eq_false]
  refine ⟨s[k], ?_, by simp [h]⟩
  have : s.data.toList[k]'(by rw [len_eq]; exact hk) = s[k] := rfl
  rw [← this]
  exact List.getElem_mem _
theorem clB_step (s : ByteArray) (k : Nat) (hk : k < s.size) (h : (s.data.toList.take k).all clean1 = true) (hc : clean1 s[k] = true) : (s.data.toList.take (k + 1)).all clean1 = true := by
  rw [take_snoc s k hk, List.all_append, h]
  simp [hc]
theorem clB_end (s : ByteArray) (k : Nat) (hk : s.size ≤ k) (h : (s.data.toList.take k).all clean1 = true) : clB s = true := by
  rw [List.take_of_length_le (by rw [len_eq]; exact hk)] at h
  exact h
theorem decode_span (s : ByteArray) (pos : Nat) (h : pos < s.size) (ha : 128 ≤ (s[pos]'h).toNat) (j : Nat) (h1 : pos ≤ j) (h2 : j < pos + (Utf8.decode s pos).2) : ∃ hj : j < s.size, 128 ≤ (s[j]'hj).toNat := by
  have key : ∀ k, k < (Utf8.decode s pos).2 → k = 0 ∨ (pos + k < s.size ∧ (s.get! (pos + k)).toNat / 64 = 2) := by
    intro k
    simp only [Utf8.decode]
    repeat' split
    all_goals (simp only [Bool.and_eq_true, decide_eq_true_eq, beq_iff_eq] at *)
    all_goals intro hk
    all_goals (match k, hk with
      | 0, _ => exact .inl rfl
      | 1, _ => first | (exfalso; omega) | exact .inr ⟨by omega, by omega⟩
      | 2, _ => first | (exfalso; omega) | exact .inr ⟨by omega, by omega⟩
      | 3, _ => first | (exfalso; omega) | exact .inr ⟨by omega, by omega⟩
      | k + 4, _ => exfalso; omega)
  rcases key (j - pos) (by omega) with e | ⟨e1, e2⟩
  · obtain rfl : j = pos := by omega
    exact ⟨h, ha⟩
  · have ej : pos + (j - pos) = j := by omega
    rw [ej] at e1 e2
    refine ⟨e1, ?_⟩
    have eg : s.get! j = s[j]'e1 := by simp [ByteArray.get!, getElem!_pos, e1]; rfl
    rw [eg] at e2
    omega
theorem clB_span (s : ByteArray) (pos : Nat) (h : pos < s.size) (ha : 128 ≤ (s[pos]'h).toNat) (hc : (s.data.toList.take pos).all clean1 = true) : ∀ n, n ≤ (Utf8.decode s pos).2 → (s.data.toList.take (pos + n)).all clean1 = true ∧ pos + n ≤ s.size := by
  intro n
  induction n with
  | zero => intro _; exact ⟨hc, by omega⟩
  | succ n ih =>
    intro hn
    obtain ⟨i1, i2⟩ := ih (by omega)
    obtain ⟨hj, hb⟩ := decode_span s pos h ha (pos + n) (by omega) (by omega)
    exact ⟨clB_step s (pos + n) hj i1 (clean1_of _ (by omega) (by omega)), by omega⟩
theorem enc_forms (r : Int) (h1 : 128 ≤ r) : (∃ a b : UInt8, Utf8.encode r = ⟨#[a, b]⟩ ∧ 128 ≤ b.toNat) ∨ (∃ a b c : UInt8, Utf8.encode r = ⟨#[a, b, c]⟩) ∨ ∃ a b c d : UInt8, Utf8.encode r = ⟨#[a, b, c, d]⟩ := by
  have hv : ∃ c, c = (if Utf8.valid r then r.toNat else Utf8.runeError) ∧ 128 ≤ c := by
    refine ⟨_, rfl, ?_⟩
    split
    · omega
    · decide
  obtain ⟨c, hc, hv⟩ := hv
  unfold Utf8.encode
  dsimp only
  rw [← hc]
  have n1 : ¬ c < 128 := by omega
  rw [if_neg n1]
  by_cases c2 : c < 2048
  · rw [if_pos c2]
    refine .inl ⟨_, _, rfl, ?_⟩
    show 128 ≤ (UInt8.ofNat (128 + c % 64)).toNat
    rw [UInt8.toNat_ofNat_of_lt' (by show _ < 256; omega)]
    omega
  · rw [if_neg c2]
    by_cases c3 : c < 65536
    · rw [if_pos c3]
      exact .inr (.inl ⟨_, _, _, rfl⟩)
    · rw [if_neg c3]
      exact .inr (.inr ⟨_, _, _, _, rfl⟩)
theorem cont_white (s : ByteArray) : Lib.containsAny s.data.toList [32, 10] = !clB s := by
  unfold Lib.containsAny clB
  generalize s.data.toList = l
  induction l with
  | nil => rfl
  | cons b l ih =>
    rw [Lib.indexAny, List.all_cons]
    have hc : ([32, 10] : List UInt8).contains b = !clean1 b := by
      unfold clean1
      by_cases e1 : b = 32
      · subst e1; rfl
      · by_cases e2 : b = 10
        · subst e2; rfl
        · simp [e1, e2]
    rw [hc]
    have hg := Lib.indexAny_ge [32, 10] l
    cases clean1 b
    · simp
    · simp only [Bool.not_true, Bool.false_eq_true, if_false, Bool.true_and]
      rw [← ih]
      by_cases e : Lib.indexAny l [32, 10] = -1
      · simp [e]
      · have : (Lib.indexAny l [32, 10] == -1) = false := by simpa using e
        rw [this]
        simp only [Bool.false_eq_true, if_false]
        have a1 : (0 : Int) ≤ Lib.indexAny l [32, 10] := by omega
        simp [a1]
        omega

end Go.Proofs.Ytijmjpjclhgaoaa

namespace Go.Proofs.Ytijmjpjclhgaoaa
open Go.ChangeShapes Go.WideShapes Go.ChangeAt Go.RowKit
set_option linter.unusedVariables false

theorem int_eqi {k : IntKind} {a b : Int} (h : a = b) : Value.int k a = Value.int k b := by rw [h]
theorem ret_twoi {a b : Int} {x y : Bool} (h1 : a = b) (h2 : x = y) : Ending.returned (.tuple #[.int .i64 a, .bool x]) = .returned (.tuple #[.int .i64 b, .bool y]) := by rw [h1, h2]
theorem iter_below (w : World) (s : ByteArray) (pos : Nat) : Below w.heap.size w (w.iter s pos) := (Below.refl _ _).alloc (Nat.le_refl _) _
theorem isEmpty_of (s : ByteArray) (h : 1 ≤ s.size) : s.toList.isEmpty = false := by
  rw [ByteArray.toList_eq]
  have hlen := len_eq s
  cases hl : s.data.toList with
  | nil => rw [hl] at hlen; simp at hlen; omega
  | cons a l => rfl
theorem head_of (s : ByteArray) (h : 0 < s.size) : s.data.toList.head? = some s[0] := by
  rw [List.head?_eq_getElem?, List.getElem?_eq_getElem (by rw [len_eq]; exact h)]; rfl

end Go.Proofs.Ytijmjpjclhgaoaa

namespace Go.Proofs
open Go.Shelf
def Try.lays119_ren : Go.Shelf.Ren := ⟨fun | 119 => 83 | n => n, fun | 21 => 21 | 4 => 4 | n => n, fun | n => n⟩
theorem Try.lays119 : Go.Proofs.Lays.n119 Try.prog Try.lays119_ren := {
  mixed := by kernel_rfl
  f119 := Try.func83.trans (congrArg some (by kernel_rfl))
  t4 := Try.underlying4
  a4 := Try.isAgg4
  z4 := Try.sizeOf4
  v4 := Try.zeroValue4
  t21 := Try.underlying21
  a21 := Try.isAgg21
  z21 := Try.sizeOf21
  v21 := Try.zeroValue21 }
theorem Try.utf8_ValidRune (r : Int) (w : World) :
    Calls Try.prog 83 #[.int .i32 r] w fun e w' => e = .returned (.bool (Lib.validRune r)) ∧ w' = w := Any.utf8_ValidRune Try.lays119 r w
def Try.lays137_ren : Go.Shelf.Ren := ⟨fun | 137 => 82 | 217 => 86 | 266 => 87 | n => n, fun | 9 => 9 | 5 => 5 | 3 => 3 | n => n, fun | n => n⟩
theorem Try.lays137 : Go.Proofs.Lays.n137 Try.prog Try.lays137_ren := {
  mixed := by kernel_rfl
  f137 := Try.func82.trans (congrArg some (by kernel_rfl))
  f217 := Try.func86.trans (congrArg some (by kernel_rfl))
  f266 := Try.func87.trans (congrArg some (by kernel_rfl))
  t3 := Try.underlying3
  a3 := Try.isAgg3
  z3 := Try.sizeOf3
  v3 := Try.zeroValue3
  t5 := Try.underlying5
  a5 := Try.isAgg5
  z5 := Try.sizeOf5
  v5 := Try.zeroValue5
  t9 := Try.underlying9
  a9 := Try.isAgg9
  z9 := Try.sizeOf9
  v9 := Try.zeroValue9 }
open Go.RowKit in
theorem Try.strings_IndexByte (s : ByteArray) (c : Int) (w : World) :
    Calls Try.prog 82 #[.string s, .int .u8 c] w fun e w' => e = .returned (.int .i64 (Lib.indexByte s.data.toList c.toNat.toUInt8)) ∧ w' = w := Any.strings_IndexByte Try.lays137 s c w
def Try.lays217_ren : Go.Shelf.Ren := ⟨fun | 217 => 86 | 266 => 87 | n => n, fun | 9 => 9 | 5 => 5 | 3 => 3 | n => n, fun | n => n⟩
theorem Try.lays217 : Go.Proofs.Lays.n217 Try.prog Try.lays217_ren := {
  mixed := by kernel_rfl
  f217 := Try.func86.trans (congrArg some (by kernel_rfl))
  f266 := Try.func87.trans (congrArg some (by kernel_rfl))
  t3 := Try.underlying3
  a3 := Try.isAgg3
  z3 := Try.sizeOf3
  v3 := Try.zeroValue3
  t5 := Try.underlying5
  a5 := Try.isAgg5
  z5 := Try.sizeOf5
  v5 := Try.zeroValue5
  t9 := Try.underlying9
  a9 := Try.isAgg9
  z9 := Try.sizeOf9
  v9 := Try.zeroValue9 }
open Go.RowKit Go.Lib in
theorem Try.stringslite_IndexByte (s : ByteArray) (c : Int) (w : World) :
    Calls Try.prog 86 #[.string s, .int .u8 c] w fun e w' => e = .returned (.int .i64 (Lib.indexByte s.data.toList c.toNat.toUInt8)) ∧ w' = w := Any.stringslite_IndexByte Try.lays217 s c w
def Try.lays224_ren : Go.Shelf.Ren := ⟨fun | 224 => 84 | n => n, fun | 3 => 3 | n => n, fun | n => n⟩
theorem Try.lays224 : Go.Proofs.Lays.n224 Try.prog Try.lays224_ren := {
  mixed := by kernel_rfl
  f224 := Try.func84.trans (congrArg some (by kernel_rfl))
  t3 := Try.underlying3
  a3 := Try.isAgg3
  z3 := Try.sizeOf3
  v3 := Try.zeroValue3 }
open Go.RowKit Go.Lib in
theorem Try.bytealg_Cutover (n : Int) (h0 : 0 ≤ n) (h1 : n < 4611686018427387904) (w : World) :
    Calls Try.prog 84 #[.int .i64 n] w fun e w' => e = .returned (.int .i64 ((n + 16) / 8)) ∧ w' = w := Any.bytealg_Cutover Try.lays224 n h0 h1 w
def Try.lays152_ren : Go.Shelf.Ren := ⟨fun | 152 => 78 | 137 => 82 | 119 => 83 | 224 => 84 | 225 => 85 | 217 => 86 | 266 => 87 | n => n, fun | 9 => 9 | 21 => 21 | 3 => 3 | 4 => 4 | 5 => 5 | 0 => 0 | 46 => 116 | n => n, fun | n => n⟩
theorem Try.lays152 : Go.Proofs.Lays.n152 Try.prog Try.lays152_ren := {
  mixed := by kernel_rfl
  f119 := Try.func83.trans (congrArg some (by kernel_rfl))
  f137 := Try.func82.trans (congrArg some (by kernel_rfl))
  f152 := Try.func78.trans (congrArg some (by kernel_rfl))
  f217 := Try.func86.trans (congrArg some (by kernel_rfl))
  f224 := Try.func84.trans (congrArg some (by kernel_rfl))
  f225 := Try.func85.trans (congrArg some (by kernel_rfl))
  f266 := Try.func87.trans (congrArg some (by kernel_rfl))
  t0 := Try.underlying0
  a0 := Try.isAgg0
  z0 := Try.sizeOf0
  v0 := Try.zeroValue0
  t3 := Try.underlying3
  a3 := Try.isAgg3
  z3 := Try.sizeOf3
  v3 := Try.zeroValue3
  t4 := Try.underlying4
  a4 := Try.isAgg4
  z4 := Try.sizeOf4
  v4 := Try.zeroValue4
  t5 := Try.underlying5
  a5 := Try.isAgg5
  z5 := Try.sizeOf5
  v5 := Try.zeroValue5
  t9 := Try.underlying9
  a9 := Try.isAgg9
  z9 := Try.sizeOf9
  v9 := Try.zeroValue9
  t21 := Try.underlying21
  a21 := Try.isAgg21
  z21 := Try.sizeOf21
  v21 := Try.zeroValue21
  t46 := Try.underlying116
  a46 := Try.isAgg116
  z46 := Try.sizeOf116
  v46 := Try.zeroValue116 }
open Go.RowKit Go.Lib in
theorem Try.strings_IndexRune_ascii (s : ByteArray) (r : Int) (w : World) (h0 : 0 ≤ r) (h1 : r < 128) :
    Calls Try.prog 78 #[.string s, .int .i32 r] w fun e w' => e = .returned (.int .i64 (Lib.indexByte s.data.toList r.toNat.toUInt8)) ∧ w' = w := Any.strings_IndexRune_ascii Try.lays152 s r w h0 h1
def Try.lays226_ren : Go.Shelf.Ren := ⟨fun | 226 => 79 | n => n, fun | 3 => 3 | 4 => 4 | n => n, fun | n => n⟩
theorem Try.lays226 : Go.Proofs.Lays.n226 Try.prog Try.lays226_ren := {
  mixed := by kernel_rfl
  f226 := Try.func79.trans (congrArg some (by kernel_rfl))
  t3 := Try.underlying3
  a3 := Try.isAgg3
  z3 := Try.sizeOf3
  v3 := Try.zeroValue3
  t4 := Try.underlying4
  a4 := Try.isAgg4
  z4 := Try.sizeOf4
  v4 := Try.zeroValue4 }
open Go.RowKit Go.Lib in
theorem Try.strings_shouldUseASCIISet (n : Int) (w : World) :
    Calls Try.prog 79 #[.int .i64 n] w fun e w' => e = .returned (.bool (decide (8 < n))) ∧ w' = w := Any.strings_shouldUseASCIISet Try.lays226 n w
def Try.lays153_ren : Go.Shelf.Ren := ⟨fun | 153 => 75 | 152 => 78 | 226 => 79 | 227 => 80 | 228 => 81 | 137 => 82 | 119 => 83 | 224 => 84 | 225 => 85 | 217 => 86 | 266 => 87 | n => n, fun | 9 => 9 | 3 => 3 | 4 => 4 | 5 => 5 | 21 => 21 | 117 => 111 | 116 => 110 | 0 => 0 | 46 => 116 | 124 => 117 | n => n, fun | n => n⟩
theorem Try.lays153 : Go.Proofs.Lays.n153 Try.prog Try.lays153_ren := {
  mixed := by kernel_rfl
  f119 := Try.func83.trans (congrArg some (by kernel_rfl))
  f137 := Try.func82.trans (congrArg some (by kernel_rfl))
  f152 := Try.func78.trans (congrArg some (by kernel_rfl))
  f153 := Try.func75.trans (congrArg some (by kernel_rfl))
  f217 := Try.func86.trans (congrArg some (by kernel_rfl))
  f224 := Try.func84.trans (congrArg some (by kernel_rfl))
  f225 := Try.func85.trans (congrArg some (by kernel_rfl))
  f226 := Try.func79.trans (congrArg some (by kernel_rfl))
  f227 := Try.func80.trans (congrArg some (by kernel_rfl))
  f228 := Try.func81.trans (congrArg some (by kernel_rfl))
  f266 := Try.func87.trans (congrArg some (by kernel_rfl))
  t0 := Try.underlying0
  a0 := Try.isAgg0
  z0 := Try.sizeOf0
  v0 := Try.zeroValue0
  t3 := Try.underlying3
  a3 := Try.isAgg3
  z3 := Try.sizeOf3
  v3 := Try.zeroValue3
  t4 := Try.underlying4
  a4 := Try.isAgg4
  z4 := Try.sizeOf4
  v4 := Try.zeroValue4
  t5 := Try.underlying5
  a5 := Try.isAgg5
  z5 := Try.sizeOf5
  v5 := Try.zeroValue5
  t9 := Try.underlying9
  a9 := Try.isAgg9
  z9 := Try.sizeOf9
  v9 := Try.zeroValue9
  t21 := Try.underlying21
  a21 := Try.isAgg21
  z21 := Try.sizeOf21
  v21 := Try.zeroValue21
  t46 := Try.underlying116
  a46 := Try.isAgg116
  z46 := Try.sizeOf116
  v46 := Try.zeroValue116
  t116 := Try.underlying110
  a116 := Try.isAgg110
  z116 := Try.sizeOf110
  t117 := Try.underlying111
  a117 := Try.isAgg111
  z117 := Try.sizeOf111
  v117 := Try.zeroValue111
  t124 := Try.underlying117
  a124 := Try.isAgg117
  z124 := Try.sizeOf117
  v124 := Try.zeroValue117 }
open Go.RowKit Go.Lib in
theorem Try.strings_IndexAny_none (s chars : ByteArray) (w : World) (h0 : chars.size = 0) :
    Calls Try.prog 75 #[.string s, .string chars] w fun e w' => e = .returned (.int .i64 (Lib.indexAny s.data.toList chars.data.toList)) ∧ w' = w := Any.strings_IndexAny_none Try.lays153 s chars w h0
open Go.RowKit Go.Lib in
theorem Try.strings_IndexAny_one (s chars : ByteArray) (w : World) (h1 : chars.size = 1) (hascii : ∀ (j : Nat) b, chars.data.toList[j]? = some b → b.toNat < 128) :
    Calls Try.prog 75 #[.string s, .string chars] w fun e w' => e = .returned (.int .i64 (Lib.indexAny s.data.toList chars.data.toList)) ∧ w' = w := Any.strings_IndexAny_one Try.lays153 s chars w h1 hascii
open Go.RowKit Go.Lib in
theorem Try.strings_IndexAny_short (s chars : ByteArray) (w : World) (h2 : 2 ≤ chars.size) (h8 : s.size ≤ 8) (hascii : ∀ (j : Nat) b, s.data.toList[j]? = some b → b.toNat < 128) :
    Calls Try.prog 75 #[.string s, .string chars] w fun e w' => e = .returned (.int .i64 (Lib.indexAny s.data.toList chars.data.toList)) ∧ ∃ pos, w' = w.iter s pos := Any.strings_IndexAny_short Try.lays153 s chars w h2 h8 hascii
def Try.lays227_ren : Go.Shelf.Ren := ⟨fun | 227 => 80 | n => n, fun | 9 => 9 | 116 => 110 | 4 => 4 | 0 => 0 | 3 => 3 | 5 => 5 | n => n, fun | n => n⟩
theorem Try.lays227 : Go.Proofs.Lays.n227 Try.prog Try.lays227_ren := {
  mixed := by kernel_rfl
  f227 := Try.func80.trans (congrArg some (by kernel_rfl))
  t0 := Try.underlying0
  a0 := Try.isAgg0
  z0 := Try.sizeOf0
  v0 := Try.zeroValue0
  t3 := Try.underlying3
  a3 := Try.isAgg3
  z3 := Try.sizeOf3
  v3 := Try.zeroValue3
  t4 := Try.underlying4
  a4 := Try.isAgg4
  z4 := Try.sizeOf4
  v4 := Try.zeroValue4
  t5 := Try.underlying5
  a5 := Try.isAgg5
  z5 := Try.sizeOf5
  v5 := Try.zeroValue5
  t9 := Try.underlying9
  a9 := Try.isAgg9
  z9 := Try.sizeOf9
  v9 := Try.zeroValue9
  t116 := Try.underlying110
  a116 := Try.isAgg110
  z116 := Try.sizeOf110 }
open Go.RowKit Go.Lib in
theorem Try.strings_makeASCIISet (hv116 : ∀ w, (zeroValue 110).run Try.prog w = .ok (.agg (Array.replicate 256 (.bool false))) w) (chars : ByteArray) (w : World) (hs : chars.size < 4294967281) (hascii : ∀ (j : Nat) b, chars.data.toList[j]? = some b → b.toNat < 128) :
    Calls Try.prog 80 #[.string chars] w fun e w' => e = .returned (.tuple #[.agg (Lib.setCells chars.data.toList), .bool true]) ∧ w' = w.alloc (.cells (Lib.setCells chars.data.toList) 110) := Any.strings_makeASCIISet Try.lays227 hv116 (by kernel_rfl) chars w hs hascii
def Try.lays228_ren : Go.Shelf.Ren := ⟨fun | 228 => 81 | n => n, fun | 124 => 117 | 5 => 5 | 4 => 4 | 0 => 0 | 116 => 110 | n => n, fun | n => n⟩
theorem Try.lays228 : Go.Proofs.Lays.n228 Try.prog Try.lays228_ren := {
  mixed := by kernel_rfl
  f228 := Try.func81.trans (congrArg some (by kernel_rfl))
  t0 := Try.underlying0
  a0 := Try.isAgg0
  z0 := Try.sizeOf0
  v0 := Try.zeroValue0
  t4 := Try.underlying4
  a4 := Try.isAgg4
  z4 := Try.sizeOf4
  v4 := Try.zeroValue4
  t5 := Try.underlying5
  a5 := Try.isAgg5
  z5 := Try.sizeOf5
  v5 := Try.zeroValue5
  t116 := Try.underlying110
  a116 := Try.isAgg110
  z116 := Try.sizeOf110
  t124 := Try.underlying117
  a124 := Try.isAgg117
  z124 := Try.sizeOf117
  v124 := Try.zeroValue117 }
open Go.RowKit Go.Lib in
theorem Try.asciiSet_contains (b : Nat) (x : UInt8) (v : Bool) (w : World) (hc : w.cell? ⟨b, x.toNat, none⟩ = some (.bool v)) :
    Calls Try.prog 81 #[.pointer (some ⟨b, 0, none⟩), .int .u8 x.toNat] w fun e w' => e = .returned (.bool v) ∧ w' = w := Any.asciiSet_contains Try.lays228 b x v w hc
open Go.RowKit Go.Lib in
theorem Try.strings_IndexAny_long (hv116 : ∀ w, (zeroValue 110).run Try.prog w = .ok (.agg (Array.replicate 256 (.bool false))) w) (s chars : ByteArray) (w : World) (h2 : 2 ≤ chars.size) (h8 : 8 < s.size) (hs : s.size < 4294967281) (hcs : chars.size < 4294967281) (hascii : ∀ (j : Nat) b, chars.data.toList[j]? = some b → b.toNat < 128) :
    Calls Try.prog 75 #[.string s, .string chars] w fun e w' => e = .returned (.int .i64 (Lib.indexAny s.data.toList chars.data.toList)) ∧ w' = ((w.alloc (.cells (Lib.setCells chars.data.toList) 110)).alloc (.cells (Lib.setCells chars.data.toList) 110)) := Any.strings_IndexAny_long Try.lays153 hv116 (by kernel_rfl) s chars w h2 h8 hs hcs hascii
open Go.RowKit Go.Lib in
theorem Try.strings_IndexAny (hv116 : ∀ w, (zeroValue 110).run Try.prog w = .ok (.agg (Array.replicate 256 (.bool false))) w) (s chars : ByteArray) (w : World) (hs : s.size < 4294967281) (hcs : chars.size < 4294967281) (has : ∀ (j : Nat) b, s.data.toList[j]? = some b → b.toNat < 128) (hac : ∀ (j : Nat) b, chars.data.toList[j]? = some b → b.toNat < 128) :
    Calls Try.prog 75 #[.string s, .string chars] w fun e w' => e = .returned (.int .i64 (Lib.indexAny s.data.toList chars.data.toList)) ∧ Below w.heap.size w w' := Any.strings_IndexAny Try.lays153 hv116 (by kernel_rfl) s chars w hs hcs has hac
def Try.lays150_ren : Go.Shelf.Ren := ⟨fun | 150 => 62 | 153 => 75 | 152 => 78 | 226 => 79 | 227 => 80 | 228 => 81 | 137 => 82 | 119 => 83 | 224 => 84 | 225 => 85 | 217 => 86 | 266 => 87 | n => n, fun | 9 => 9 | 4 => 4 | 3 => 3 | 5 => 5 | 21 => 21 | 117 => 111 | 116 => 110 | 0 => 0 | 46 => 116 | 124 => 117 | n => n, fun | n => n⟩
theorem Try.lays150 : Go.Proofs.Lays.n150 Try.prog Try.lays150_ren := {
  mixed := by kernel_rfl
  f119 := Try.func83.trans (congrArg some (by kernel_rfl))
  f137 := Try.func82.trans (congrArg some (by kernel_rfl))
  f150 := Try.func62.trans (congrArg some (by kernel_rfl))
  f152 := Try.func78.trans (congrArg some (by kernel_rfl))
  f153 := Try.func75.trans (congrArg some (by kernel_rfl))
  f217 := Try.func86.trans (congrArg some (by kernel_rfl))
  f224 := Try.func84.trans (congrArg some (by kernel_rfl))
  f225 := Try.func85.trans (congrArg some (by kernel_rfl))
  f226 := Try.func79.trans (congrArg some (by kernel_rfl))
  f227 := Try.func80.trans (congrArg some (by kernel_rfl))
  f228 := Try.func81.trans (congrArg some (by kernel_rfl))
  f266 := Try.func87.trans (congrArg some (by kernel_rfl))
  t0 := Try.underlying0
  a0 := Try.isAgg0
  z0 := Try.sizeOf0
  v0 := Try.zeroValue0
  t3 := Try.underlying3
  a3 := Try.isAgg3
  z3 := Try.sizeOf3
  v3 := Try.zeroValue3
  t4 := Try.underlying4
  a4 := Try.isAgg4
  z4 := Try.sizeOf4
  v4 := Try.zeroValue4
  t5 := Try.underlying5
  a5 := Try.isAgg5
  z5 := Try.sizeOf5
  v5 := Try.zeroValue5
  t9 := Try.underlying9
  a9 := Try.isAgg9
  z9 := Try.sizeOf9
  v9 := Try.zeroValue9
  t21 := Try.underlying21
  a21 := Try.isAgg21
  z21 := Try.sizeOf21
  v21 := Try.zeroValue21
  t46 := Try.underlying116
  a46 := Try.isAgg116
  z46 := Try.sizeOf116
  v46 := Try.zeroValue116
  t116 := Try.underlying110
  a116 := Try.isAgg110
  z116 := Try.sizeOf110
  t117 := Try.underlying111
  a117 := Try.isAgg111
  z117 := Try.sizeOf111
  v117 := Try.zeroValue111
  t124 := Try.underlying117
  a124 := Try.isAgg117
  z124 := Try.sizeOf117
  v124 := Try.zeroValue117 }
open Go.RowKit Go.Lib in
theorem Try.strings_ContainsAny (hv116 : ∀ w, (zeroValue 110).run Try.prog w = .ok (.agg (Array.replicate 256 (.bool false))) w) (s chars : ByteArray) (w : World) (hs : s.size < 4294967281) (hcs : chars.size < 4294967281) (has : ∀ (j : Nat) b, s.data.toList[j]? = some b → b.toNat < 128) (hac : ∀ (j : Nat) b, chars.data.toList[j]? = some b → b.toNat < 128) :
    Calls Try.prog 62 #[.string s, .string chars] w fun e w' => e = .returned (.bool (Lib.containsAny s.data.toList chars.data.toList)) ∧ Below w.heap.size w w' := Any.strings_ContainsAny Try.lays150 hv116 (by kernel_rfl) s chars w hs hcs has hac
open Go.RowKit Go.Lib in
theorem Try.strings_IndexAny_laid (s chars : ByteArray) (w : World) (hs : s.size < 4294967281) (hcs : chars.size < 4294967281) (has : ∀ (j : Nat) b, s.data.toList[j]? = some b → b.toNat < 128) (hac : ∀ (j : Nat) b, chars.data.toList[j]? = some b → b.toNat < 128) :
    Calls Try.prog 75 #[.string s, .string chars] w fun e w' => e = .returned (.int .i64 (Lib.indexAny s.data.toList chars.data.toList)) ∧ Below w.heap.size w w' := Any.strings_IndexAny_laid Try.lays153 (by kernel_rfl) s chars w hs hcs has hac
open Go.RowKit Go.Lib in
theorem Try.strings_ContainsAny_laid (s chars : ByteArray) (w : World) (hs : s.size < 4294967281) (hcs : chars.size < 4294967281) (has : ∀ (j : Nat) b, s.data.toList[j]? = some b → b.toNat < 128) (hac : ∀ (j : Nat) b, chars.data.toList[j]? = some b → b.toNat < 128) :
    Calls Try.prog 62 #[.string s, .string chars] w fun e w' => e = .returned (.bool (Lib.containsAny s.data.toList chars.data.toList)) ∧ Below w.heap.size w w' := Any.strings_ContainsAny_laid Try.lays150 (by kernel_rfl) s chars w hs hcs has hac
def Try.laysNm215_ren : Go.Shelf.Ren := ⟨fun | 15 => 70 | n => n, fun | 22 => 30 | 3 => 3 | 4 => 4 | n => n, fun | n => n⟩
theorem Try.laysNm215 : Go.Proofs.Lays2.n15 Try.prog Try.laysNm215_ren := {
  mixed := by kernel_rfl
  f15 := Try.func70.trans (congrArg some (by kernel_rfl))
  t3 := Try.underlying3
  a3 := Try.isAgg3
  z3 := Try.sizeOf3
  v3 := Try.zeroValue3
  t4 := Try.underlying4
  a4 := Try.isAgg4
  z4 := Try.sizeOf4
  v4 := Try.zeroValue4
  t22 := Try.underlying30
  a22 := Try.isAgg30
  z22 := Try.sizeOf30
  v22 := Try.zeroValue30
  i3 := by kernel_rfl }
open Go.RowKit Go.Lib in
theorem Try.slices_Clone_int (b off n c : Nat) (zs : List Int) (w : World) (hz : n ≤ zs.length) (hbig : n * 8 ≤ 140737488355328) (hc : ∀ j, j < zs.length → w.cell? ⟨b, off + j, none⟩ = some (.int .i64 (zs.getD j 0))) :
    Calls Try.prog 70 #[.slice (some ⟨b, off, none⟩) n c] w fun e w' => ∃ v', e = .returned v' ∧ w'.ownsRow w.heap.size 3 1 v' n ((zs.take n).map (Value.int .i64)) ∧ v' ≠ .slice none 0 0 ∧ Below w.heap.size w w' := Any.slices_Clone_int Try.laysNm215 b off n c zs w hz hbig hc
open Go.RowKit Go.Lib in
theorem Try.slices_Clone_int_nil (n c : Nat) (w : World) :
    Calls Try.prog 70 #[.slice none n c] w fun e w' => e = .returned (.slice none 0 0) ∧ w' = w := Any.slices_Clone_int_nil Try.laysNm215 n c w
open Go.RowKit Go.Lib in
theorem Try.slices_Clone_int_zero (a : Addr) (c : Nat) (w : World) :
    Calls Try.prog 70 #[.slice (some a) 0 c] w fun e w' => ∃ v', e = .returned v' ∧ w'.ownsRow w.heap.size 3 1 v' 0 [] ∧ v' ≠ .slice none 0 0 ∧ Below w.heap.size w w' := Any.slices_Clone_int_zero Try.laysNm215 a c w
end Go.Proofs

namespace Go.Proofs.Ytijmjpjclhgaoaa
open Go.ChangeShapes Go.WideShapes Go.ChangeAt Go.RowKit
set_option linter.unusedVariables false

set_option maxRecDepth 100000 in
theorem spec_clean (s : ByteArray) (w : World) (hs : s.size ≤ 9223372036854775806) :
    Calls Try.prog 28 #[.string s] w fun e w' => e = .returned (.bool (clB s)) ∧ w' = w := by
  go_enter Try.func28, Try.ntmps28
  go_wp2
  go_loop [3] (fun i => ∃ k : Nat, k ≤ s.size ∧ i = .int .i64 k ∧ Hid ((s.data.toList.take k).all clean1 = true)) (fun i => s.size - (intOf i).toNat)
  case atStart => exact ⟨0, Nat.zero_le _, rfl, rfl⟩
  case round =>
    obtain ⟨k, hk, rfl, HS⟩ := hrel
    by_cases hlt : k < s.size
    · have hlt' : (k : Int) < (s.size : Int) := by omega
      by_cases c1 : s[k].toNat = 32
      · have HN : Hid (clB s = false) := clB_no s k hlt (clean1_32 _ c1)
        have d1 : ((s[k].toNat : Int) == 32) = true := by rw [c1]; rfl
        clear c1
        go_wp2
        go_ret
        exact ⟨ret_boolx HN.out.symm, rfl⟩
      · by_cases c2 : s[k].toNat = 10
        · have HN : Hid (clB s = false) := clB_no s k hlt (clean1_10 _ c2)
          have d1 : ((s[k].toNat : Int) == 32) = false := by rw [c2]; rfl
          have d2 : ((s[k].toNat : Int) == 10) = true := by rw [c2]; rfl
          clear c1 c2
          go_wp2
          go_ret
          exact ⟨ret_boolx HN.out.symm, rfl⟩
        · have HC : Hid (clean1 s[k] = true) := clean1_of _ c1 c2
          have d1 : ((s[k].toNat : Int) == 32) = false := by rw [beq_eq_false_iff_ne]; omega
          have d2 : ((s[k].toNat : Int) == 10) = false := by rw [beq_eq_false_iff_ne]; omega
          clear c1 c2
          go_wp2
          go_round
          case rel => exact ⟨k + 1, by omega, by go_num, clB_step s k hlt HS.out HC.out⟩
          case measure => simp [intOf]; omega
    · have HN : Hid (clB s = true) := clB_end s k (by omega) HS.out
      go_wp2
      go_ret
      exact ⟨ret_boolx HN.out.symm, rfl⟩
def white : ByteArray := ⟨#[32, 10]⟩
set_option maxHeartbeats 1600000 in
set_option maxRecDepth 100000 in
theorem rune_white_long (r : Int) (w : World) (h1 : 128 ≤ r) (h2 : r ≤ 1114111) (hv : Lib.validRune r = true) (he : r ≠ 65533) :
    Calls Try.prog 78 #[.string ⟨#[32, 10]⟩, .int .i32 r] w fun e w' => e = .returned (.int .i64 (-1)) ∧ Below w.heap.size w w' := by
  have g1 : ¬ r < 128 := by omega
  have g2 : (r == 65533) = false := by rw [beq_eq_false_iff_ne]; exact he
  rcases enc_forms r h1 with ⟨a, b, hE, hb⟩ | ⟨a, b, c, hE⟩ | ⟨a, b, c, d, hE⟩
  · have hcv : ∀ W, (convert 21 9 (.int .i32 r)).run Try.prog W = .ok (.string ⟨#[a, b]⟩) W := fun W => by rw [run_convert_int_string W _ _ _ r (by rw [Try.underlying21]; rfl) Try.underlying9, hE]
    have d0 : ((10 : Int) != (b.toNat : Int)) = true := by simp; omega
    have d1 : ((((ByteArray.mk #[32, 10])[1]'(by decide : 1 < 2)).toNat : Int) != (((ByteArray.mk #[a, b])[1]'(by show 1 < 2; decide)).toNat : Int)) = true := d0
    have hw2 : IntKind.i64.wrap 2 = 2 := by rfl
    clear hE
    go_enter Try.func78, Try.ntmps78
    go_wp2_with (go_at_call 83; refine (Try.utf8_ValidRune _ _).mono ?_; rintro e w' ⟨rfl, rfl⟩; rw [hv])
    go_step3
    go_wp2
    go_loop [9, 10] (fun i f => i = .int .i64 1 ∧ f = .int .i64 0) (fun _ _ => 0)
    case atStart => exact ⟨rfl, rfl⟩
    case round =>
      obtain ⟨rfl, rfl⟩ := hrel
      go_wp2
      go_step3
      go_wp2
      go_quiet (fail)
      have hB : Below w'.heap.size w' (World.drewN w' nq) := below_drewN (Below.refl _ _) nq
      generalize World.drewN w' nq = wq at hB ⊢
      have hI : Hid (∀ (c : Int) W, Calls Try.prog 82 #[.string ByteArray.empty, .int .u8 c] W fun e w' => e = .returned (.int .i64 (-1)) ∧ w' = W) := fun c W => Try.strings_IndexByte ByteArray.empty c W
      go_wp2
      go_quiet (first | (go_at_call 82; refine Calls.quiet_of_same (hI.out _ _)))
      go_wp2
      simp +zetaDelta only [Exit.noGoto_ret, Exit.inBlock, Exit.then]
      go_ret
      exact ⟨rfl, below_drewN hB _⟩
  all_goals
    have hcv := fun W => (run_convert_int_string (P := Try.prog) W 21 9 .i32 r (by rw [Try.underlying21]; rfl) Try.underlying9)
    rw [hE] at hcv
    clear hE
    go_enter Try.func78, Try.ntmps78
    go_wp2_with (go_at_call 83; refine (Try.utf8_ValidRune _ _).mono ?_; rintro e w' ⟨rfl, rfl⟩; rw [hv])
    go_step3
    go_wp2
    go_loop [9, 10] (fun i f => (i = .int .i64 2 ∨ i = .int .i64 3) ∧ f = .int .i64 0) (fun _ _ => 0)
    case atStart => exact ⟨by first | exact .inl rfl | exact .inr rfl, rfl⟩
    case round =>
      obtain ⟨rfl | rfl, rfl⟩ := hrel
      all_goals
        go_wp2
        go_ret
        exact ⟨rfl, Below.refl _ _⟩
set_option maxHeartbeats 1600000 in
set_option maxRecDepth 100000 in
theorem rune_white (r : Int) (w : World) (h1 : 128 ≤ r) (h2 : r ≤ 1114111) :
    Calls Try.prog 78 #[.string ⟨#[32, 10]⟩, .int .i32 r] w fun e w' => e = .returned (.int .i64 (-1)) ∧ Below w.heap.size w w' := by
  have g1 : ¬ r < 128 := by omega
  by_cases he : r = 65533
  · subst he
    have n0 := fun ty => run_next_ascii (P := Try.prog) w ⟨#[32, 10]⟩ 0 ty (by decide) (by decide)
    have n1 := fun ty => run_next_ascii (P := Try.prog) w ⟨#[32, 10]⟩ 1 ty (by decide) (by decide)
    have n2 := fun ty => run_next_end (P := Try.prog) w ⟨#[32, 10]⟩ 2 ty (by decide)
    go_enter Try.func78, Try.ntmps78
    go_wp2
    go_loopw [5] (fun _ wr => ∃ k, k ≤ 2 ∧ wr = w.iter ⟨#[32, 10]⟩ k) (fun _ wr => 2 - wr.iterPos w.heap.size)
    case atStart => exact ⟨0, by omega, rfl⟩
    case round =>
      obtain ⟨k, hk, rfl⟩ := hrel
      match k, hk with
      | 0, _ => 
        go_wp2
        go_roundw
        case rel => exact ⟨1, by omega, rfl⟩
        case measure => simp
      | 1, _ => 
        go_wp2
        go_roundw
        case rel => exact ⟨2, by omega, rfl⟩
        case measure => simp
      | 2, _ => 
        go_wp2
        go_ret
        exact ⟨rfl, iter_below _ _ _⟩
  · by_cases hv : Lib.validRune r = true
    · exact rune_white_long r w h1 h2 hv he
    · have g2 : (r == 65533) = false := by rw [beq_eq_false_iff_ne]; exact he
      have hv' : Lib.validRune r = false := by simpa using hv
      go_enter Try.func78, Try.ntmps78
      go_wp2_with (go_at_call 83; refine (Try.utf8_ValidRune _ _).mono ?_; rintro e w' ⟨rfl, rfl⟩; rw [hv'])
      go_ret
      exact ⟨rfl, Below.refl _ _⟩
def itSet (W : World) (b : Nat) (s : ByteArray) (p : Nat) : World := { W with heap := W.heap.setIfInBounds b (.stringIter s p) }
theorem itSet_size (W : World) (b : Nat) (s : ByteArray) (p : Nat) : (itSet W b s p).heap.size = W.heap.size := by simp [itSet]
theorem itSet_at (W : World) (b : Nat) (s : ByteArray) (p : Nat) (h : b < W.heap.size) : (itSet W b s p).heap[b]? = some (.stringIter s p) := by simp [itSet, h]
theorem itSet_below {B : Nat} {w W : World} {b : Nat} {s : ByteArray} {p : Nat} (h : Below B w W) (hb : B ≤ b) : Below B w (itSet W b s p) :=
  h.trans ⟨rfl, rfl, rfl, by simp [itSet], fun k hk => by simp [itSet, Array.getElem?_setIfInBounds]; omega⟩
theorem next_in (W : World) (b : Nat) (s : ByteArray) (pos : Nat) (ty : TypeId) (hb : W.heap[b]? = some (.stringIter s pos)) (h : pos < s.size) :
    (Instr.next (.pointer (some ⟨b, 0, none⟩)) true ty).run Try.prog W = .ok (.tuple #[.bool true, .int .i64 pos, .int .i32 (Utf8.decode s pos).1]) (itSet W b s (pos + (Utf8.decode s pos).2)) := by
  simp only [Instr.next, getObj, setObj, Sem.run_bind, Sem.run, hb, Result.andThen, h, if_true]
  simp [goInt, itSet]
theorem next_over (W : World) (b : Nat) (s : ByteArray) (pos : Nat) (ty : TypeId) (hb : W.heap[b]? = some (.stringIter s pos)) (h : ¬ pos < s.size) :
    (Instr.next (.pointer (some ⟨b, 0, none⟩)) true ty).run Try.prog W = .ok (.tuple #[.bool false]) W := by
  simp [Instr.next, getObj, Sem.run, hb, h]
theorem decode_le2 (s : ByteArray) (pos : Nat) : (Utf8.decode s pos).1 ≤ 1114111 := by
  have hb : ∀ k, (s.get! (pos + k)).toNat < 256 := fun k => (s.get! (pos + k)).toNat_lt
  have h0 := hb 0; have h1 := hb 1; have h2 := hb 2; have h3 := hb 3
  simp only [Utf8.decode]
  repeat' split
  all_goals simp_all [Utf8.runeError, Utf8.valid]
  all_goals omega
theorem white_in (b : UInt8) (h : clean1 b = true) : Lib.indexByte [32, 10] b = -1 := by
  unfold clean1 at h
  simp at h
  simp [Lib.indexByte, Ne.symm h.1, Ne.symm h.2]
theorem white_at (b : UInt8) (h : clean1 b = false) : 0 ≤ Lib.indexByte [32, 10] b := by
  unfold clean1 at h
  by_cases e1 : b = 32
  · subst e1; decide
  · by_cases e2 : b = 10
    · subst e2; decide
    · simp [e1, e2] at h
set_option maxHeartbeats 1600000 in
set_option maxRecDepth 100000 in
theorem any_white_short (s : ByteArray) (w : World) (h8 : s.size ≤ 8) :
    Calls Try.prog 75 #[.string s, .string ⟨#[32, 10]⟩] w fun e w' => (∃ z : Int, e = .returned (.int .i64 z) ∧ Hid (-1 ≤ z ∧ (0 ≤ z ↔ clB s = false))) ∧ Below w.heap.size w w' := by
  have h8z : decide ((8 : Int) < (s.size : Int)) = false := decide_eq_false (by omega)
  go_enter Try.func75, Try.ntmps75
  go_wp2_with (go_at_call 79; refine (Try.strings_shouldUseASCIISet _ _).mono ?_; rintro e w' ⟨rfl, hw⟩; rw [hw, h8z])
  go_loopw [9, 10] (fun _ _ wr => ∃ k, k ≤ s.size ∧ w.heap.size < wr.heap.size ∧ Hid ((s.data.toList.take k).all clean1 = true ∧ Below w.heap.size w wr ∧ wr.heap[w.heap.size]? = some (.stringIter s k))) (fun _ _ wr => s.size - wr.iterPos w.heap.size)
  case atStart => exact ⟨0, Nat.zero_le _, by simp [World.iter], rfl, iter_below _ _ _, World.iter_heap _ _ _⟩
  case round =>
    rename World => wr
    obtain ⟨k, hk, hgr, HS⟩ := hrel
    have hm : wr.iterPos w.heap.size = k := by unfold World.iterPos; rw [HS.out.2.2]
    by_cases hlt : k < s.size
    · have hnx : ∀ ty, (Instr.next (.pointer (some ⟨w.heap.size, 0, none⟩)) true ty).run Try.prog wr = _ := fun ty => next_in wr w.heap.size s k ty HS.out.2.2 hlt
      have hbl := hidIt (fun p => itSet_below (p := p) (s := s) HS.out.2.1 (Nat.le_refl w.heap.size))
      have hst := hidIt (fun p => itSet_at wr w.heap.size s p hgr)
      have hsz := hidIt (fun p => itSet_size wr w.heap.size s p)
      have HM := hidIt hm
      clear hm
      by_cases ha : s[k].toNat < 128
      · rw [decode_ascii s k hlt ha] at hnx
        have hback : ((s[k].toNat : Int)).toNat.toUInt8 = s[k] := by simp
        cases hc : clean1 s[k] with
        | true =>
          have hI : Hid (∀ W, Calls Try.prog 78 #[.string ⟨#[32, 10]⟩, .int .i32 (s[k].toNat : Int)] W fun e w' => e = .returned (.int .i64 (-1)) ∧ w' = W) := fun W => (Try.strings_IndexRune_ascii ⟨#[32, 10]⟩ (s[k].toNat : Int) W (by omega) (by omega)).mono fun e w' ⟨h1, h2⟩ => ⟨by rw [h1, hback]; exact ret_ints (white_in _ hc), h2⟩
          have HC := hidIt (clB_step s k hlt HS.out.1 hc)
          clear hback hc
          go_wp2_with fail
          refine (hI.out _).mono ?_
          rintro e w1 ⟨rfl, rfl⟩
          go_wp2
          go_roundw
          case rel => exact ⟨k + 1, by omega, by rw [hsz.out]; exact hgr, HC.out, hbl.out _, hst.out _⟩
          case measure =>
            have e1 : (itSet wr w.heap.size s (k + 1)).iterPos w.heap.size = k + 1 := by unfold World.iterPos; rw [hst.out]
            have := HM.out
            rw [e1, this]
            omega
        | false =>
          have hz : 0 ≤ Lib.indexByte [32, 10] s[k] := white_at _ hc
          have hI : Hid (∀ W, Calls Try.prog 78 #[.string ⟨#[32, 10]⟩, .int .i32 (s[k].toNat : Int)] W fun e w' => e = .returned (.int .i64 (Lib.indexByte [32, 10] s[k])) ∧ w' = W) := fun W => (Try.strings_IndexRune_ascii ⟨#[32, 10]⟩ (s[k].toNat : Int) W (by omega) (by omega)).mono fun e w' ⟨h1, h2⟩ => ⟨by rw [h1, hback], h2⟩
          have HC := hidIt (clB_no s k hlt hc)
          clear hback hc
          generalize Lib.indexByte [32, 10] s[k] = z at hz hI
          go_wp2_with fail
          refine (hI.out _).mono ?_
          rintro e w1 ⟨rfl, rfl⟩
          go_wp2
          go_ret
          exact ⟨⟨k, rfl, by omega, fun _ => HC.out, fun _ => by omega⟩, hbl.out _⟩
      · have ha' : 128 ≤ s[k].toNat := by omega
        have hd := decode_high s k hlt ha'
        have hl := decode_le s k
        have hr : (Utf8.decode s k).1 ≤ 1114111 := decode_le2 s k
        have hsp := clB_span s k hlt ha' HS.out.1 _ (Nat.le_refl _)
        generalize (Utf8.decode s k).1 = r at hnx hd hl hr
        generalize (Utf8.decode s k).2 = n at hnx hd hsp
        have HC := hidIt hsp
        clear hsp
        go_wp2_with fail
        refine (rune_white (r : Int) _ (by omega) (by omega)).mono ?_
        rintro e w1 ⟨rfl, b1⟩
        have z1 := b1.size
        rw [hsz.out] at z1
        have B1 := hidIt b1
        clear b1
        go_wp2
        have hst1 : w1.heap[w.heap.size]? = some (.stringIter s (k + n)) := (B1.out.block w.heap.size (by rw [hsz.out]; exact hgr)).trans (hst.out _)
        go_roundw
        case rel => exact ⟨k + n, HC.out.2, by omega, HC.out.1, (hbl.out (k + n)).trans (B1.out.mono (by rw [hsz.out]; omega)), hst1⟩
        case measure =>
          have e1 : w1.iterPos w.heap.size = k + n := by unfold World.iterPos; rw [hst1]
          have := HM.out
          have := HC.out.2
          rw [e1]
          omega
    · have hnx : ∀ ty, (Instr.next (.pointer (some ⟨w.heap.size, 0, none⟩)) true ty).run Try.prog wr = _ := fun ty => next_over wr w.heap.size s k ty HS.out.2.2 hlt
      have HC := hidIt (clB_end s k (by omega) HS.out.1)
      clear hm
      go_wp2
      go_ret
      exact ⟨⟨-1, rfl, by omega, fun h => absurd h (by omega), fun h => by rw [HC.out] at h; cases h⟩, HS.out.2.1⟩
theorem contains_white (s : ByteArray) (w : World) (hs : s.size ≤ 1048576) :
    Calls Try.prog 62 #[.string s, .string ⟨#[32, 10]⟩] w fun e w' => e = .returned (.bool (!clB s)) ∧ Below w.heap.size w w' := by
  by_cases h8 : s.size ≤ 8
  · go_enter Try.func62, Try.ntmps62
    go_wp2_with fail
    refine (any_white_short s w h8).mono ?_
    rintro e w1 ⟨⟨z, rfl, hz⟩, b1⟩
    go_wp2
    go_ret
    refine ⟨ret_boolx ?_, b1⟩
    by_cases h : 0 ≤ z
    · rw [hz.out.2.1 h]; simpa using h
    · cases hc : clB s with
      | false => exact absurd (hz.out.2.2 hc) h
      | true => simpa using h
  · have hl := Try.strings_IndexAny_long (zero_of_info (n := 256) (by kernel_rfl)).1 s ⟨#[32, 10]⟩ w (by decide) (by omega) (by omega) (by decide) (fun j b hb => by have hm := List.mem_of_getElem? hb; simp at hm; rcases hm with rfl | rfl <;> decide)
    have hc : decide (0 ≤ Lib.indexAny s.data.toList (ByteArray.mk #[32, 10]).data.toList) = !clB s := cont_white s
    generalize Lib.indexAny s.data.toList (ByteArray.mk #[32, 10]).data.toList = z at hl hc
    have HC := hidIt hc
    have HL := hidIt hl
    clear hl hc
    go_enter Try.func62, Try.ntmps62
    go_wp2_with fail
    refine HL.out.mono ?_
    rintro e w1 ⟨rfl, rfl⟩
    go_wp2
    go_ret
    exact ⟨ret_boolx HC.out, ((Below.refl _ _).alloc (Nat.le_refl _) _).alloc (by simp) _⟩

end Go.Proofs.Ytijmjpjclhgaoaa

namespace Go.Proofs.Ytijmjpjclhgaoaa
open Go.ChangeShapes Go.WideShapes Go.ChangeAt Go.RowKit
set_option linter.unusedVariables false

def itB (c : It) : Bool := decide (1 ≤ c.k.size) && decide (c.k.size ≤ 20) && clB c.k && decide (c.v.size ≤ 40) && clB c.v && decide (0 ≤ c.f) && decide (c.f ≤ 3)
theorem itB_lim {c : It} (h : itB c = true) : 1 ≤ c.k.size ∧ c.k.size ≤ 20 ∧ clB c.k = true ∧ c.v.size ≤ 40 ∧ clB c.v = true ∧ 0 ≤ c.f ∧ c.f ≤ 3 := by
  unfold itB at h
  simpa [and_assoc] using h
theorem spec_inI (n lo hi : Int) (w : World) :
    Calls Try.prog 29 #[.int .i64 n, .int .i64 lo, .int .i64 hi] w fun e w' => e = .returned (.bool (decide (lo ≤ n) && decide (n ≤ hi))) ∧ w' = w := by
  by_cases h1 : lo ≤ n
  · by_cases h2 : n ≤ hi
    · rw [decide_eq_true h1, decide_eq_true h2]
      go_enter Try.func29, Try.ntmps29
      go_wp2
      go_ret
      exact ⟨rfl, rfl⟩
    · rw [decide_eq_true h1, decide_eq_false h2]
      go_enter Try.func29, Try.ntmps29
      go_wp2
      go_ret
      exact ⟨rfl, rfl⟩
  · rw [decide_eq_false h1]
    go_enter Try.func29, Try.ntmps29
    go_wp2
    go_ret
    exact ⟨rfl, rfl⟩
set_option maxHeartbeats 1600000 in
set_option maxRecDepth 100000 in
theorem spec_itemok (c : It) (w : World) (hk : c.k.size ≤ 1048576) (hv : c.v.size ≤ 1048576) :
    Calls Try.prog 10 #[.agg #[.string c.k, .string c.v, .int .i64 c.f]] w fun e w' => e = .returned (.bool (itB c)) ∧ Below w.heap.size w w' := by
  have HK := hidIt (fun W => spec_clean c.k W (by omega))
  have HV := hidIt (fun W => spec_clean c.v W (by omega))
  have HI := hidIt (fun W => spec_inI c.f 0 3 W)
  have HR : Hid (itB c = (decide (1 ≤ c.k.size) && decide (c.k.size ≤ 20) && clB c.k && decide (c.v.size ≤ 40) && clB c.v && (decide (0 ≤ c.f) && decide (c.f ≤ 3)))) := by
    show itB c = _
    unfold itB
    simp only [Bool.and_assoc]
  generalize (decide (0 ≤ c.f) && decide (c.f ≤ 3)) = b3 at HI HR
  have h1 := Classical.em (1 ≤ c.k.size)
  have h2 := Classical.em (c.k.size ≤ 20)
  have h3 := Classical.em (c.v.size ≤ 40)
  rcases h1 with h1 | h1
  · rcases h2 with h2 | h2
    · cases hbk : clB c.k
      · rw [hbk] at HK HR
        clear hbk
        go_enter Try.func10, Try.ntmps10
        go_wp2_with (go_at_call 28; refine (HK.out _).mono ?_; rintro e w1 ⟨rfl, rfl⟩)
        go_ret
        exact ⟨ret_boolx (by rw [HR.out]; simp [h1, h2]), (Below.refl _ _).alloc (Nat.le_refl _) _⟩
      · rw [hbk] at HK HR
        clear hbk
        rcases h3 with h3 | h3
        · cases hbv : clB c.v <;> rw [hbv] at HV HR <;> clear hbv <;> cases b3 <;>
          · go_enter Try.func10, Try.ntmps10
            go_wp2_with fail
            refine (HK.out _).mono ?_
            rintro e w1 ⟨rfl, rfl⟩
            go_wp2_with fail
            refine (HV.out _).mono ?_
            rintro e w1 ⟨rfl, rfl⟩
            go_wp2_with (go_at_call 29; refine (HI.out _).mono ?_; rintro e w1 ⟨rfl, rfl⟩)
            go_ret
            exact ⟨ret_boolx (by rw [HR.out]; simp [h1, h2, h3]), (Below.refl _ _).alloc (Nat.le_refl _) _⟩
        · go_enter Try.func10, Try.ntmps10
          go_wp2_with (go_at_call 28; refine (HK.out _).mono ?_; rintro e w1 ⟨rfl, rfl⟩)
          go_ret
          exact ⟨ret_boolx (by rw [HR.out]; simp [h1, h2, h3]), (Below.refl _ _).alloc (Nat.le_refl _) _⟩
    · go_enter Try.func10, Try.ntmps10
      go_wp2
      go_ret
      exact ⟨ret_boolx (by rw [HR.out]; simp [h1, h2]), (Below.refl _ _).alloc (Nat.le_refl _) _⟩
  · go_enter Try.func10, Try.ntmps10
    go_wp2
    go_ret
    exact ⟨ret_boolx (by rw [HR.out]; simp [h1]), (Below.refl _ _).alloc (Nat.le_refl _) _⟩
theorem isword_of (s : ByteArray) (m : Int) (w : World) (hm : m ≤ 100) :
    Calls Try.prog 31 #[.string s, .int .i64 m] w fun e w' => e = .returned (.bool (decide ((s.size : Int) ≤ m) && clB s)) ∧ Below w.heap.size w w' := by
  by_cases h : (s.size : Int) ≤ m
  · rw [decide_eq_true h, Bool.true_and]
    have HC := hidIt (fun W => contains_white s W (by omega))
    generalize clB s = b at HC
    go_enter Try.func31, Try.ntmps31
    go_wp2_with (first | (go_at_call 62; refine (HC.out _).mono ?_; rintro e w1 ⟨rfl, b1⟩))
    go_ret
    exact ⟨by simp, b1⟩
  · rw [decide_eq_false h, Bool.false_and]
    go_enter Try.func31, Try.ntmps31
    go_wp2
    go_ret
    exact ⟨rfl, Below.refl _ _⟩
theorem iskey_of (s : ByteArray) (w : World) :
    Calls Try.prog 30 #[.string s] w fun e w' => e = .returned (.bool (decide (1 ≤ s.size) && decide (s.size ≤ 20) && clB s)) ∧ Below w.heap.size w w' := by
  by_cases h : 1 ≤ s.size
  · have hE := isEmpty_of s h
    have HC := hidIt (fun W => isword_of s 20 W (by omega))
    have e1 : decide ((s.size : Int) ≤ 20) = decide (s.size ≤ 20) := by rw [decide_eq_decide]; omega
    rw [e1] at HC
    rw [decide_eq_true h, Bool.true_and]
    clear e1
    generalize (decide (s.size ≤ 20) && clB s) = b at HC
    go_enter Try.func30, Try.ntmps30
    go_wp2_with (first | (go_at_call 31; refine (HC.out _).mono ?_; rintro e w1 ⟨rfl, b1⟩))
    go_ret
    exact ⟨rfl, b1⟩
  · rw [decide_eq_false h, Bool.false_and, Bool.false_and]
    have hE : s.toList.isEmpty = true := by
      rw [ByteArray.toList_eq, List.length_eq_zero_iff.1 (by rw [len_eq]; omega : s.data.toList.length = 0)]; rfl
    go_enter Try.func30, Try.ntmps30
    go_wp2
    go_ret
    exact ⟨rfl, Below.refl _ _⟩
set_option maxHeartbeats 1600000 in
set_option maxRecDepth 100000 in
theorem impl_itemok (c : It) (w : World) :
    Calls Try.prog 12 #[.agg #[.string c.k, .string c.v, .int .i64 c.f]] w fun e w' => e = .returned (.bool (itB c)) ∧ Below w.heap.size w w' := by
  have HK := hidIt (fun W => iskey_of c.k W)
  have HV := hidIt (fun W => isword_of c.v 40 W (by omega))
  have e1 : decide ((c.v.size : Int) ≤ 40) = decide (c.v.size ≤ 40) := by rw [decide_eq_decide]; omega
  rw [e1] at HV
  have HR : Hid (itB c = ((decide (1 ≤ c.k.size) && decide (c.k.size ≤ 20) && clB c.k) && (decide (c.v.size ≤ 40) && clB c.v) && decide (0 ≤ c.f) && decide (c.f ≤ 3))) := by
    show itB c = _
    unfold itB
    simp only [Bool.and_assoc]
  clear e1
  generalize (decide (1 ≤ c.k.size) && decide (c.k.size ≤ 20) && clB c.k) = b1 at HK HR
  generalize (decide (c.v.size ≤ 40) && clB c.v) = b2 at HV HR
  have h5 : ¬ 0 ≤ c.f ∨ (0 ≤ c.f ∧ c.f ≤ 3) ∨ (0 ≤ c.f ∧ ¬ c.f ≤ 3) := by omega
  cases b1 <;> cases b2 <;> rcases h5 with h5 | ⟨h5, h6⟩ | ⟨h5, h6⟩
  all_goals
    go_enter Try.func12, Try.ntmps12
    go_wp2_with (first | (go_at_call 30; refine (HK.out _).mono ?_; rintro e w1 ⟨rfl, q1⟩; have c1 := below_cell q1 (b := w.heap.size) (o := 1) (by simp) (by simp [go_sem]; rfl); have c2 := below_cell q1 (b := w.heap.size) (o := 2) (by simp) (by simp [go_sem]; rfl)) | (go_at_call 31; refine (HV.out _).mono ?_; rintro e w2 ⟨rfl, q2⟩; have d2 := below_cell q2 (b := w.heap.size) (o := 2) (by have := q1.size; simp at this; omega) c2))
    go_ret
    refine ⟨ret_boolx (by rw [HR.out]; simp [*] <;> omega), ?_⟩
    first
      | exact ((Below.refl w.heap.size w).alloc (Nat.le_refl _) _).trans ((q1.mono (by simp)).trans (q2.mono (by have := q1.size; simp at this; omega)))
      | exact ((Below.refl w.heap.size w).alloc (Nat.le_refl _) _).trans (q1.mono (by simp))

end Go.Proofs.Ytijmjpjclhgaoaa

namespace Go.Proofs.Ytijmjpjclhgaoaa
open Go.ChangeShapes Go.WideShapes Go.ChangeAt Go.RowKit
set_option linter.unusedVariables false

def ghN (T : Tr) : Int := if T.cap - T.most < 1 then 1 else T.cap - T.most
def numOk (n : Int) : Bool := decide (0 ≤ n ∧ n ≤ 4294967295)
structure TrOk (T : Tr) : Prop where
  c1 : 1 ≤ T.cap
  c2 : T.cap ≤ 60
  m1 : 1 ≤ T.most
  m2 : T.most ≤ T.cap
  len : ((T.sm.length + T.mn.length : Nat) : Int) ≤ T.cap
  gl : ((T.gh.length : Nat) : Int) ≤ ghN T
  ok : ∀ c ∈ T.sm ++ T.mn, itB c = true
  nd : ((T.sm ++ T.mn).map It.k).Nodup
  gn : ∀ h ∈ T.gh, numOk h = true
  gd : T.gh.Nodup
/- where the first item of a key stands -/
def KAt (L : List It) (k : ByteArray) (z : Int) : Prop := (z = -1 ∧ ∀ c ∈ L, c.k ≠ k) ∨ ∃ j : Nat, ∃ hj : j < L.length, z = j ∧ L[j].k = k ∧ ∀ i (hi : i < j), (L[i]'(by omega)).k ≠ k
theorem KAt.uniq {L : List It} {k : ByteArray} {z z' : Int} (h : KAt L k z) (h' : KAt L k z') : z = z' := by
  rcases h with ⟨rfl, h⟩ | ⟨j, hj, rfl, h1, h2⟩
  · rcases h' with ⟨rfl, -⟩ | ⟨j, hj, rfl, h1, h2⟩
    · rfl
    · exact absurd h1 (h _ (List.getElem_mem hj))
  · rcases h' with ⟨rfl, h⟩ | ⟨j', hj', rfl, h1', h2'⟩
    · exact absurd h1 (h _ (List.getElem_mem hj))
    · rcases Nat.lt_trichotomy j j' with e | rfl | e
      · exact absurd h1 (h2' j e)
      · rfl
      · exact absurd h1' (h2 j' e)
theorem nodup_of_firsts {L : List It} (h : ∀ i (hi : i < L.length), KAt L L[i].k i) : (L.map It.k).Nodup := by
  refine List.pairwise_iff_getElem.2 fun i j hi hj hij => ?_
  simp only [List.length_map] at hi hj
  simp only [List.getElem_map]
  intro e
  rcases h j hj with ⟨h1, -⟩ | ⟨q, hq, h1, h2, h3⟩
  · omega
  · obtain rfl : j = q := by omega
    exact h3 i hij e
theorem firsts_of_nodup {L : List It} (h : (L.map It.k).Nodup) (i : Nat) (hi : i < L.length) : KAt L L[i].k i := by
  refine .inr ⟨i, hi, rfl, rfl, fun j hj e => ?_⟩
  have := List.pairwise_iff_getElem.1 h j i (by simp; omega) (by simpa using hi) hj
  simp only [List.getElem_map] at this
  exact this e
theorem not_nodup_of {L : List It} {i : Nat} (hi : i < L.length) {z : Int} (hz : KAt L L[i].k z) (hne : z ≠ i) : ¬ (L.map It.k).Nodup :=
  fun h => hne (hz.uniq (firsts_of_nodup h i hi))
theorem nodup_take_step {xs : List Int} (k : Nat) (hk : k < xs.length) (h : (xs.take k).Nodup) (hn : ¬ xs[k] ∈ xs.take k) : (xs.take (k + 1)).Nodup := by
  rw [List.take_succ_eq_append_getElem hk]
  refine List.nodup_append.2 ⟨h, by simp, fun a ha b hb => ?_⟩
  simp at hb
  subst hb
  intro e
  subst e
  exact hn ha
theorem not_nodup_take {xs : List Int} (k : Nat) (hk : k < xs.length) (hn : xs[k] ∈ xs.take k) : ¬ xs.Nodup := by
  intro h
  have : (xs.take (k + 1)).Nodup := h.sublist (List.take_sublist _ _)
  rw [List.take_succ_eq_append_getElem hk] at this
  exact (List.nodup_append.1 this).2.2 _ hn _ (by simp) rfl

end Go.Proofs.Ytijmjpjclhgaoaa

namespace Go.Proofs.Ytijmjpjclhgaoaa
open Go.ChangeShapes Go.WideShapes Go.ChangeAt Go.RowKit
set_option linter.unusedVariables false

theorem at_new {W : World} {o : Obj} {k : Nat} (hk : k = W.heap.size) : (W.alloc o).heap[k]? = some o := by subst hk; exact heap_alloc_new _ _
theorem at_old {W : World} {o : Obj} {k : Nat} {x : Option Obj} (hk : k < W.heap.size) (h : W.heap[k]? = x) : (W.alloc o).heap[k]? = x := (Below.heap_alloc _ _ _ hk).trans h
theorem at_set {W : World} {p : Addr} {v : Value} {k : Nat} {x : Option Obj} (hk : k ≠ p.block) (h : W.heap[k]? = x) : (W.setCell p v).heap[k]? = x := (Below.heap_setCell _ _ _ _ hk).trans h
theorem at_drew {W : World} {k : Nat} {x : Option Obj} (h : W.heap[k]? = x) : W.drew.heap[k]? = x := h

end Go.Proofs.Ytijmjpjclhgaoaa

namespace Go.Proofs.Ytijmjpjclhgaoaa
open Go.ChangeShapes Go.WideShapes Go.ChangeAt Go.RowKit
set_option linter.unusedVariables false

def SrcS (w : World) (size : Nat) (x : Value) (m : Nat) (news : List Value) : Prop :=
  (∃ a c, x = .slice a 0 c ∧ m = 0 ∧ news = []) ∨ ∃ ad c, x = .slice (some ad) m c ∧ news.length = m * size ∧ (∀ j u, news[j]? = some u → w.cell? (ad.add j) = some u) ∧ ∀ u ∈ news, u.oneCell' = true
theorem add_none (b o j : Nat) : (⟨b, o, none⟩ : Addr).add j = ⟨b, o + j, none⟩ := by unfold Addr.add; split <;> simp_all
theorem src_ints {w : World} {v : Value} {xs : List Int} (h : IntsIn w v xs) : SrcS w 1 v xs.length (ints xs) := by
  obtain ⟨⟨a, c, rfl, h⟩, -⟩ := h
  rcases h with rfl | ⟨b, off, rfl, hb, hc⟩
  · exact .inl ⟨a, c, rfl, rfl, rfl⟩
  · refine .inr ⟨_, c, rfl, by simp, fun j u hj => ?_, ints_one xs⟩
    obtain ⟨hj1, rfl⟩ := List.getElem?_eq_some_iff.1 hj
    rw [add_none, List.getElem_map]
    exact hc j (by simpa using hj1)
section
variable {P : Program} (w : World)
theorem run_append_src (t ty : TypeId) (base : Nat) (e : TypeId) (i : TypeInfo) (z : Value) (size bytes : Nat) (ht : P.underlying t = some (.slice e)) (hi : P.info? e = some i) (hz : i.zero = some z)
    (hsize : i.size = size) (hby : i.bytes = bytes) (hzs : z.cells.size = size) (hsz : 0 < size)
    (v : Value) (n : Nat) (xs : List Value) (hown : w.ownsRow base e size v n xs) (x : Value) (m : Nat) (news : List Value) (hx : SrcS w size x m news)
    (h63 : n + m ≤ maxLen) (hbytes : (n + m) * bytes ≤ 140737488355328) (hbase : base ≤ w.heap.size) :
    ∃ v' w', (Builtin.append_ #[t, t] ty #[v, x]).run P w = .ok v' w' ∧ w'.ownsRow base e size v' (n + m) (xs ++ news) ∧ w.grownBy w' v.ownBlock ∧ (v'.ownBlock = v.ownBlock ∨ v'.ownBlock = some w.heap.size) := by
  rcases hx with ⟨a, c, rfl, rfl, rfl⟩ | ⟨ad, c, rfl, hl, hnews, h1⟩
  · obtain ⟨a', c', hv, hle⟩ : ∃ a' c', v = .slice a' n c' ∧ n ≤ c' := by
      rcases hown.2 with ⟨h1, h2⟩ | ⟨g, cap, cur, h1, -, -, h4, -⟩
      · exact ⟨none, 0, by rw [h1, h2], by omega⟩
      · exact ⟨_, cap, h1, h4⟩
    have hs : Src P i.size t (.slice a 0 c) 0 [] w := by
      cases a with
      | none => exact Src.ofNil w ht c
      | some ad => exact Src.ofSlice w ht ad 0 c [] (by simp) (fun j u h => by simp at h) (fun u h => by cases h)
    have hr := run_append_nothing w t t ty e i ht hi a' n c' hle _ hs
    rw [← hv] at hr
    exact ⟨v, w, hr, by rw [Nat.add_zero, List.append_nil]; exact hown, ⟨rfl, rfl, rfl, Nat.le_refl _, fun _ _ _ => rfl⟩, .inl rfl⟩
  · obtain ⟨v', w', hr, h2, h3, _, h5⟩ := run_append_own_at (P := P) w base t ty e i z size bytes ht hi hz hsize hby hzs hsz v n xs hown ad m c news hl hnews h1 h63 hbytes hbase
    exact ⟨v', w', hr, h2, h3, h5⟩
theorem wp_append_src {o : Oper} {a : Act} {K : Act → World → Prop} {Q : Exit → Act → World → Prop} (s x : Operand) (t : TypeId)
    (ho : o.op = .call { callee := .builtin .append, args := #[s, x], argTypes := #[t, t] })
    (base : Nat) (e : TypeId) (i : TypeInfo) (z : Value) (size bytes : Nat) (ht : P.underlying t = some (.slice e)) (hi : P.info? e = some i) (hz : i.zero = some z)
    (hsize : i.size = size) (hby : i.bytes = bytes) (hzs : z.cells.size = size) (hsz : 0 < size)
    (v : Value) (n : Nat) (xs : List Value) (hs : a.eval s = v) (hown : w.ownsRow base e size v n xs) (y : Value) (m : Nat) (news : List Value) (hy : a.eval x = y) (hx : SrcS w size y m news)
    (h63 : n + m ≤ maxLen) (hbytes : (n + m) * bytes ≤ 140737488355328) (hbase : base ≤ w.heap.size)
    (h : ∀ v' w', w'.ownsRow base e size v' (n + m) (xs ++ news) → w.grownBy w' v.ownBlock → (v'.ownBlock = v.ownBlock ∨ v'.ownBlock = some w.heap.size) → K (a.put o.dst v') w') : Oper.wp P o a w K Q := by
  obtain ⟨v', w', hr, h2, h3, h4⟩ := run_append_src (P := P) w t o.type base e i z size bytes ht hi hz hsize hby hzs hsz v n xs hown y m news hx h63 hbytes hbase
  unfold Oper.wp execOp
  simp only [ho, resolve, invoke, builtin, Sem.run_bind, Sem.run_pure, Result.andThen_ok, List.map_toArray, List.map_cons, List.map_nil, hs, hy, hr]
  exact h v' w' h2 h3 h4
theorem wpList_append_src {ops : Array Oper} {rest : List Oper} {o : Oper} {a : Act} {Q : Exit → Act → World → Prop} (hgd : o.guard = none) (s x : Operand) (t : TypeId)
    (ho : o.op = .call { callee := .builtin .append, args := #[s, x], argTypes := #[t, t] })
    (base : Nat) (e : TypeId) (i : TypeInfo) (z : Value) (size bytes : Nat) (ht : P.underlying t = some (.slice e)) (hi : P.info? e = some i) (hz : i.zero = some z)
    (hsize : i.size = size) (hby : i.bytes = bytes) (hzs : z.cells.size = size) (hsz : 0 < size)
    (v : Value) (n : Nat) (xs : List Value) (hs : a.eval s = v) (hown : w.ownsRow base e size v n xs) (y : Value) (m : Nat) (news : List Value) (hy : a.eval x = y) (hx : SrcS w size y m news)
    (h63 : n + m ≤ maxLen) (hbytes : (n + m) * bytes ≤ 140737488355328) (hbase : base ≤ w.heap.size)
    (h : ∀ v' w', w'.ownsRow base e size v' (n + m) (xs ++ news) → w.grownBy w' v.ownBlock → (v'.ownBlock = v.ownBlock ∨ v'.ownBlock = some w.heap.size) → wpList P ops Q rest (a.put o.dst v') w') : wpList P ops Q (o :: rest) a w :=
  wpList_plain hgd fun _ hK => wp_append_src w s x t ho base e i z size bytes ht hi hz hsize hby hzs hsz v n xs hs hown y m news hy hx h63 hbytes hbase fun v' w' h2 h3 h4 => hK _ _ (h v' w' h2 h3 h4)
theorem step_append_src {ops : Array Oper} {o : Oper} {a : Act} {K : Act → World → Prop} {Q : Exit → Act → World → Prop} {E : Prop} (hgd : o.guard = none) (s x : Operand) (t : TypeId)
    (ho : o.op = .call { callee := .builtin .append, args := #[s, x], argTypes := #[t, t] })
    (base : Nat) (e : TypeId) (i : TypeInfo) (z : Value) (size bytes : Nat) (ht : P.underlying t = some (.slice e)) (hi : P.info? e = some i) (hz : i.zero = some z)
    (hsize : i.size = size) (hby : i.bytes = bytes) (hzs : z.cells.size = size) (hsz : 0 < size)
    (v : Value) (n : Nat) (xs : List Value) (hs : a.eval s = v) (hown : w.ownsRow base e size v n xs) (y : Value) (m : Nat) (news : List Value) (hy : a.eval x = y) (hx : SrcS w size y m news)
    (h63 : n + m ≤ maxLen) (hbytes : (n + m) * bytes ≤ 140737488355328) (hbase : base ≤ w.heap.size)
    (h : ∀ v' w', w'.ownsRow base e size v' (n + m) (xs ++ news) → w.grownBy w' v.ownBlock → (v'.ownBlock = v.ownBlock ∨ v'.ownBlock = some w.heap.size) → K (a.put o.dst v') w') : if Region.wanted o (yielded ops a.tmps) = true then Oper.wp P o a w K Q else E := by
  have hw : Region.wanted o (yielded ops a.tmps) = true := by simp [Region.wanted, hgd]
  rw [if_pos hw]
  exact wp_append_src w s x t ho base e i z size bytes ht hi hz hsize hby hzs hsz v n xs hs hown y m news hy hx h63 hbytes hbase h
end
/- an owned row, cut to nothing -/
theorem own_cut {w : World} {base : Nat} {e : TypeId} {size g n cap : Nat} {xs : List Value} (h : w.ownsRow base e size (.slice (some ⟨g, 0, none⟩) n cap) n xs) : w.ownsRow base e size (.slice (some ⟨g, 0, none⟩) 0 cap) 0 [] := by
  rcases h.2 with ⟨h1, -⟩ | ⟨g', cap', cur, h1, h2, h3, h4, h5, h6, h7⟩
  · cases h1
  · simp at h1
    obtain ⟨rfl, rfl⟩ := h1
    exact ⟨by simp, .inr ⟨_, _, cur, rfl, h2, h3, Nat.zero_le _, h5, h6, by simp⟩⟩
theorem own_nil (w : World) (base : Nat) (e : TypeId) (size : Nat) : w.ownsRow base e size (.slice none 0 0) 0 [] := ⟨by simp, .inl ⟨rfl, rfl⟩⟩
theorem IntsIn.tail {w : World} {b off n c : Nat} {x : Int} {xs : List Int} (h : IntsIn w (.slice (some ⟨b, off, none⟩) n c) (x :: xs)) (c' : Nat) : IntsIn w (.slice (some ⟨b, off + 1, none⟩) xs.length c') xs := by
  obtain ⟨⟨a, c2, hv, h⟩, -⟩ := h
  simp at hv
  obtain ⟨rfl, rfl, rfl⟩ := hv
  rcases h with h | ⟨b', off', hb, h1, h2⟩
  · cases h
  · simp at hb
    obtain ⟨rfl, rfl⟩ := hb
    refine ⟨⟨_, c', rfl, .inr ⟨b, off + 1, rfl, h1, fun j hj => ?_⟩⟩, _, c', rfl, trivial⟩
    have := h2 (j + 1) (by simpa using hj)
    rw [show off + 1 + j = off + (j + 1) by omega, this]
    simp
theorem IntsIn.none (w : World) (a : Option Addr) (c : Nat) : IntsIn w (.slice a 0 c) [] := ⟨⟨a, c, rfl, .inl rfl⟩, a, c, rfl, trivial⟩
theorem own_form {w : World} {base : Nat} {e : TypeId} {v : Value} {n size : Nat} {xs : List Value} (h : w.ownsRow base e size v n xs) : ∃ a c, v = .slice a n c := by
  rcases own_cells2 h with ⟨h1, h2, -⟩ | ⟨g, cc, h1, -⟩
  · exact ⟨none, 0, by rw [h1, h2]⟩
  · exact ⟨_, cc, h1⟩
theorem own_form3 {w : World} {base : Nat} {e : TypeId} {v : Value} {n size : Nat} {xs : List Value} (h : w.ownsRow base e size v n xs) : ∃ a m c, v = .slice a m c := by
  obtain ⟨a, c, h⟩ := own_form h
  exact ⟨a, n, c, h⟩

end Go.Proofs.Ytijmjpjclhgaoaa

namespace Go.Proofs.Ytijmjpjclhgaoaa
open Go.ChangeShapes Go.WideShapes Go.ChangeAt Go.RowKit
set_option linter.unusedVariables false

theorem ints_of_owns {w w' : World} {base : Nat} {e : TypeId} {v : Value} {n : Nat} {xs : List Int} (h : w'.ownsRow base e 1 v n (ints xs)) (hb : w.heap.size ≤ base) (hw : Below w.heap.size w w') : IntsNew w w' v xs := by
  rcases own_cells h with ⟨rfl, hn, hx⟩ | ⟨g, cap, rfl, h1, h2, h3, h4, h5, h6, h7⟩
  · have : xs = [] := by simpa using hx
    subst this
    exact ⟨[], ⟨none, 0, rfl, trivial, .inl ⟨rfl, rfl⟩⟩, List.nodup_nil, by simp, hw⟩
  · rw [ints_len] at h5
    refine ⟨[g], ⟨_, cap, by rw [h5], trivial, .inr ⟨g, rfl, rfl, h2, fun j hj => ?_, h7⟩⟩, by simp, by simp; omega, hw⟩
    rw [h6 j (by simpa using hj)]
    simp

end Go.Proofs.Ytijmjpjclhgaoaa

namespace Go.Proofs.Ytijmjpjclhgaoaa
open Go.ChangeShapes Go.WideShapes Go.ChangeAt Go.RowKit
set_option linter.unusedVariables false

def three (c : It) : List Value := [.string c.k, .string c.v, .int .i64 c.f]
def threes (L : List It) : List Value := L.flatMap three
theorem threes_app (L M : List It) : threes (L ++ M) = threes L ++ threes M := by simp [threes]
theorem threes_one (c : It) : threes [c] = three c := by simp [threes]
theorem threes_nil : threes [] = [] := rfl
theorem threes_cons (c : It) (L : List It) : threes (c :: L) = three c ++ threes L := rfl
theorem three_len (c : It) : (three c).length = 3 := rfl
theorem threes_len (L : List It) : (threes L).length = L.length * 3 := by
  induction L with
  | nil => rfl
  | cons c L ih => rw [threes_cons, List.length_append, ih, three_len, List.length_cons]; omega
theorem threes_at (L : List It) (j : Nat) (hj : j < L.length) (i : Nat) (hi : i < 3) : (threes L)[j * 3 + i]? = (three L[j])[i]? := by
  induction L generalizing j with
  | nil => simp at hj
  | cons c L ih =>
    cases j with
    | zero => rw [threes_cons, List.getElem?_append_left (by rw [three_len]; omega)]; simp
    | succ j =>
      rw [threes_cons, List.getElem?_append_right (by rw [three_len]; omega), three_len, show (j + 1) * 3 + i - 3 = j * 3 + i by omega, ih j (by simpa using hj)]
      simp
theorem three_oneCell (c : It) : ∀ u ∈ three c, u.oneCell' = true := by
  intro u hu; simp [three] at hu; rcases hu with rfl | rfl | rfl <;> rfl
theorem threes_oneCell (L : List It) : ∀ u ∈ threes L, u.oneCell' = true := by
  intro u hu; obtain ⟨c, _, hc⟩ := List.mem_flatMap.1 hu; exact three_oneCell c u hc
theorem item_of_cells {W : World} {g o : Nat} {c : It} (h : ∀ i, i < 3 → W.cell? ⟨g, o + i, none⟩ = (three c)[i]?) : ItemAt W g o c :=
  ⟨h 0 (by omega), h 1 (by omega), h 2 (by omega)⟩
theorem cells_of_item {W : World} {g o : Nat} {c : It} (h : ItemAt W g o c) : ∀ i, i < 3 → W.cell? ⟨g, o + i, none⟩ = (three c)[i]? := by
  obtain ⟨h0, h1, h2⟩ := h
  intro i hi
  match i, hi with
  | 0, _ => exact h0
  | 1, _ => exact h1
  | 2, _ => exact h2
theorem items_cells {w : World} {g : Nat} {L : List It} (h6 : ∀ j (hj : j < (threes L).length), w.cell? ⟨g, j, none⟩ = some (threes L)[j]) (j : Nat) (hj : j < L.length) : ItemAt w g (j * 3) L[j] :=
  item_of_cells fun i hi => by
    have hl := threes_len L
    rw [h6 (j * 3 + i) (by omega), ← List.getElem?_eq_getElem, threes_at L j hj i hi]
theorem items_of_owns {w w' : World} {base : Nat} {e : TypeId} {v : Value} {n : Nat} {L : List It} (h : w'.ownsRow base e 3 v n (threes L)) (hb : w.heap.size ≤ base) (hw : Below w.heap.size w w') : ItemsNew w w' v L := by
  have hl := threes_len L
  rcases own_cells2 h with ⟨rfl, hn, hx⟩ | ⟨g, cap, rfl, h1, h2, h3, h4, h5, h6, h7⟩
  · have : L = [] := by
      cases L with
      | nil => rfl
      | cons c L => rw [threes_cons] at hx; simp [three] at hx
    subst this
    exact ⟨[], ⟨none, 0, rfl, Nat.le_refl _, .inl ⟨rfl, rfl⟩⟩, List.nodup_nil, by simp, hw⟩
  · have hn : n = L.length := by omega
    subst hn
    exact ⟨[g], ⟨_, cap, rfl, h3, .inr ⟨g, rfl, rfl, h2, fun j hj => items_cells h6 j hj, h7⟩⟩, by simp, by simp; omega, hw⟩
theorem src_items {w : World} {v : Value} {L : List It} (h : ItemsIn w v L) : SrcS w 3 v L.length (threes L) := by
  obtain ⟨a, c, rfl, hc, h⟩ := h
  rcases h with rfl | ⟨b, off, rfl, hb, hc⟩
  · exact .inl ⟨a, c, rfl, rfl, rfl⟩
  · refine .inr ⟨_, c, rfl, threes_len L, fun j u hj => ?_, threes_oneCell L⟩
    obtain ⟨hj1, rfl⟩ := List.getElem?_eq_some_iff.1 hj
    rw [add_none]
    have hl := threes_len L
    have e : j = (j / 3) * 3 + j % 3 := by omega
    have := cells_of_item (hc (j / 3) (by omega)) (j % 3) (by omega)
    rw [Nat.add_assoc, ← e, ← threes_at L (j / 3) (by omega) (j % 3) (by omega), ← e] at this
    rw [this]
    exact hj
theorem bl_al {W0 W : World} (h : Below W0.heap.size W0 W) (o : Obj) : Below W0.heap.size W0 (W.alloc o) := h.alloc h.size o
theorem bl_call {W0 W Y : World} (h : Below W0.heap.size W0 W) (k : Below W.heap.size W Y) : Below W0.heap.size W0 Y := h.trans (k.mono h.size)
theorem bl_two {w W0 W : World} (h : Below w.heap.size w W0) (k : Below W0.heap.size W0 W) : Below w.heap.size w W := h.trans (k.mono h.size)
theorem bl_grown {W0 W Y : World} {q : Option Nat} (h : Below W0.heap.size W0 W) (g : W.grownBy Y q) (hq : ∀ j, q = some j → W0.heap.size ≤ j) : Below W0.heap.size W0 Y := h.grown g h.size hq
theorem ow_of_block {W : World} {lo g n cap size : Nat} {e : TypeId} {cur : Array Value} {xs : List Value} (hg : W.heap[g]? = some (.cells cur e (0, 0))) (hl : lo ≤ g) (hn : n ≤ cap) (hc : cap ≤ maxLen) (hs : cur.size = cap * size) (hx : xs.length = n * size) (ht : cur.toList.take (n * size) = xs) :
    W.ownsRow lo e size (.slice (some ⟨g, 0, none⟩) n cap) n xs := ⟨hx, .inr ⟨g, cap, cur, rfl, hl, hg, hn, hc, hs, ht⟩⟩
theorem ow_empty {W : World} {lo g : Nat} {e : TypeId} {size : Nat} (hg : W.heap[g]? = some (.cells #[] e (0, 0))) (hl : lo ≤ g) : W.ownsRow lo e size (.slice (some ⟨g, 0, none⟩) 0 0) 0 [] := ow_of_block hg hl (Nat.le_refl _) (by unfold maxLen; omega) (by simp) (by simp) (by simp)
theorem ow_new {W : World} {lo g : Nat} {e : TypeId} {size : Nat} (hg : g = W.heap.size) (hl : lo ≤ g) : (W.alloc (.cells #[] e)).ownsRow lo e size (.slice (some ⟨g, 0, none⟩) 0 0) 0 [] := ow_empty (at_new hg) hl
theorem ow_new_drew {W : World} {lo g : Nat} {e : TypeId} {size : Nat} (hg : g = W.heap.size) (hl : lo ≤ g) : (W.alloc (.cells #[] e)).drew.ownsRow lo e size (.slice (some ⟨g, 0, none⟩) 0 0) 0 [] := ow_empty (at_drew (at_new hg)) hl
theorem step_items {w : World} {ops : Array Oper} {o : Oper} {a : Act} {K : Act → World → Prop} {Q : Exit → Act → World → Prop} {E : Prop} (hgd : o.guard = none) (s x : Operand)
    (ho : o.op = .call { callee := .builtin .append, args := #[s, x], argTypes := #[35, 35] }) (base : Nat) (v : Value) (xs : List It) (hs : a.eval s = v) (hown : w.ownsRow base 26 3 v xs.length (threes xs))
    (y : Value) (ys : List It) (hy : a.eval x = y) (hx : ItemsIn w y ys) (h63 : xs.length + ys.length ≤ 16777216) (hbase : base ≤ w.heap.size)
    (h : ∀ v' w', w'.ownsRow base 26 3 v' (xs ++ ys).length (threes (xs ++ ys)) → w.grownBy w' v.ownBlock → (v'.ownBlock = v.ownBlock ∨ v'.ownBlock = some w.heap.size) → K (a.put o.dst v') w') : if Region.wanted o (yielded ops a.tmps) = true then Oper.wp Try.prog o a w K Q else E := by
  obtain ⟨i0, hi0, hz0, hz1, hz2⟩ := info_parts infoItem
  refine step_append_src w hgd s x 35 ho base 26 i0 (.agg #[.string itemZero.k, .string itemZero.v, .int .i64 itemZero.f]) 3 40 Try.underlying35 hi0 hz0 hz1 hz2 rfl (by decide) v xs.length (threes xs) hs hown y ys.length (threes ys) hy (src_items hx) (by unfold maxLen; omega) (by omega) hbase ?_
  intro v' w' h1 h2 h3
  exact h v' w' (by rw [List.length_append, threes_app]; exact h1) h2 h3

end Go.Proofs.Ytijmjpjclhgaoaa

namespace Go.Proofs.Ytijmjpjclhgaoaa
open Go.ChangeShapes Go.WideShapes Go.ChangeAt Go.RowKit
set_option linter.unusedVariables false

def stGo (xs : List Int) (n : Int) : Nat → Int → List Int → List Int
  | 0, _, _ => []
  | f + 1, i, out => if i = 0 then out else if (1 ≤ i ∧ i ≤ n) ∧ ¬ (i - 1) ∈ out then stGo xs n f (xs.getD i.toNat 0) (out ++ [i - 1]) else []
def stItems (n : Int) (xs : List Int) : List Int :=
  if szB n = true ∧ (xs.length : Int) = 1 + n then (if unB (xs.getD 0 0) = true then stGo xs n (n.toNat + 1) (unI (xs.getD 0 0)) [] else []) else []
theorem stGo_end (xs : List Int) (n : Int) (f : Nat) (out : List Int) : stGo xs n (f + 1) 0 out = out := by rw [stGo, if_pos rfl]
theorem stGo_step (xs : List Int) (n : Int) (f : Nat) (i : Int) (out : List Int) (h0 : i ≠ 0) (h : (1 ≤ i ∧ i ≤ n) ∧ ¬ (i - 1) ∈ out) : stGo xs n (f + 1) i out = stGo xs n f (xs.getD i.toNat 0) (out ++ [i - 1]) := by rw [stGo, if_neg h0, if_pos h]
theorem stGo_bad (xs : List Int) (n : Int) (f : Nat) (i : Int) (out : List Int) (h0 : i ≠ 0) (h : ¬ ((1 ≤ i ∧ i ≤ n) ∧ ¬ (i - 1) ∈ out)) : stGo xs n (f + 1) i out = [] := by rw [stGo, if_neg h0, if_neg h]
theorem stGo_len (xs : List Int) (n : Int) (f : Nat) : ∀ (i : Int) (out : List Int), (stGo xs n f i out).length ≤ out.length + f := by
  induction f with
  | zero => intro i out; simp [stGo]
  | succ f ih =>
    intro i out
    by_cases h0 : i = 0
    · subst h0; rw [stGo_end]; omega
    · by_cases h : (1 ≤ i ∧ i ≤ n) ∧ ¬ (i - 1) ∈ out
      · rw [stGo_step xs n f i out h0 h]
        have := ih (xs.getD i.toNat 0) (out ++ [i - 1])
        simp at this ⊢
        omega
      · rw [stGo_bad xs n f i out h0 h]; simp
theorem stItems_len (n : Int) (xs : List Int) : (stItems n xs).length ≤ 17 := by
  unfold stItems
  by_cases h : szB n = true ∧ (xs.length : Int) = 1 + n
  · rw [if_pos h]
    have hb : 1 ≤ n ∧ n ≤ 16 := of_decide_eq_true h.1
    split
    · have := stGo_len xs n (n.toNat + 1) (unI (xs.getD 0 0)) []
      simp at this ⊢
      omega
    · simp
  · rw [if_neg h]; simp
theorem few (n : Nat) : ∀ l : List Int, l.Nodup → (∀ x ∈ l, 0 ≤ x ∧ x < (n : Int)) → l.length ≤ n := by
  induction n with
  | zero =>
    intro l _ h
    cases l with
    | nil => simp
    | cons a t => have := h a (by simp); omega
  | succ n ih =>
    intro l hd h
    by_cases hm : (n : Int) ∈ l
    · have h1 := ih (l.erase (n : Int)) (hd.erase _) (fun x hx => by
        have hx' := (List.Nodup.mem_erase_iff hd).1 hx
        have := h x hx'.2
        omega)
      have h2 := List.length_erase_of_mem hm
      omega
    · have := ih l hd (fun x hx => by
        have h1 := h x hx
        have : x ≠ (n : Int) := fun e => hm (e ▸ hx)
        omega)
      omega
def hasN (xs : List Int) (y : Int) : Bool := decide (y ∈ xs)
def sliceLen (v : Value) : Nat := match v with | .slice _ n _ => n | _ => 0

end Go.Proofs.Ytijmjpjclhgaoaa

namespace Go.Proofs.Ytijmjpjclhgaoaa
open Go.ChangeShapes Go.WideShapes Go.ChangeAt Go.RowKit
set_option linter.unusedVariables false

def inB (x lo hi : Int) : Bool := decide (lo ≤ x ∧ x ≤ hi)
theorem spec_in (x lo hi : Int) (w : World) :
    Calls Try.prog 29 #[.int .i64 x, .int .i64 lo, .int .i64 hi] w fun e w' => e = .returned (.bool (inB x lo hi)) ∧ w' = w := by
  by_cases h1 : lo ≤ x
  · by_cases h2 : x ≤ hi
    · have hb : inB x lo hi = true := decide_eq_true ⟨h1, h2⟩
      rw [hb]
      clear hb
      go_enter Try.func29, Try.ntmps29
      go_wp2
      go_ret
      simp
    · have hb : inB x lo hi = false := decide_eq_false (by omega)
      rw [hb]
      clear hb
      go_enter Try.func29, Try.ntmps29
      go_wp2
      go_ret
      simp
  · have hb : inB x lo hi = false := decide_eq_false (by omega)
    rw [hb]
    clear hb
    go_enter Try.func29, Try.ntmps29
    go_wp2
    go_ret
    exact ⟨rfl, rfl⟩

end Go.Proofs.Ytijmjpjclhgaoaa

namespace Go.Proofs.Ytijmjpjclhgaoaa
open Go.ChangeShapes Go.WideShapes Go.ChangeAt Go.RowKit
set_option linter.unusedVariables false

theorem Row.ofSome {w : World} {lo hi : Nat} {v : Value} {xs : List Int} (h : Row w lo hi v (ints xs)) (h0 : 0 < xs.length) :
    ∃ g c, v = .slice (some ⟨g, 0, none⟩) xs.length c ∧ lo ≤ g ∧ g < hi ∧ (∀ j (hj : j < xs.length), w.cell? ⟨g, j, none⟩ = some (.int .i64 xs[j])) ∧ ∀ j, w.frozen? ⟨g, j, none⟩ = false := by
  obtain ⟨a, c, rfl, q⟩ := h
  rcases q with q | ⟨g, rfl, h1, h2, h3, h4⟩
  · have : xs = [] := by simpa using q
    subst this; simp at h0
  · exact ⟨g, c, by rw [ints_len], h1, h2, fun j hj => by have := h3 j (by simpa using hj); rw [List.getElem_map] at this; exact this, h4⟩
theorem Row.ofCells {w : World} {lo hi g c : Nat} {xs : List Int} (h1 : lo ≤ g) (h2 : g < hi) (h3 : ∀ j (hj : j < xs.length), w.cell? ⟨g, j, none⟩ = some (.int .i64 xs[j])) (h4 : ∀ j, w.frozen? ⟨g, j, none⟩ = false) :
    Row w lo hi (.slice (some ⟨g, 0, none⟩) xs.length c) (ints xs) :=
  ⟨_, c, by rw [ints_len], .inr ⟨g, rfl, h1, h2, fun j hj => by rw [List.getElem_map]; exact h3 j (by simpa using hj), h4⟩⟩
theorem Row.put {w : World} {lo hi g n c : Nat} {xs : List Int} (h : Row w lo hi (.slice (some ⟨g, 0, none⟩) n c) (ints xs)) (i : Nat) (hi' : i < xs.length) (y : Int) :
    Row (w.setCell ⟨g, i, none⟩ (.int .i64 y)) lo hi (.slice (some ⟨g, 0, none⟩) n c) (ints (xs.set i y)) := by
  obtain ⟨g', c', e, h1, h2, h3, h4⟩ := h.ofSome (by omega)
  simp at e
  obtain ⟨rfl, rfl, rfl⟩ := e
  have := Row.ofCells (w := w.setCell ⟨g, i, none⟩ (.int .i64 y)) (c := c) (xs := xs.set i y) h1 h2 (fun j hj => by
    by_cases ej : j = i
    · subst ej
      rw [World.cell?_setCell_same _ _ _ (h3 j hi')]; simp
    · rw [World.cell?_setCell_other _ _ _ _ (by simp <;> omega), h3 j (by simpa using hj), List.getElem_set_ne (by omega)]) (fun j => by rw [World.frozen?_setCell]; exact h4 j)
  rwa [List.length_set] at this

end Go.Proofs.Ytijmjpjclhgaoaa

namespace Go.Proofs.Ytijmjpjclhgaoaa
open Go.ChangeShapes Go.WideShapes Go.ChangeAt Go.RowKit
set_option linter.unusedVariables false

theorem spec_has_zero (a : Option Addr) (c : Nat) (y : Int) (w : World) :
    Calls Try.prog 37 #[.slice a 0 c, .int .i64 y] w fun e w' => e = .returned (.bool false) ∧ w' = w := by
  go_enter Try.func37, Try.ntmps37
  go_wp2
  go_loop [9] (fun i => i = .int .i64 0) (fun _ => 0)
  case atStart => rfl
  case round =>
    subst hrel
    go_wp2
    go_ret
    exact ⟨rfl, rfl⟩
theorem take_hit {xs : List Int} {y : Int} {k : Nat} (hk : k < xs.length) (h : xs[k] = y) : hasN xs y = true := decide_eq_true (h ▸ List.getElem_mem hk)
theorem take_end {xs : List Int} {y : Int} {k : Nat} (hk : ¬ k < xs.length) (h : ¬ y ∈ xs.take k) : hasN xs y = false := by
  rw [List.take_of_length_le (by omega)] at h
  exact decide_eq_false h
theorem take_miss {xs : List Int} {y : Int} {k : Nat} (hk : k < xs.length) (h : ¬ xs[k] = y) (h2 : ¬ y ∈ xs.take k) : ¬ y ∈ xs.take (k + 1) := by
  rw [List.take_succ_eq_append_getElem hk]
  simp only [List.mem_append, List.mem_singleton]
  rintro (h3 | h3)
  · exact h2 h3
  · exact h h3.symm
set_option maxHeartbeats 400000 in
set_option maxRecDepth 100000 in
theorem spec_has_some (g c : Nat) (xs : List Int) (y : Int) (w : World) (hn : xs.length ≤ 4194304) (hA : ∀ j (hj : j < xs.length), w.cell? ⟨g, j, none⟩ = some (.int .i64 xs[j])) :
    Calls Try.prog 37 #[.slice (some ⟨g, 0, none⟩) xs.length c, .int .i64 y] w fun e w' => e = .returned (.bool (hasN xs y)) ∧ w' = w := by
  have HA := hidIt hA
  clear hA
  go_enter Try.func37, Try.ntmps37
  go_wp2
  go_loop [6, 9] (fun _ i => ∃ k : Nat, k ≤ xs.length ∧ i = .int .i64 k ∧ Hid (¬ y ∈ xs.take k)) (fun _ i => xs.length - (intOf i).toNat)
  case atStart => exact ⟨0, Nat.zero_le _, rfl, by show ¬ y ∈ xs.take 0; simp⟩
  case round =>
    obtain ⟨k, hk, rfl, HT⟩ := hrel
    by_cases hlt : k < xs.length
    · have cA := HA.out k hlt
      have hlt' : (k : Int) < (xs.length : Int) := by omega
      obtain ⟨x, hx⟩ : ∃ x, xs[k] = x := ⟨_, rfl⟩
      rw [hx] at cA
      have HX := hidIt hx
      clear hx
      by_cases he : x = y
      · have HE := hidIt he
        have hb : (x == y) = true := by simpa using he
        clear he
        go_wp2
        go_ret
        exact ⟨ret_boolx (take_hit hlt (HX.out.trans HE.out)).symm, rfl⟩
      · have HE := hidIt he
        have hb : (x == y) = false := by simpa using he
        clear he
        go_wp2
        go_round
        case rel => exact ⟨k + 1, by omega, by go_num, take_miss hlt (by rw [HX.out]; exact HE.out) HT.out⟩
        case measure => simp [intOf]; omega
    · go_wp2
      go_ret
      exact ⟨ret_boolx (take_end hlt HT.out).symm, rfl⟩
theorem spec_has (lo hi : Nat) (v : Value) (xs : List Int) (y : Int) (w : World) (hn : xs.length ≤ 4194304) (r : Row w lo hi v (ints xs)) :
    Calls Try.prog 37 #[v, .int .i64 y] w fun e w' => e = .returned (.bool (hasN xs y)) ∧ w' = w := by
  by_cases h0 : 0 < xs.length
  · obtain ⟨g, c, rfl, -, -, g3, -⟩ := r.ofSome h0
    exact spec_has_some g c xs y w hn g3
  · obtain rfl : xs = [] := List.length_eq_zero_iff.1 (by omega)
    obtain ⟨a, c, rfl⟩ := r.form
    exact spec_has_zero a c y w

end Go.Proofs.Ytijmjpjclhgaoaa

namespace Go.Proofs.Ytijmjpjclhgaoaa
open Go.ChangeShapes Go.WideShapes Go.ChangeAt Go.RowKit
set_option linter.unusedVariables false

theorem spec_hasR (v : Value) (xs : List Int) (y : Int) (w : World) (hn : xs.length ≤ 4194304) (h : IntsIn w v xs) :
    Calls Try.prog 37 #[v, .int .i64 y] w fun e w' => e = .returned (.bool (hasN xs y)) ∧ w' = w := by
  obtain ⟨⟨a, c, rfl, h⟩, -⟩ := h
  rcases h with rfl | ⟨b, off, rfl, hb, hc⟩
  · exact spec_has_zero a c y w
  have HA := hidIt hc
  clear hc
  go_enter Try.func37, Try.ntmps37
  go_wp2
  go_loop [6, 9] (fun _ i => ∃ k : Nat, k ≤ xs.length ∧ i = .int .i64 k ∧ Hid (¬ y ∈ xs.take k)) (fun _ i => xs.length - (intOf i).toNat)
  case atStart => exact ⟨0, Nat.zero_le _, rfl, by show ¬ y ∈ xs.take 0; simp⟩
  case round =>
    obtain ⟨k, hk, rfl, HT⟩ := hrel
    by_cases hlt : k < xs.length
    · have cA := HA.out k hlt
      have hlt' : (k : Int) < (xs.length : Int) := by omega
      obtain ⟨x, hx⟩ : ∃ x, xs[k] = x := ⟨_, rfl⟩
      rw [hx] at cA
      have HX := hidIt hx
      clear hx
      by_cases he : x = y
      · have HE := hidIt he
        have hb : (x == y) = true := by simpa using he
        clear he
        go_wp2
        go_ret
        exact ⟨ret_boolx (take_hit hlt (HX.out.trans HE.out)).symm, rfl⟩
      · have HE := hidIt he
        have hb : (x == y) = false := by simpa using he
        clear he
        go_wp2
        go_round
        case rel => exact ⟨k + 1, by omega, by go_num, take_miss hlt (by rw [HX.out]; exact HE.out) HT.out⟩
        case measure => simp [intOf]; omega
    · go_wp2
      go_ret
      exact ⟨ret_boolx (take_end hlt HT.out).symm, rfl⟩

end Go.Proofs.Ytijmjpjclhgaoaa

namespace Go.Proofs.Ytijmjpjclhgaoaa
open Go.ChangeShapes Go.WideShapes Go.ChangeAt Go.RowKit
set_option linter.unusedVariables false

def nodeB (L : List (Int × Int)) (x : Int) : Bool := L.any (fun p => decide (p.1 = x))
def placeN (x : Int) : List (Int × Int) → Nat
  | [] => 0
  | p :: L => if p.1 = x then 0 else placeN x L + 1
def goneAt (L : List (Int × Int)) (k : Nat) : Int × Int := L.getD k (0, 0)
theorem goneAt_eq (L : List (Int × Int)) (k : Nat) (h : k < L.length) : L[k] = goneAt L k := by simp [goneAt, h]
theorem nodeB_take_succ (L : List (Int × Int)) (k : Nat) (x : Int) (h : k < L.length) : nodeB (L.take (k + 1)) x = (nodeB (L.take k) x || decide ((goneAt L k).1 = x)) := by
  rw [← goneAt_eq L k h, List.take_succ_eq_append_getElem h]
  simp only [nodeB, List.any_append, List.any_cons, List.any_nil, Bool.or_false]
theorem nodeB_hit (L : List (Int × Int)) (k : Nat) (x : Int) (h : k < L.length) (e : (goneAt L k).1 = x) : nodeB L x = true := by
  rw [nodeB, List.any_eq_true]
  exact ⟨L[k], List.getElem_mem h, by simp [goneAt_eq L k h, e]⟩
theorem nodeB_false (L : List (Int × Int)) (x : Int) (h : ∀ j, j < L.length → (goneAt L j).1 ≠ x) : nodeB L x = false := by
  rw [nodeB, List.any_eq_false]
  intro p hp
  obtain ⟨j, hj, rfl⟩ := List.mem_iff_getElem.1 hp
  have := h j hj
  rw [← goneAt_eq L j hj] at this
  simpa using this
theorem placeN_eq (L : List (Int × Int)) (k : Nat) (x : Int) (h : k < L.length) (e : (goneAt L k).1 = x) (hf : ∀ j, j < k → (goneAt L j).1 ≠ x) : placeN x L = k := by
  induction L generalizing k with
  | nil => simp at h
  | cons p L ih =>
    cases k with
    | zero =>
      have : p.1 = x := by simpa [goneAt] using e
      simp [placeN, this]
    | succ k =>
      have h0 : p.1 ≠ x := by simpa [goneAt] using hf 0 (by omega)
      rw [placeN, if_neg h0, ih k (by simpa using h) (by simpa [goneAt] using e) (fun j hj => by simpa [goneAt] using hf (j + 1) (by omega))]
def placeI (L : List (Int × Int)) (x : Int) : Int := if nodeB L x = true then (placeN x L : Int) else 0
theorem placeI_hit (L : List (Int × Int)) (k : Nat) (x : Int) (h : k < L.length) (e : (goneAt L k).1 = x) (hf : ∀ j, j < k → (goneAt L j).1 ≠ x) : placeI L x = k := by
  rw [placeI, if_pos (nodeB_hit L k x h e), placeN_eq L k x h e hf]
theorem placeI_miss (L : List (Int × Int)) (x : Int) (h : ∀ j, j < L.length → (goneAt L j).1 ≠ x) : placeI L x = 0 := by
  rw [placeI, if_neg (by simp [nodeB_false L x h])]
theorem nodeB_place (L : List (Int × Int)) (x : Int) (h : nodeB L x = true) : placeN x L < L.length ∧ (goneAt L (placeN x L)).1 = x := by
  induction L with
  | nil => simp [nodeB] at h
  | cons p L ih =>
    by_cases e : p.1 = x
    · simp [placeN, e, goneAt]
    · have h' : nodeB L x = true := by simpa [nodeB, e] using h
      have := ih h'
      rw [placeN, if_neg e]
      refine ⟨by simp; omega, by simpa [goneAt] using this.2⟩
def lastAt (L : List (Int × Int)) : Nat → Int
  | 0 => 0
  | k + 1 => (goneAt L k).2
def stepB (a : Int) (L : List (Int × Int)) (k : Nat) : Bool := decide (lastAt L k ≤ (goneAt L k).2) && decide ((goneAt L k).2 ≤ a) && !nodeB (L.take k) (goneAt L k).1
def limB (a : Int) (L : List (Int × Int)) : Nat → Bool
  | 0 => true
  | k + 1 => limB a L k && stepB a L k
theorem limB_last (a : Int) (L : List (Int × Int)) (k : Nat) (h : limB a L k = true) : 0 ≤ lastAt L k := by
  induction k with
  | zero => simp [lastAt]
  | succ k ih =>
    simp only [limB, Bool.and_eq_true] at h
    have h1 := ih h.1
    simp only [stepB, Bool.and_eq_true, decide_eq_true_eq] at h
    simp only [lastAt]
    omega
theorem limB_stop (a : Int) (L : List (Int × Int)) (k m : Nat) (h : stepB a L k = false) (hm : k < m) : limB a L m = false := by
  induction m with
  | zero => omega
  | succ m ih =>
    by_cases e : k = m
    · subst e; simp [limB, h]
    · simp [limB, ih (by omega)]
def pinB (a p : Int) : Bool := decide (p = -1) || decide (p = a) || decide (p = a - 1)
def okB (a : Int) (ps : List Int) (L : List (Int × Int)) : Bool :=
  decide (0 ≤ a ∧ a ≤ 4294967295) && decide (1 ≤ ps.length ∧ ps.length ≤ 8) && ps.all (pinB a) && (decide (L.length ≤ 100) && limB a L L.length)
theorem okB_len {a : Int} {ps : List Int} {L : List (Int × Int)} (h : okB a ps L = true) : 0 ≤ a ∧ a ≤ 4294967295 ∧ 1 ≤ ps.length ∧ ps.length ≤ 8 ∧ L.length ≤ 100 ∧ (∀ p ∈ ps, p = -1 ∨ p = a ∨ p = a - 1) ∧ limB a L L.length = true := by
  simp only [okB, Bool.and_eq_true, decide_eq_true_eq, List.all_eq_true] at h
  obtain ⟨⟨⟨h1, h2⟩, h3⟩, h4, h5⟩ := h
  refine ⟨h1.1, h1.2, h2.1, h2.2, h4, fun p hp => ?_, h5⟩
  have := h3 p hp
  simp [pinB] at this
  omega

end Go.Proofs.Ytijmjpjclhgaoaa

namespace Go.Proofs.Ytijmjpjclhgaoaa
open Go.ChangeShapes Go.WideShapes Go.ChangeAt Go.RowKit
set_option linter.unusedVariables false

theorem impl_isnum (n : Int) (w : World) :
    Calls Try.prog 43 #[.int .i64 n] w fun e w' => e = .returned (.bool (decide (0 ≤ n ∧ n ≤ 4294967295))) ∧ w' = w := by
  by_cases h0 : 0 ≤ n
  · by_cases h1 : n ≤ 4294967295
    · have e : decide (0 ≤ n ∧ n ≤ 4294967295) = true := decide_eq_true ⟨h0, h1⟩
      rw [e]
      go_enter Try.func43, Try.ntmps43
      go_wp2
      go_ret
      exact ⟨rfl, rfl⟩
    · have e : decide (0 ≤ n ∧ n ≤ 4294967295) = false := decide_eq_false (by omega)
      rw [e]
      go_enter Try.func43, Try.ntmps43
      go_wp2
      go_ret
      exact ⟨rfl, rfl⟩
  · have e : decide (0 ≤ n ∧ n ≤ 4294967295) = false := decide_eq_false (by omega)
    rw [e]
    go_enter Try.func43, Try.ntmps43
    go_wp2
    go_ret
    exact ⟨rfl, rfl⟩
theorem spec_isnum (n : Int) (w : World) :
    Calls Try.prog 36 #[.int .i64 n] w fun e w' => e = .returned (.bool (decide (0 ≤ n ∧ n ≤ 4294967295))) ∧ w' = w := by
  by_cases h0 : 0 ≤ n
  · by_cases h1 : n ≤ 4294967295
    · have e : decide (0 ≤ n ∧ n ≤ 4294967295) = true := decide_eq_true ⟨h0, h1⟩
      rw [e]
      go_enter Try.func36, Try.ntmps36
      go_wp2
      go_ret
      exact ⟨rfl, rfl⟩
    · have e : decide (0 ≤ n ∧ n ≤ 4294967295) = false := decide_eq_false (by omega)
      rw [e]
      go_enter Try.func36, Try.ntmps36
      go_wp2
      go_ret
      exact ⟨rfl, rfl⟩
  · have e : decide (0 ≤ n ∧ n ≤ 4294967295) = false := decide_eq_false (by omega)
    rw [e]
    go_enter Try.func36, Try.ntmps36
    go_wp2
    go_ret
    exact ⟨rfl, rfl⟩

theorem all_stop {ps : List Int} {k : Nat} {f : Int → Bool} (hk : k < ps.length) (h : f ps[k] = false) : ps.all f = false := by
  rw [List.all_eq_false]
  exact ⟨ps[k], List.getElem_mem hk, by simp [h]⟩
theorem all_full {ps : List Int} {f : Int → Bool} (h : ∀ j (hj : j < ps.length), f ps[j] = true) : ps.all f = true := by
  rw [List.all_eq_true]
  intro x hx
  obtain ⟨j, hj, rfl⟩ := List.mem_iff_getElem.1 hx
  exact h j hj

end Go.Proofs.Ytijmjpjclhgaoaa

namespace Go.Proofs.Ytijmjpjclhgaoaa
open Go.ChangeShapes Go.WideShapes Go.ChangeAt Go.RowKit
set_option linter.unusedVariables false

theorem ba_eq {a b : ByteArray} (h : a = b) : (a.toList == b.toList) = true := by subst h; simp
theorem ba_ne {a b : ByteArray} (h : ¬ a = b) : (a.toList == b.toList) = false := by
  rw [beq_eq_false_iff_ne]
  intro e
  apply h
  rw [ByteArray.toList_eq, ByteArray.toList_eq] at e
  exact ByteArray.ext (Array.ext' e)
theorem spec_at_zero (a : Option Addr) (c : Nat) (k : ByteArray) (w : World) :
    Calls Try.prog 35 #[.slice a 0 c, .string k] w fun e w' => e = .returned (.int .i64 (-1)) ∧ Below w.heap.size w w' := by
  go_enter Try.func35, Try.ntmps35
  go_wp2
  go_loop [9] (fun i => i = .int .i64 0) (fun _ => 0)
  case atStart => rfl
  case round =>
    subst hrel
    go_wp2
    go_ret
    exact ⟨rfl, Below.refl _ _⟩
set_option maxHeartbeats 1600000 in
set_option maxRecDepth 100000 in
theorem spec_at_some (b off c : Nat) (L : List It) (k : ByteArray) (w : World) (hn : L.length ≤ 4194304) (hb : b < w.heap.size) (hA : ∀ j (hj : j < L.length), ItemAt w b (off + j * 3) L[j]) :
    Calls Try.prog 35 #[.slice (some ⟨b, off, none⟩) L.length c, .string k] w fun e w' => (∃ z, e = .returned (.int .i64 z) ∧ Hid (KAt L k z)) ∧ Below w.heap.size w w' := by
  have HA := hidIt hA
  clear hA
  go_enter Try.func35, Try.ntmps35
  go_wp2
  go_loopw [9] (fun i wr => ∃ j : Nat, j ≤ L.length ∧ i = .int .i64 j ∧ Below w.heap.size w wr ∧ Hid (∀ i (hi : i < L.length), i < j → L[i].k ≠ k)) (fun i _ => L.length - (intOf i).toNat)
  case atStart => exact ⟨0, Nat.zero_le _, rfl, Below.refl _ _, fun i _ h => absurd h (by omega)⟩
  case round =>
    rename World => wr
    obtain ⟨j, hj, rfl, hbw, HS⟩ := hrel
    by_cases hlt : j < L.length
    · have hlt' : (j : Int) < (L.length : Int) := by omega
      obtain ⟨r0, r1, r2⟩ := (HA.out j hlt).of (fun q => hbw.cell (p := ⟨b, q, none⟩) hb)
      obtain ⟨y, hy⟩ : ∃ y, L[j] = y := ⟨_, rfl⟩
      have HY := hidIt hy
      rw [hy] at r0 r1 r2
      clear hy
      by_cases e : y.k = k
      · have d := ba_eq e
        have HE := hidIt e
        clear e
        go_wp2
        go_ret
        exact ⟨⟨j, rfl, .inr ⟨j, hlt, rfl, by rw [HY.out]; exact HE.out, fun i hi => HS.out i (by omega) hi⟩⟩, hbw.alloc hbw.size _⟩
      · have d := ba_ne e
        have HE := hidIt e
        clear e
        go_wp2
        go_roundw
        case rel => exact ⟨j + 1, by omega, by go_num, hbw.alloc hbw.size _, fun i hi h => by
          by_cases ei : i = j
          · subst ei; rw [HY.out]; exact HE.out
          · exact HS.out i hi (by omega)⟩
        case measure => simp [intOf]; omega
    · go_wp2
      go_ret
      exact ⟨⟨-1, rfl, .inl ⟨rfl, fun c hc => by
        obtain ⟨i, hi, rfl⟩ := List.getElem_of_mem hc
        exact HS.out i hi (by omega)⟩⟩, hbw⟩
theorem spec_at (w : World) (v : Value) (L : List It) (k : ByteArray) (hn : L.length ≤ 4194304) (h : ItemsIn w v L) :
    Calls Try.prog 35 #[v, .string k] w fun e w' => (∃ z, e = .returned (.int .i64 z) ∧ Hid (KAt L k z)) ∧ Below w.heap.size w w' := by
  obtain ⟨a, cap, rfl, -, h⟩ := h
  rcases h with rfl | ⟨b, off, rfl, h1, h2⟩
  · refine (spec_at_zero a cap k w).mono ?_
    rintro e w' ⟨rfl, b⟩
    exact ⟨⟨-1, rfl, .inl ⟨rfl, by simp⟩⟩, b⟩
  · exact spec_at_some b off cap L k w hn h1 h2
theorem spec_ghosts (w : World) (s m g : Value) (T : Tr) (h1 : 1 ≤ T.cap) (h2 : T.cap ≤ 60) (h3 : 1 ≤ T.most) (h4 : T.most ≤ T.cap) (h : TrIn w s m g T) :
    Calls Try.prog 34 #[.agg #[.int .i64 T.cap, .int .i64 T.most, s, m, g]] w fun e w' => e = .returned (.int .i64 (ghN T)) ∧ Below w.heap.size w w' := by
  obtain ⟨sa, sc, ma, mc, ga, gc, rfl, rfl, rfl⟩ := h.form
  clear h
  unfold ghN
  by_cases h : T.cap - T.most < 1
  · rw [if_pos h]
    go_enter Try.func34, Try.ntmps34
    go_wp2
    go_ret
    exact ⟨rfl, (Below.refl _ _).alloc (Nat.le_refl _) _⟩
  · rw [if_neg h]
    go_enter Try.func34, Try.ntmps34
    go_wp2
    go_ret
    exact ⟨rfl, (Below.refl _ _).alloc (Nat.le_refl _) _⟩

end Go.Proofs.Ytijmjpjclhgaoaa

namespace Go.Proofs.Ytijmjpjclhgaoaa
open Go.ChangeShapes Go.WideShapes Go.ChangeAt Go.RowKit
set_option linter.unusedVariables false

def capB (T : Tr) : Bool := decide (1 ≤ T.cap) && decide (T.cap ≤ 60)
def mostB (T : Tr) : Bool := decide (1 ≤ T.most) && decide (T.most ≤ T.cap)
set_option maxHeartbeats 800000 in
set_option maxRecDepth 100000 in
theorem spec_threeok_no1 (w : World) (cap most : Int) (sa ma ga : Option Addr) (sl sc ml mc gl gc : Nat) (n1 : sl ≤ 1048576) (n2 : ml ≤ 1048576)
    (H1 : Hid (∀ W, Calls Try.prog 29 #[.int .i64 cap, .int .i64 1, .int .i64 60] W fun e w' => e = .returned (.bool false) ∧ w' = W)) :
    Calls Try.prog 14 #[.agg #[.int .i64 cap, .int .i64 most, .slice sa sl sc, .slice ma ml mc, .slice ga gl gc]] w fun e w' => e = .returned (.bool false) ∧ Below w.heap.size w w' := by
  have a1 : (0 : Int) ≤ (sl : Int) + (ml : Int) := by omega
  have a2 : (sl : Int) + (ml : Int) ≤ 4194304 := by omega
  go_enter Try.func14, Try.ntmps14
  go_wp2_with fail
  generalize hW : World.alloc w _ = W0
  have X := Bx.new w #[.int .i64 cap, .int .i64 most, .slice sa sl sc, .slice ma ml mc, .slice ga gl gc] 37
  have bW := hidIt (show Below w.heap.size w W0 by rw [← hW]; exact (Below.refl _ _).alloc (Nat.le_refl _) _)
  rw [hW] at X
  clear hW
  have x0 := X.2.1 0
  have x1 := X.2.1 1
  have x2 := X.2.1 2
  have x3 := X.2.1 3
  have x4 := X.2.1 4
  simp at x0 x1 x2 x3 x4
  clear X
  go_quiet (first | (go_at_call 29; with_reducible refine Calls.quiet_of_same (H1.out _)))
  go_wp2
  go_ret
  exact ⟨rfl, below_drewN bW.out _⟩
set_option maxHeartbeats 800000 in
set_option maxRecDepth 100000 in
theorem spec_threeok_no2 (w : World) (cap most : Int) (sa ma ga : Option Addr) (sl sc ml mc gl gc : Nat) (n1 : sl ≤ 1048576) (n2 : ml ≤ 1048576)
    (H1 : Hid (∀ W, Calls Try.prog 29 #[.int .i64 cap, .int .i64 1, .int .i64 60] W fun e w' => e = .returned (.bool true) ∧ w' = W)) (H2 : Hid (∀ W, Calls Try.prog 29 #[.int .i64 most, .int .i64 1, .int .i64 cap] W fun e w' => e = .returned (.bool false) ∧ w' = W)) :
    Calls Try.prog 14 #[.agg #[.int .i64 cap, .int .i64 most, .slice sa sl sc, .slice ma ml mc, .slice ga gl gc]] w fun e w' => e = .returned (.bool false) ∧ Below w.heap.size w w' := by
  have a1 : (0 : Int) ≤ (sl : Int) + (ml : Int) := by omega
  have a2 : (sl : Int) + (ml : Int) ≤ 4194304 := by omega
  go_enter Try.func14, Try.ntmps14
  go_wp2_with fail
  generalize hW : World.alloc w _ = W0
  have X := Bx.new w #[.int .i64 cap, .int .i64 most, .slice sa sl sc, .slice ma ml mc, .slice ga gl gc] 37
  have bW := hidIt (show Below w.heap.size w W0 by rw [← hW]; exact (Below.refl _ _).alloc (Nat.le_refl _) _)
  rw [hW] at X
  clear hW
  have x0 := X.2.1 0
  have x1 := X.2.1 1
  have x2 := X.2.1 2
  have x3 := X.2.1 3
  have x4 := X.2.1 4
  simp at x0 x1 x2 x3 x4
  clear X
  go_quiet (first | (go_at_call 29; with_reducible refine Calls.quiet_of_same (H1.out _)) | (go_at_call 29; with_reducible refine Calls.quiet_of_same (H2.out _)))
  go_wp2
  go_ret
  exact ⟨rfl, below_drewN bW.out _⟩
set_option maxHeartbeats 800000 in
set_option maxRecDepth 100000 in
theorem spec_threeok_no3 (w : World) (cap most : Int) (sa ma ga : Option Addr) (sl sc ml mc gl gc : Nat) (n1 : sl ≤ 1048576) (n2 : ml ≤ 1048576)
    (H1 : Hid (∀ W, Calls Try.prog 29 #[.int .i64 cap, .int .i64 1, .int .i64 60] W fun e w' => e = .returned (.bool true) ∧ w' = W)) (H2 : Hid (∀ W, Calls Try.prog 29 #[.int .i64 most, .int .i64 1, .int .i64 cap] W fun e w' => e = .returned (.bool true) ∧ w' = W)) (h3 : cap < (sl : Int) + (ml : Int)) :
    Calls Try.prog 14 #[.agg #[.int .i64 cap, .int .i64 most, .slice sa sl sc, .slice ma ml mc, .slice ga gl gc]] w fun e w' => e = .returned (.bool false) ∧ Below w.heap.size w w' := by
  have a1 : (0 : Int) ≤ (sl : Int) + (ml : Int) := by omega
  have a2 : (sl : Int) + (ml : Int) ≤ 4194304 := by omega
  go_enter Try.func14, Try.ntmps14
  go_wp2_with fail
  generalize hW : World.alloc w _ = W0
  have X := Bx.new w #[.int .i64 cap, .int .i64 most, .slice sa sl sc, .slice ma ml mc, .slice ga gl gc] 37
  have bW := hidIt (show Below w.heap.size w W0 by rw [← hW]; exact (Below.refl _ _).alloc (Nat.le_refl _) _)
  rw [hW] at X
  clear hW
  have x0 := X.2.1 0
  have x1 := X.2.1 1
  have x2 := X.2.1 2
  have x3 := X.2.1 3
  have x4 := X.2.1 4
  simp at x0 x1 x2 x3 x4
  clear X
  go_quiet (first | (go_at_call 29; with_reducible refine Calls.quiet_of_same (H1.out _)) | (go_at_call 29; with_reducible refine Calls.quiet_of_same (H2.out _)))
  go_wp2
  go_ret
  exact ⟨rfl, below_drewN bW.out _⟩
theorem spec_threeok_no (w : World) (s m g : Value) (T : Tr) (hf : TrFit T) (h : TrIn w s m g T) (hn : capB T = false ∨ (capB T = true ∧ mostB T = false) ∨ (capB T = true ∧ mostB T = true ∧ T.cap < (T.sm.length : Int) + (T.mn.length : Int))) :
    Calls Try.prog 14 #[.agg #[.int .i64 T.cap, .int .i64 T.most, s, m, g]] w fun e w' => e = .returned (.bool false) ∧ Below w.heap.size w w' := by
  obtain ⟨n1, n2, n3, -⟩ := hf.lens
  obtain ⟨sa, sc, ma, mc, ga, gc, rfl, rfl, rfl⟩ := h.form
  have H1 := fun W => spec_inI T.cap 1 60 W
  have H2 := fun W => spec_inI T.most 1 T.cap W
  change ∀ W, Calls _ _ _ W fun e w' => e = .returned (.bool (capB T)) ∧ w' = W at H1
  change ∀ W, Calls _ _ _ W fun e w' => e = .returned (.bool (mostB T)) ∧ w' = W at H2
  rcases hn with hn | ⟨hn, hn2⟩ | ⟨hn, hn2, hn3⟩
  · rw [hn] at H1
    exact spec_threeok_no1 w _ _ sa ma ga _ sc _ mc _ gc n1 n2 H1
  · rw [hn] at H1
    rw [hn2] at H2
    exact spec_threeok_no2 w _ _ sa ma ga _ sc _ mc _ gc n1 n2 H1 H2
  · rw [hn] at H1
    rw [hn2] at H2
    exact spec_threeok_no3 w _ _ sa ma ga _ sc _ mc _ gc n1 n2 H1 H2 hn3
/- the loop over the items -/
def itsOk (all : List It) (k : Nat) : Prop := ∀ i (hi : i < all.length), i < k → itB all[i] = true ∧ KAt all all[i].k i
def ghsOk (gh : List Int) (k : Nat) : Prop := (∀ i (hi : i < gh.length), i < k → numOk gh[i] = true) ∧ (gh.take k).Nodup
theorem itsOk.step {all : List It} {k : Nat} (h : itsOk all k) (hk : k < all.length) (h1 : itB all[k] = true) (h2 : KAt all all[k].k k) : itsOk all (k + 1) := fun i hi hik => by
  by_cases e : i = k
  · subst e; exact ⟨h1, h2⟩
  · exact h i hi (by omega)
theorem trok_of (T : Tr) (c : capB T = true) (m : mostB T = true) (hl : (T.sm.length : Int) + (T.mn.length : Int) ≤ T.cap) (hg : (T.gh.length : Int) ≤ ghN T) (h1 : itsOk (T.sm ++ T.mn) (T.sm ++ T.mn).length) (h2 : ghsOk T.gh T.gh.length) : TrOk T := by
  unfold capB at c
  unfold mostB at m
  simp at c m
  refine ⟨c.1, c.2, m.1, m.2, by push_cast; exact hl, hg, fun x hx => ?_, nodup_of_firsts fun i hi => (h1 i hi hi).2, fun x hx => ?_, ?_⟩
  · obtain ⟨i, hi, rfl⟩ := List.getElem_of_mem hx
    exact (h1 i hi hi).1
  · obtain ⟨i, hi, rfl⟩ := List.getElem_of_mem hx
    exact h2.1 i hi hi
  · have := h2.2
    rwa [List.take_length] at this
theorem trok_parts {T : Tr} (h : TrOk T) : capB T = true ∧ mostB T = true ∧ (T.sm.length : Int) + (T.mn.length : Int) ≤ T.cap ∧ (T.gh.length : Int) ≤ ghN T := by
  have := h.len
  push_cast at this
  exact ⟨by unfold capB; simp [h.c1, h.c2], by unfold mostB; simp [h.m1, h.m2], this, h.gl⟩

end Go.Proofs.Ytijmjpjclhgaoaa

namespace Go.Proofs.Ytijmjpjclhgaoaa
open Go.ChangeShapes Go.WideShapes Go.ChangeAt Go.RowKit
set_option linter.unusedVariables false

def OkAns (OK : Prop) (w : World) (e : Ending) (w' : World) : Prop := (∃ b, e = .returned (.bool b) ∧ Hid (b = true ↔ OK)) ∧ Below w.heap.size w w'
theorem no_ans {OK : Prop} {w w' : World} (h : ¬ OK) (b : Below w.heap.size w w') : OkAns OK w (.returned (.bool false)) w' :=
  ⟨⟨false, rfl, ⟨fun h => (by cases h), fun k => absurd k h⟩⟩, b⟩
theorem yes_ans {OK : Prop} {w w' : World} (h : OK) (b : Below w.heap.size w w') : OkAns OK w (.returned (.bool true)) w' :=
  ⟨⟨true, rfl, ⟨fun _ => h, fun _ => rfl⟩⟩, b⟩
theorem IntsIn.take {w : World} {a : Option Addr} {n c : Nat} {xs : List Int} (h : IntsIn w (.slice a n c) xs) (k : Nat) (hk : k ≤ xs.length) (c' : Nat) : IntsIn w (.slice a k c') (xs.take k) := by
  obtain ⟨⟨a', c2, hv, h⟩, -⟩ := h
  simp at hv
  obtain ⟨rfl, rfl, rfl⟩ := hv
  have hl : (xs.take k).length = k := by simp; omega
  refine ⟨⟨a, c', by rw [hl], ?_⟩, a, c', by rw [hl], trivial⟩
  rcases h with rfl | ⟨b, off, rfl, h1, h2⟩
  · exact .inl (by simp)
  · exact .inr ⟨b, off, rfl, h1, fun j hj => by rw [List.getElem_take]; exact h2 j (by omega)⟩
theorem szItS_mem {L : List It} {c : It} (h : c ∈ L) : szIt c ≤ szItS L := by
  unfold szItS
  induction L with
  | nil => cases h
  | cons x L ih =>
    rw [List.map_cons, List.sum_cons]
    rcases List.mem_cons.1 h with rfl | h
    · omega
    · have := ih h; omega
set_option maxHeartbeats 3200000 in
set_option maxRecDepth 100000 in
theorem spec_threeok_long (w : World) (cap most : Int) (sm mn : List It) (gh : List Int) (sa ma ga : Option Addr) (sc mc gc : Nat) (n1 : sm.length ≤ 1048576) (n2 : mn.length ≤ 1048576) (n3 : gh.length ≤ 1048576) (h : TrIn w (.slice sa sm.length sc) (.slice ma mn.length mc) (.slice ga gh.length gc) ⟨cap, most, sm, mn, gh⟩)
    (hz : ∀ c ∈ sm ++ mn, c.k.size ≤ 1048576 ∧ c.v.size ≤ 1048576)
    (H1 : Hid (∀ W, Calls Try.prog 29 #[.int .i64 cap, .int .i64 1, .int .i64 60] W fun e w' => e = .returned (.bool true) ∧ w' = W))
    (H2 : Hid (∀ W, Calls Try.prog 29 #[.int .i64 most, .int .i64 1, .int .i64 cap] W fun e w' => e = .returned (.bool true) ∧ w' = W))
    (H3 : Hid (∀ W, Below w.heap.size w W → Calls Try.prog 34 #[.agg #[.int .i64 cap, .int .i64 most, .slice sa sm.length sc, .slice ma mn.length mc, .slice ga gh.length gc]] W fun e w' => e = .returned (.int .i64 (ghN ⟨cap, most, sm, mn, gh⟩)) ∧ Below W.heap.size W w'))
    (hl : (sm.length : Int) + (mn.length : Int) ≤ cap)
    (HP : Hid ((gh.length : Int) ≤ ghN ⟨cap, most, sm, mn, gh⟩ → itsOk (sm ++ mn) (sm ++ mn).length → ghsOk gh gh.length → TrOk ⟨cap, most, sm, mn, gh⟩)) :
    Calls Try.prog 14 #[.agg #[.int .i64 cap, .int .i64 most, .slice sa sm.length sc, .slice ma mn.length mc, .slice ga gh.length gc]] w fun e w' => OkAns (TrOk ⟨cap, most, sm, mn, gh⟩) w e w' := by
  have H := hidIt h
  have HZ := hidIt hz
  clear h hz
  have HN := hidIt (fun (h : TrOk ⟨cap, most, sm, mn, gh⟩) => (⟨h.gl, h.ok, h.nd, h.gn, h.gd⟩ : (gh.length : Int) ≤ ghN ⟨cap, most, sm, mn, gh⟩ ∧ (∀ c ∈ sm ++ mn, itB c = true) ∧ ((sm ++ mn).map It.k).Nodup ∧ (∀ x ∈ gh, numOk x = true) ∧ gh.Nodup))
  generalize TrOk ⟨cap, most, sm, mn, gh⟩ = OK at HP HN ⊢
  generalize ghN ⟨cap, most, sm, mn, gh⟩ = G at H3 HP HN
  have a1 : (0 : Int) ≤ (sm.length : Int) + (mn.length : Int) := by omega
  have a2 : (sm.length : Int) + (mn.length : Int) ≤ 4194304 := by omega
  have hwr : IntKind.i64.wrap ((sm.length : Int) + (mn.length : Int)) = (sm.length : Int) + (mn.length : Int) := wrap_small _ a1 (by omega)
  have hd : decide (cap < (sm.length : Int) + (mn.length : Int)) = false := decide_eq_false (by omega)
  go_enter Try.func14, Try.ntmps14
  go_wp2_with fail
  generalize hW : World.alloc w _ = W0
  have X := Bx.new w #[.int .i64 cap, .int .i64 most, .slice sa sm.length sc, .slice ma mn.length mc, .slice ga gh.length gc] 37
  have bW := hidIt (show Below w.heap.size w W0 by rw [← hW]; exact (Below.refl _ _).alloc (Nat.le_refl _) _)
  have zW : W0.heap.size = w.heap.size + 1 := by rw [← hW]; simp
  rw [hW] at X
  clear hW
  have HX := hidIt X
  have x0 := X.2.1 0
  have x1 := X.2.1 1
  have x2 := X.2.1 2
  have x3 := X.2.1 3
  have x4 := X.2.1 4
  simp at x0 x1 x2 x3 x4
  have SO := hidIt (fun W (hb : Below W0.heap.size W0 W) => (⟨hb, below_cell hb X.1 x0, below_cell hb X.1 x1, below_cell hb X.1 x2, below_cell hb X.1 x3, below_cell hb X.1 x4⟩ : Below W0.heap.size W0 W ∧ W.cell? ⟨w.heap.size, 0, none⟩ = some (.int .i64 cap) ∧ W.cell? ⟨w.heap.size, 1, none⟩ = some (.int .i64 most) ∧ W.cell? ⟨w.heap.size, 2, none⟩ = some (.slice sa sm.length sc) ∧ W.cell? ⟨w.heap.size, 3, none⟩ = some (.slice ma mn.length mc) ∧ W.cell? ⟨w.heap.size, 4, none⟩ = some (.slice ga gh.length gc)))
  clear x0 x1 x2 x3 x4 X
  have hS := SO.out W0 (Below.refl _ _)
  go_region_held3 (fun W => Below W0.heap.size W0 W ∧ W.cell? ⟨w.heap.size, 0, none⟩ = some (.int .i64 cap) ∧ W.cell? ⟨w.heap.size, 1, none⟩ = some (.int .i64 most) ∧ W.cell? ⟨w.heap.size, 2, none⟩ = some (.slice sa sm.length sc) ∧ W.cell? ⟨w.heap.size, 3, none⟩ = some (.slice ma mn.length mc) ∧ W.cell? ⟨w.heap.size, 4, none⟩ = some (.slice ga gh.length gc))
    (first | exact SO.out _ (Below.refl _ _) | exact SO.out _ (Below.drew (And.left (by assumption))) | exact SO.out _ (bl_call (And.left (by assumption)) (by assumption)))
    (first
    | (go_at_call 29; with_reducible refine (H1.out _).mono ?_; rintro e wq ⟨rfl, rfl⟩)
    | (go_at_call 29; with_reducible refine (H2.out _).mono ?_; rintro e wq ⟨rfl, rfl⟩)
    | (go_at_call 34; refine (H3.out _ (bl_two bW.out (And.left (by assumption)))).mono ?_; rintro e wq ⟨rfl, bq⟩))
  rename_i h7
  have BQ := hidIt (bl_two bW.out h7.1)
  have XQ := hidIt (HX.out.below h7.1)
  have zq := h7.1.size
  by_cases hg : (gh.length : Int) ≤ G
  · have hgd : decide (G < (gh.length : Int)) = false := decide_eq_false (by omega)
    rw [hgd]
    have HG := hidIt hg
    have S1 := hidIt (fun W (hb : Below wq.heap.size wq W) => (⟨hb, below_cell hb XQ.out.1 h7.2.2.2.1, below_cell hb XQ.out.1 h7.2.2.2.2.1⟩ : Below wq.heap.size wq W ∧ W.cell? ⟨w.heap.size, 2, none⟩ = some (.slice sa sm.length sc) ∧ W.cell? ⟨w.heap.size, 3, none⟩ = some (.slice ma mn.length mc)))
    have X4 := hidIt (fun W (hb : Below wq.heap.size wq W) => below_cell hb XQ.out.1 h7.2.2.2.2.2)
    clear h7 hS SO hg
    go_wp2_with fail
    have hS := S1.out wq (Below.refl _ _)
    go_cut [3] from 40 to 46 (fun x3 wc => wc.ownsRow wq.heap.size 26 3 x3 (sm ++ mn).length (threes (sm ++ mn)) ∧ Below wq.heap.size wq wc)
    case first =>
      go_region_held3 (fun W => Below wq.heap.size wq W ∧ W.cell? ⟨w.heap.size, 2, none⟩ = some (.slice sa sm.length sc) ∧ W.cell? ⟨w.heap.size, 3, none⟩ = some (.slice ma mn.length mc))
        (first | exact S1.out _ (by assumption) | exact S1.out _ (Below.drew (And.left (by assumption))) | exact S1.out _ (bl_al (And.left (by assumption)) _))
        (first
        | (refine step_items rfl (.tmp 40) (.tmp 42) rfl wq.heap.size (.slice (some ⟨wq.heap.size, 0, none⟩) 0 0) [] rfl ?_ _ sm rfl ?_ (by simp; omega) ?_ ?_; (focus (first | exact ow_new_drew rfl (Nat.le_refl _) | exact ow_new rfl (Nat.le_refl _))); (focus (exact H.out.sm.below (bl_two BQ.out (And.left (by assumption))))); (focus (exact Below.size (And.left (by assumption)))); intro v1 w1 ho1 hg1 _; have hb1 : Below wq.heap.size wq w1 := bl_grown (And.left (by assumption)) hg1 (fun q hq => by simp [Value.ownBlock] at hq; omega))
        | (refine step_items rfl (.tmp 43) (.tmp 45) rfl wq.heap.size _ ([] ++ sm) rfl ?_ _ mn rfl ?_ (by simp; omega) ?_ ?_; (focus (exact ho1)); (focus (exact H.out.mn.below (bl_two BQ.out (And.left (by assumption))))); (focus (exact Below.size (And.left (by assumption)))); intro v2 w2 ho2 hg2 _; have hb2 : Below wq.heap.size wq w2 := bl_grown (And.left (by assumption)) hg2 (fun q hq => by have := (ho1.lt q hq).1; omega)))
      all_goals
        go_wp2_with fail
        go_meet
        exact ⟨by simpa using ho2, hb2⟩
    case rest =>
    obtain ⟨ho, hb⟩ := hcut
    rename World => w1
    obtain ⟨va, vc, hv⟩ := own_form ho
    subst hv
    have hI : ItemsIn w1 (.slice va (sm ++ mn).length vc) (sm ++ mn) := by
      obtain ⟨fp, o, -⟩ := items_of_owns (w := wq) ho (Nat.le_refl _) hb
      exact o.rd
    have hA : ∀ j (hj : j < (sm ++ mn).length), ∃ b off, va = some ⟨b, off, none⟩ ∧ b < w1.heap.size ∧ ItemAt w1 b (off + j * 3) (sm ++ mn)[j] := by
      obtain ⟨a, c, hv, -, hr⟩ := hI
      simp only [Value.slice.injEq] at hv
      obtain ⟨rfl, -, -⟩ := hv
      intro j hj
      rcases hr with hr | ⟨b, off, rfl, h1, h2⟩
      · rw [hr] at hj; simp at hj
      · exact ⟨b, off, rfl, h1, h2 j hj⟩
    have HI := hidIt hI
    have HA := hidIt hA
    have B1 := hidIt (bl_two BQ.out hb)
    have X4a := hidIt (fun W (k : Below w1.heap.size w1 W) => X4.out W (bl_call hb k))
    have XL := hidIt (Nat.lt_of_lt_of_le XQ.out.1 hb.size)
    clear ho hb hI hA S1 hS X4 XQ HX
    have hn12 : (sm ++ mn).length ≤ 2097152 := by simp; omega
    have HM := hidIt (fun j (hj : j < (sm ++ mn).length) => HZ.out _ (List.getElem_mem hj))
    have HOK := hidIt (fun h j (hj : j < (sm ++ mn).length) => (HN.out h).2.1 _ (List.getElem_mem hj))
    have HND := hidIt (fun h => (HN.out h).2.2.1)
    have HGN := hidIt (fun h => (HN.out h).2.2.2)
    have HP1 := hidIt (HP.out HG.out)
    clear HZ HP HN HG
    generalize sm ++ mn = all at *
    go_wp2_with fail
    go_loopw [49] (fun i wr => ∃ k : Nat, k ≤ all.length ∧ i = .int .i64 k ∧ Below w1.heap.size w1 wr ∧ Hid (itsOk all k)) (fun i _ => all.length - (intOf i).toNat)
    case atStart => exact ⟨0, Nat.zero_le _, rfl, Below.refl _ _, fun i _ h => absurd h (by omega)⟩
    case round =>
      rename World => wr
      obtain ⟨k, hk, rfl, hbw, HS⟩ := hrel
      by_cases hlt : k < all.length
      · have hlt' : (k : Int) < (all.length : Int) := by omega
        obtain ⟨b, off, ha, hbb, hat⟩ := HA.out k hlt
        subst ha
        obtain ⟨r0, r1, r2⟩ := hat.of (fun q => hbw.cell (p := ⟨b, q, none⟩) hbb)
        have hm := HM.out k hlt
        obtain ⟨y, hy⟩ : ∃ y, all[k] = y := ⟨_, rfl⟩
        have HY := hidIt hy
        rw [hy] at r0 r1 r2 hm
        clear hy hat
        have BW := hidIt hbw
        clear hbw
        go_wp2_with fail
        refine (spec_itemok y _ hm.1 hm.2).mono ?_
        rintro e w2 ⟨rfl, b2⟩
        have z2 := b2.size
        have Y := hidIt ((Bx.new wr #[.string y.k, .string y.v, .int .i64 y.f] 26).below b2)
        have B2 := hidIt ((bl_al BW.out _).trans (b2.mono (by have := BW.out.size; simp; omega)))
        clear b2 r0 r1 r2
        by_cases hb : itB y = true
        · rw [hb]
          have y0 := Y.out.2.1 0
          simp at y0
          go_wp2_with fail
          clear y0
          refine (spec_at w2 _ all y.k (by omega) (HI.out.below B2.out)).mono ?_
          rintro e w3 ⟨⟨z, rfl, hz⟩, b3⟩
          have B3 := hidIt (bl_call B2.out b3)
          clear b3
          by_cases hzk : z = (k : Int)
          · subst hzk
            go_wp2
            go_roundw
            case rel => exact ⟨k + 1, by omega, by go_num, B3.out, HS.out.step hlt (by rw [HY.out]; exact hb) (by rw [HY.out]; exact hz.out)⟩
            case measure => simp [intOf]; omega
          · have hne : (z != (k : Int)) = true := by simpa using hzk
            have HZK := hidIt hzk
            clear hzk
            go_wp2
            go_ret
            exact no_ans (fun h => not_nodup_of hlt (by rw [HY.out]; exact hz.out) HZK.out (HND.out h)) (bl_two B1.out B3.out)
        · have hb' : itB y = false := by simpa using hb
          rw [hb']
          go_wp2
          go_ret
          exact no_ans (fun h => hb (by rw [← HY.out]; exact HOK.out h k hlt)) (bl_two B1.out B2.out)
      · have HE := hidIt (show itsOk all all.length by have : k = all.length := by omega
                                                       rw [← this]; exact HS.out)
        have x4 := X4a.out wr hbw
        have hgl : gh.length ≤ gc := H.out.cp.le
        have BW := hidIt (bl_two B1.out hbw)
        have HGI := hidIt (fun W (k : Below wr.heap.size wr W) => H.out.gh.below (bl_two (bl_two B1.out hbw) k))
        have X4b := hidIt (fun W (k : Below wr.heap.size wr W) => X4a.out W (bl_call hbw k))
        clear hbw HS
        go_wp2_with fail
        clear x4
        go_loopw [69] (fun i wx => ∃ k : Nat, k ≤ gh.length ∧ i = .int .i64 k ∧ Below wr.heap.size wr wx ∧ Hid (ghsOk gh k)) (fun i _ => gh.length - (intOf i).toNat)
        case atStart => exact ⟨0, Nat.zero_le _, rfl, Below.refl _ _, fun i _ h => absurd h (by omega), by simp⟩
        case round =>
          rename World => wx
          obtain ⟨k, hk, rfl, hbx, HS⟩ := hrel
          by_cases hlt : k < gh.length
          · have hlt' : (k : Int) < (gh.length : Int) := by omega
            obtain ⟨⟨a', c', hv, hr⟩, -⟩ := HGI.out wx hbx
            simp only [Value.slice.injEq] at hv
            obtain ⟨rfl, -, rfl⟩ := hv
            have hr2 : ∃ b off, ga = some ⟨b, off, none⟩ ∧ wx.cell? ⟨b, off + k, none⟩ = some (.int .i64 gh[k]) := by
              rcases hr with hr | ⟨b, off, rfl, h1, h2⟩
              · rw [hr] at hlt; simp at hlt
              · exact ⟨b, off, rfl, h2 k hlt⟩
            obtain ⟨b, off, ha, hcell⟩ := hr2
            subst ha
            have x4 := X4b.out wx hbx
            have HT := hidIt (fun c' => (HGI.out wx hbx).take k hk c')
            have BX := hidIt (bl_two BW.out hbx)
            have HBX := hidIt hbx
            obtain ⟨x, hx⟩ : ∃ x, gh[k] = x := ⟨_, rfl⟩
            have HX := hidIt hx
            rw [hx] at hcell
            have hkc : (k : Int) ≤ (gc : Int) := by omega
            clear hx hr hbx
            have HQ := hidIt (fun W => spec_isnum x W)
            change Hid (∀ W, Calls _ _ _ W fun e w' => e = .returned (.bool (numOk x)) ∧ w' = W) at HQ
            have HH := hidIt (fun W (c' : Nat) (h : IntsIn W (.slice (some ⟨b, off, none⟩) k c') (gh.take k)) => spec_hasR _ (gh.take k) x W (by simp; omega) h)
            by_cases hb : numOk x = true
            · rw [hb] at HQ
              by_cases hm : x ∈ gh.take k
              · have hhb : hasN (gh.take k) x = true := decide_eq_true hm
                rw [hhb] at HH
                have HMM := hidIt hm
                clear hm hhb
                go_wp2_with (first | (go_at_call 36; refine (HQ.out _).mono ?_; rintro e wq ⟨rfl, rfl⟩) | (go_at_call 37; refine (HH.out _ _ (HT.out _)).mono ?_; rintro e wq ⟨rfl, rfl⟩))
                go_ret
                exact no_ans (fun h => not_nodup_take k hlt (by rw [HX.out]; exact HMM.out) (HGN.out h).2) BX.out
              · have hhb : hasN (gh.take k) x = false := decide_eq_false hm
                rw [hhb] at HH
                have HMM := hidIt hm
                clear hm hhb
                go_wp2_with (first | (go_at_call 36; refine (HQ.out _).mono ?_; rintro e wq ⟨rfl, rfl⟩) | (go_at_call 37; refine (HH.out _ _ (HT.out _)).mono ?_; rintro e wq ⟨rfl, rfl⟩))
                go_roundw
                case rel => exact ⟨k + 1, by omega, by go_num, HBX.out, fun i hi h => by
                  by_cases ei : i = k
                  · subst ei; rw [HX.out]; exact hb
                  · exact HS.out.1 i hi (by omega), nodup_take_step k hlt HS.out.2 (by rw [HX.out]; exact HMM.out)⟩
                case measure => simp [intOf]; omega
            · have hb' : numOk x = false := by simpa using hb
              rw [hb'] at HQ
              go_wp2_with (first | (go_at_call 36; refine (HQ.out _).mono ?_; rintro e wq ⟨rfl, rfl⟩))
              go_ret
              exact no_ans (fun h => hb (by rw [← HX.out]; exact (HGN.out h).1 _ (List.getElem_mem hlt))) BX.out
          · have HE2 := hidIt (show ghsOk gh gh.length by have : k = gh.length := by omega
                                                          rw [← this]; exact HS.out)
            have BX := hidIt (bl_two BW.out hbx)
            clear HS hbx
            go_wp2
            go_ret
            exact yes_ans (HP1.out HE.out HE2.out) BX.out
  · have hgd : decide (G < (gh.length : Int)) = true := decide_eq_true (by omega)
    rw [hgd]
    have HG := hidIt hg
    clear hg
    go_wp2
    go_ret
    exact no_ans (fun h => by have := (HN.out h).1; have := HG.out; omega) BQ.out
theorem spec_threeok (w : World) (s m g : Value) (T : Tr) (hf : TrFit T) (h : TrIn w s m g T) :
    Calls Try.prog 14 #[.agg #[.int .i64 T.cap, .int .i64 T.most, s, m, g]] w fun e w' => OkAns (TrOk T) w e w' := by
  obtain ⟨n1, n2, n3, -⟩ := hf.lens
  have H1 := fun W => spec_inI T.cap 1 60 W
  have H2 := fun W => spec_inI T.most 1 T.cap W
  change ∀ W, Calls _ _ _ W fun e w' => e = .returned (.bool (capB T)) ∧ w' = W at H1
  change ∀ W, Calls _ _ _ W fun e w' => e = .returned (.bool (mostB T)) ∧ w' = W at H2
  by_cases hn : capB T = false ∨ (capB T = true ∧ mostB T = false) ∨ (capB T = true ∧ mostB T = true ∧ T.cap < (T.sm.length : Int) + (T.mn.length : Int))
  · refine (spec_threeok_no w s m g T hf h hn).mono ?_
    rintro e w' ⟨rfl, b⟩
    refine no_ans (fun k => ?_) b
    obtain ⟨k1, k2, k3, -⟩ := trok_parts k
    rcases hn with hn | ⟨-, hn⟩ | ⟨-, -, hn⟩
    · rw [k1] at hn; cases hn
    · rw [k2] at hn; cases hn
    · omega
  · have hc : capB T = true := by
      cases hc : capB T with
      | true => rfl
      | false => exact absurd (.inl hc) hn
    have hm : mostB T = true := by
      cases hm : mostB T with
      | true => rfl
      | false => exact absurd (.inr (.inl ⟨hc, hm⟩)) hn
    have hl : (T.sm.length : Int) + (T.mn.length : Int) ≤ T.cap := by
      by_cases hl : T.cap < (T.sm.length : Int) + (T.mn.length : Int)
      · exact absurd (.inr (.inr ⟨hc, hm, hl⟩)) hn
      · omega
    rw [hc] at H1
    rw [hm] at H2
    have c1 : 1 ≤ T.cap ∧ T.cap ≤ 60 := by unfold capB at hc; simpa using hc
    have c2 : 1 ≤ T.most ∧ T.most ≤ T.cap := by unfold mostB at hm; simpa using hm
    have hp := fun h1 h2 h3 => trok_of T hc hm hl h1 h2 h3
    have hz : ∀ c ∈ T.sm ++ T.mn, c.k.size ≤ 1048576 ∧ c.v.size ≤ 1048576 := fun c hc => by
      have hi : szIt c ≤ 1048576 := by
        rcases List.mem_append.1 hc with hc | hc
        · have := szItS_mem hc; unfold TrFit szN at hf; omega
        · have := szItS_mem hc; unfold TrFit szN at hf; omega
      unfold szIt at hi
      omega
    obtain ⟨sa, sc, ma, mc, ga, gc, rfl, rfl, rfl⟩ := h.form
    obtain ⟨cap, most, sm, mn, gh⟩ := T
    exact spec_threeok_long w cap most sm mn gh sa ma ga sc mc gc n1 n2 n3 h hz H1 H2 (fun W hW => spec_ghosts W _ _ _ ⟨cap, most, sm, mn, gh⟩ c1.1 c1.2 c2.1 c2.2 (h.below hW)) hl hp

end Go.Proofs.Ytijmjpjclhgaoaa
