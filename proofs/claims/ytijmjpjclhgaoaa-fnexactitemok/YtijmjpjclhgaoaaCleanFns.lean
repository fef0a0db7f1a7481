/- Texts without a blank and without a break: both sides' functions, at whatever bytes. -/
import Derived.Test.YtijmjpjclhgaoaaRows
import Derived.WalkKit
import Derived.ProofKit
import Derived.OpenShut
import Derived.ShutString
import Derived.Test.YtijmjpjclhgaoaaCleanPlain
import Derived.Test.YtijmjpjclhgaoaaStrRows
import Derived.Test.YtijmjpjclhgaoaaTextImpl
import Derived.Test.YtijmjpjclhgaoaaShelf
import Derived.Laws.Runes
namespace Go.Proofs.Ytijmjpjclhgaoaa
open Go.ChangeShapes Go.WideShapes Go.ChangeAt Go.RowKit
set_option linter.unusedVariables false

set_option maxRecDepth 100000 in
theorem spec_clean (s : ByteArray) (w : World) (hs : s.size ≤ 9223372036854775806) :
    Calls Try.prog 28 #[.string s] w fun e w' => e = .returned (.bool (clB s)) ∧ w' = w := by
  go_enter Try.func28, Try.ntmps28
  go_wp2
  go_loop [3] (fun i => ∃ k : Nat, k ≤ s.size ∧ i = .int .i64 k ∧ Hid ((s.data.toList.take k).all clean1 = true)) (fun i => s.size - (intOf i).toNat)
  case atStart => exact ⟨0, Nat.zero_le _, rfl, rfl⟩
  case round =>
    obtain ⟨k, hk, rfl, HS⟩ := hrel
    by_cases hlt : k < s.size
    · have hlt' : (k : Int) < (s.size : Int) := by omega
      by_cases c1 : s[k].toNat = 32
      · have HN : Hid (clB s = false) := clB_no s k hlt (clean1_32 _ c1)
        have d1 : ((s[k].toNat : Int) == 32) = true := by rw [c1]; rfl
        clear c1
        go_wp2
        go_ret
        exact ⟨ret_boolx HN.out.symm, rfl⟩
      · by_cases c2 : s[k].toNat = 10
        · have HN : Hid (clB s = false) := clB_no s k hlt (clean1_10 _ c2)
          have d1 : ((s[k].toNat : Int) == 32) = false := by rw [c2]; rfl
          have d2 : ((s[k].toNat : Int) == 10) = true := by rw [c2]; rfl
          clear c1 c2
          go_wp2
          go_ret
          exact ⟨ret_boolx HN.out.symm, rfl⟩
        · have HC : Hid (clean1 s[k] = true) := clean1_of _ c1 c2
          have d1 : ((s[k].toNat : Int) == 32) = false := by rw [beq_eq_false_iff_ne]; omega
          have d2 : ((s[k].toNat : Int) == 10) = false := by rw [beq_eq_false_iff_ne]; omega
          clear c1 c2
          go_wp2
          go_round
          case rel => exact ⟨k + 1, by omega, by go_num, clB_step s k hlt HS.out HC.out⟩
          case measure => simp [intOf]; omega
    · have HN : Hid (clB s = true) := clB_end s k (by omega) HS.out
      go_wp2
      go_ret
      exact ⟨ret_boolx HN.out.symm, rfl⟩
def white : ByteArray := ⟨#[32, 10]⟩
set_option maxHeartbeats 1600000 in
set_option maxRecDepth 100000 in
theorem rune_white_long (r : Int) (w : World) (h1 : 128 ≤ r) (h2 : r ≤ 1114111) (hv : Lib.validRune r = true) (he : r ≠ 65533) :
    Calls Try.prog 78 #[.string ⟨#[32, 10]⟩, .int .i32 r] w fun e w' => e = .returned (.int .i64 (-1)) ∧ Below w.heap.size w w' := by
  have g1 : ¬ r < 128 := by omega
  have g2 : (r == 65533) = false := by rw [beq_eq_false_iff_ne]; exact he
  rcases enc_forms r h1 with ⟨a, b, hE, hb⟩ | ⟨a, b, c, hE⟩ | ⟨a, b, c, d, hE⟩
  · have hcv : ∀ W, (convert 21 9 (.int .i32 r)).run Try.prog W = .ok (.string ⟨#[a, b]⟩) W := fun W => by rw [run_convert_int_string W _ _ _ r (by rw [Try.underlying21]; rfl) Try.underlying9, hE]
    have d0 : ((10 : Int) != (b.toNat : Int)) = true := by simp; omega
    have d1 : ((((ByteArray.mk #[32, 10])[1]'(by decide : 1 < 2)).toNat : Int) != (((ByteArray.mk #[a, b])[1]'(by show 1 < 2; decide)).toNat : Int)) = true := d0
    have hw2 : IntKind.i64.wrap 2 = 2 := by rfl
    clear hE
    go_enter Try.func78, Try.ntmps78
    go_wp2_with (go_at_call 83; refine (Try.utf8_ValidRune _ _).mono ?_; rintro e w' ⟨rfl, rfl⟩; rw [hv])
    go_step3
    go_wp2
    go_loop [9, 10] (fun i f => i = .int .i64 1 ∧ f = .int .i64 0) (fun _ _ => 0)
    case atStart => exact ⟨rfl, rfl⟩
    case round =>
      obtain ⟨rfl, rfl⟩ := hrel
      go_wp2
      go_step3
      go_wp2
      go_quiet (fail)
      have hB : Below w'.heap.size w' (World.drewN w' nq) := below_drewN (Below.refl _ _) nq
      generalize World.drewN w' nq = wq at hB ⊢
      have hI : Hid (∀ (c : Int) W, Calls Try.prog 82 #[.string ByteArray.empty, .int .u8 c] W fun e w' => e = .returned (.int .i64 (-1)) ∧ w' = W) := fun c W => Try.strings_IndexByte ByteArray.empty c W
      go_wp2
      go_quiet (first | (go_at_call 82; refine Calls.quiet_of_same (hI.out _ _)))
      go_wp2
      simp +zetaDelta only [Exit.noGoto_ret, Exit.inBlock, Exit.then]
      go_ret
      exact ⟨rfl, below_drewN hB _⟩
  all_goals
    have hcv := fun W => (run_convert_int_string (P := Try.prog) W 21 9 .i32 r (by rw [Try.underlying21]; rfl) Try.underlying9)
    rw [hE] at hcv
    clear hE
    go_enter Try.func78, Try.ntmps78
    go_wp2_with (go_at_call 83; refine (Try.utf8_ValidRune _ _).mono ?_; rintro e w' ⟨rfl, rfl⟩; rw [hv])
    go_step3
    go_wp2
    go_loop [9, 10] (fun i f => (i = .int .i64 2 ∨ i = .int .i64 3) ∧ f = .int .i64 0) (fun _ _ => 0)
    case atStart => exact ⟨by first | exact .inl rfl | exact .inr rfl, rfl⟩
    case round =>
      obtain ⟨rfl | rfl, rfl⟩ := hrel
      all_goals
        go_wp2
        go_ret
        exact ⟨rfl, Below.refl _ _⟩
set_option maxHeartbeats 1600000 in
set_option maxRecDepth 100000 in
theorem rune_white (r : Int) (w : World) (h1 : 128 ≤ r) (h2 : r ≤ 1114111) :
    Calls Try.prog 78 #[.string ⟨#[32, 10]⟩, .int .i32 r] w fun e w' => e = .returned (.int .i64 (-1)) ∧ Below w.heap.size w w' := by
  have g1 : ¬ r < 128 := by omega
  by_cases he : r = 65533
  · subst he
    have n0 := fun ty => run_next_ascii (P := Try.prog) w ⟨#[32, 10]⟩ 0 ty (by decide) (by decide)
    have n1 := fun ty => run_next_ascii (P := Try.prog) w ⟨#[32, 10]⟩ 1 ty (by decide) (by decide)
    have n2 := fun ty => run_next_end (P := Try.prog) w ⟨#[32, 10]⟩ 2 ty (by decide)
    go_enter Try.func78, Try.ntmps78
    go_wp2
    go_loopw [5] (fun _ wr => ∃ k, k ≤ 2 ∧ wr = w.iter ⟨#[32, 10]⟩ k) (fun _ wr => 2 - wr.iterPos w.heap.size)
    case atStart => exact ⟨0, by omega, rfl⟩
    case round =>
      obtain ⟨k, hk, rfl⟩ := hrel
      match k, hk with
      | 0, _ => 
        go_wp2
        go_roundw
        case rel => exact ⟨1, by omega, rfl⟩
        case measure => simp
      | 1, _ => 
        go_wp2
        go_roundw
        case rel => exact ⟨2, by omega, rfl⟩
        case measure => simp
      | 2, _ => 
        go_wp2
        go_ret
        exact ⟨rfl, iter_below _ _ _⟩
  · by_cases hv : Lib.validRune r = true
    · exact rune_white_long r w h1 h2 hv he
    · have g2 : (r == 65533) = false := by rw [beq_eq_false_iff_ne]; exact he
      have hv' : Lib.validRune r = false := by simpa using hv
      go_enter Try.func78, Try.ntmps78
      go_wp2_with (go_at_call 83; refine (Try.utf8_ValidRune _ _).mono ?_; rintro e w' ⟨rfl, rfl⟩; rw [hv'])
      go_ret
      exact ⟨rfl, Below.refl _ _⟩
def itSet (W : World) (b : Nat) (s : ByteArray) (p : Nat) : World := { W with heap := W.heap.setIfInBounds b (.stringIter s p) }
theorem itSet_size (W : World) (b : Nat) (s : ByteArray) (p : Nat) : (itSet W b s p).heap.size = W.heap.size := by simp [itSet]
theorem itSet_at (W : World) (b : Nat) (s : ByteArray) (p : Nat) (h : b < W.heap.size) : (itSet W b s p).heap[b]? = some (.stringIter s p) := by simp [itSet, h]
theorem itSet_below {B : Nat} {w W : World} {b : Nat} {s : ByteArray} {p : Nat} (h : Below B w W) (hb : B ≤ b) : Below B w (itSet W b s p) :=
  h.trans ⟨rfl, rfl, rfl, by simp [itSet], fun k hk => by simp [itSet, Array.getElem?_setIfInBounds]; omega⟩
theorem next_in (W : World) (b : Nat) (s : ByteArray) (pos : Nat) (ty : TypeId) (hb : W.heap[b]? = some (.stringIter s pos)) (h : pos < s.size) :
    (Instr.next (.pointer (some ⟨b, 0, none⟩)) true ty).run Try.prog W = .ok (.tuple #[.bool true, .int .i64 pos, .int .i32 (Utf8.decode s pos).1]) (itSet W b s (pos + (Utf8.decode s pos).2)) := by
  simp only [Instr.next, getObj, setObj, Sem.run_bind, Sem.run, hb, Result.andThen, h, if_true]
  simp [goInt, itSet]
theorem next_over (W : World) (b : Nat) (s : ByteArray) (pos : Nat) (ty : TypeId) (hb : W.heap[b]? = some (.stringIter s pos)) (h : ¬ pos < s.size) :
    (Instr.next (.pointer (some ⟨b, 0, none⟩)) true ty).run Try.prog W = .ok (.tuple #[.bool false]) W := by
  simp [Instr.next, getObj, Sem.run, hb, h]
theorem decode_le2 (s : ByteArray) (pos : Nat) : (Utf8.decode s pos).1 ≤ 1114111 := by
  have hb : ∀ k, (s.get! (pos + k)).toNat < 256 := fun k => (s.get! (pos + k)).toNat_lt
  have h0 := hb 0; have h1 := hb 1; have h2 := hb 2; have h3 := hb 3
  simp only [Utf8.decode]
  repeat' split
  all_goals simp_all [Utf8.runeError, Utf8.valid]
  all_goals omega
theorem white_in (b : UInt8) (h : clean1 b = true) : Lib.indexByte [32, 10] b = -1 := by
  unfold clean1 at h
  simp at h
  simp [Lib.indexByte, Ne.symm h.1, Ne.symm h.2]
theorem white_at (b : UInt8) (h : clean1 b = false) : 0 ≤ Lib.indexByte [32, 10] b := by
  unfold clean1 at h
  by_cases e1 : b = 32
  · subst e1; decide
  · by_cases e2 : b = 10
    · subst e2; decide
    · simp [e1, e2] at h
set_option maxHeartbeats 1600000 in
set_option maxRecDepth 100000 in
theorem any_white_short (s : ByteArray) (w : World) (h8 : s.size ≤ 8) :
    Calls Try.prog 75 #[.string s, .string ⟨#[32, 10]⟩] w fun e w' => (∃ z : Int, e = .returned (.int .i64 z) ∧ Hid (-1 ≤ z ∧ (0 ≤ z ↔ clB s = false))) ∧ Below w.heap.size w w' := by
  have h8z : decide ((8 : Int) < (s.size : Int)) = false := decide_eq_false (by omega)
  go_enter Try.func75, Try.ntmps75
  go_wp2_with (go_at_call 79; refine (Try.strings_shouldUseASCIISet _ _).mono ?_; rintro e w' ⟨rfl, hw⟩; rw [hw, h8z])
  go_loopw [9, 10] (fun _ _ wr => ∃ k, k ≤ s.size ∧ w.heap.size < wr.heap.size ∧ Hid ((s.data.toList.take k).all clean1 = true ∧ Below w.heap.size w wr ∧ wr.heap[w.heap.size]? = some (.stringIter s k))) (fun _ _ wr => s.size - wr.iterPos w.heap.size)
  case atStart => exact ⟨0, Nat.zero_le _, by simp [World.iter], rfl, iter_below _ _ _, World.iter_heap _ _ _⟩
  case round =>
    rename World => wr
    obtain ⟨k, hk, hgr, HS⟩ := hrel
    have hm : wr.iterPos w.heap.size = k := by unfold World.iterPos; rw [HS.out.2.2]
    by_cases hlt : k < s.size
    · have hnx : ∀ ty, (Instr.next (.pointer (some ⟨w.heap.size, 0, none⟩)) true ty).run Try.prog wr = _ := fun ty => next_in wr w.heap.size s k ty HS.out.2.2 hlt
      have hbl := hidIt (fun p => itSet_below (p := p) (s := s) HS.out.2.1 (Nat.le_refl w.heap.size))
      have hst := hidIt (fun p => itSet_at wr w.heap.size s p hgr)
      have hsz := hidIt (fun p => itSet_size wr w.heap.size s p)
      have HM := hidIt hm
      clear hm
      by_cases ha : s[k].toNat < 128
      · rw [decode_ascii s k hlt ha] at hnx
        have hback : ((s[k].toNat : Int)).toNat.toUInt8 = s[k] := by simp
        cases hc : clean1 s[k] with
        | true =>
          have hI : Hid (∀ W, Calls Try.prog 78 #[.string ⟨#[32, 10]⟩, .int .i32 (s[k].toNat : Int)] W fun e w' => e = .returned (.int .i64 (-1)) ∧ w' = W) := fun W => (Try.strings_IndexRune_ascii ⟨#[32, 10]⟩ (s[k].toNat : Int) W (by omega) (by omega)).mono fun e w' ⟨h1, h2⟩ => ⟨by rw [h1, hback]; exact ret_ints (white_in _ hc), h2⟩
          have HC := hidIt (clB_step s k hlt HS.out.1 hc)
          clear hback hc
          go_wp2_with fail
          refine (hI.out _).mono ?_
          rintro e w1 ⟨rfl, rfl⟩
          go_wp2
          go_roundw
          case rel => exact ⟨k + 1, by omega, by rw [hsz.out]; exact hgr, HC.out, hbl.out _, hst.out _⟩
          case measure =>
            have e1 : (itSet wr w.heap.size s (k + 1)).iterPos w.heap.size = k + 1 := by unfold World.iterPos; rw [hst.out]
            have := HM.out
            rw [e1, this]
            omega
        | false =>
          have hz : 0 ≤ Lib.indexByte [32, 10] s[k] := white_at _ hc
          have hI : Hid (∀ W, Calls Try.prog 78 #[.string ⟨#[32, 10]⟩, .int .i32 (s[k].toNat : Int)] W fun e w' => e = .returned (.int .i64 (Lib.indexByte [32, 10] s[k])) ∧ w' = W) := fun W => (Try.strings_IndexRune_ascii ⟨#[32, 10]⟩ (s[k].toNat : Int) W (by omega) (by omega)).mono fun e w' ⟨h1, h2⟩ => ⟨by rw [h1, hback], h2⟩
          have HC := hidIt (clB_no s k hlt hc)
          clear hback hc
          generalize Lib.indexByte [32, 10] s[k] = z at hz hI
          go_wp2_with fail
          refine (hI.out _).mono ?_
          rintro e w1 ⟨rfl, rfl⟩
          go_wp2
          go_ret
          exact ⟨⟨k, rfl, by omega, fun _ => HC.out, fun _ => by omega⟩, hbl.out _⟩
      · have ha' : 128 ≤ s[k].toNat := by omega
        have hd := decode_high s k hlt ha'
        have hl := decode_le s k
        have hr : (Utf8.decode s k).1 ≤ 1114111 := decode_le2 s k
        have hsp := clB_span s k hlt ha' HS.out.1 _ (Nat.le_refl _)
        generalize (Utf8.decode s k).1 = r at hnx hd hl hr
        generalize (Utf8.decode s k).2 = n at hnx hd hsp
        have HC := hidIt hsp
        clear hsp
        go_wp2_with fail
        refine (rune_white (r : Int) _ (by omega) (by omega)).mono ?_
        rintro e w1 ⟨rfl, b1⟩
        have z1 := b1.size
        rw [hsz.out] at z1
        have B1 := hidIt b1
        clear b1
        go_wp2
        have hst1 : w1.heap[w.heap.size]? = some (.stringIter s (k + n)) := (B1.out.block w.heap.size (by rw [hsz.out]; exact hgr)).trans (hst.out _)
        go_roundw
        case rel => exact ⟨k + n, HC.out.2, by omega, HC.out.1, (hbl.out (k + n)).trans (B1.out.mono (by rw [hsz.out]; omega)), hst1⟩
        case measure =>
          have e1 : w1.iterPos w.heap.size = k + n := by unfold World.iterPos; rw [hst1]
          have := HM.out
          have := HC.out.2
          rw [e1]
          omega
    · have hnx : ∀ ty, (Instr.next (.pointer (some ⟨w.heap.size, 0, none⟩)) true ty).run Try.prog wr = _ := fun ty => next_over wr w.heap.size s k ty HS.out.2.2 hlt
      have HC := hidIt (clB_end s k (by omega) HS.out.1)
      clear hm
      go_wp2
      go_ret
      exact ⟨⟨-1, rfl, by omega, fun h => absurd h (by omega), fun h => by rw [HC.out] at h; cases h⟩, HS.out.2.1⟩
theorem contains_white (s : ByteArray) (w : World) (hs : s.size ≤ 1048576) :
    Calls Try.prog 62 #[.string s, .string ⟨#[32, 10]⟩] w fun e w' => e = .returned (.bool (!clB s)) ∧ Below w.heap.size w w' := by
  by_cases h8 : s.size ≤ 8
  · go_enter Try.func62, Try.ntmps62
    go_wp2_with fail
    refine (any_white_short s w h8).mono ?_
    rintro e w1 ⟨⟨z, rfl, hz⟩, b1⟩
    go_wp2
    go_ret
    refine ⟨ret_boolx ?_, b1⟩
    by_cases h : 0 ≤ z
    · rw [hz.out.2.1 h]; simpa using h
    · cases hc : clB s with
      | false => exact absurd (hz.out.2.2 hc) h
      | true => simpa using h
  · have hl := Try.strings_IndexAny_long (zero_of_info (n := 256) (by kernel_rfl)).1 s ⟨#[32, 10]⟩ w (by decide) (by omega) (by omega) (by decide) (fun j b hb => by have hm := List.mem_of_getElem? hb; simp at hm; rcases hm with rfl | rfl <;> decide)
    have hc : decide (0 ≤ Lib.indexAny s.data.toList (ByteArray.mk #[32, 10]).data.toList) = !clB s := cont_white s
    generalize Lib.indexAny s.data.toList (ByteArray.mk #[32, 10]).data.toList = z at hl hc
    have HC := hidIt hc
    have HL := hidIt hl
    clear hl hc
    go_enter Try.func62, Try.ntmps62
    go_wp2_with fail
    refine HL.out.mono ?_
    rintro e w1 ⟨rfl, rfl⟩
    go_wp2
    go_ret
    exact ⟨ret_boolx HC.out, ((Below.refl _ _).alloc (Nat.le_refl _) _).alloc (by simp) _⟩

end Go.Proofs.Ytijmjpjclhgaoaa
