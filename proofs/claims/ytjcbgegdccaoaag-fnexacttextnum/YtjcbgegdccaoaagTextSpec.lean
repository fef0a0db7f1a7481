/- TextNum of the model, told by one plain function of the text's bytes. -/
import Derived.Test.YtjcbgegdccaoaagRows
import Derived.WalkKit
import Derived.ProofKit
import Derived.OpenShut
import Derived.ShutString
import Derived.Test.YtjcbgegdccaoaagTextPlain
import Derived.Test.YtjcbgegdccaoaagNumSpec
namespace Go.Proofs.Ytjcbgegdccaoaag
open Go.ChangeShapes Go.WideShapes Go.ChangeAt Go.RowKit
set_option linter.unusedVariables false

theorem spec_num_no (n : Nat) (h : 4294967295 < n) (h2 : n ≤ 99999999999) (w : World) : Calls Try.prog 25 #[.int .i64 n] w fun e w' => e = .returned (.string ⟨#[]⟩) ∧ w' = w := by
  have h' : ¬ (n : Int) ≤ 4294967295 := by omega
  go_enter Try.func25, Try.ntmps25
  go_wp2
  go_ret
  exact ⟨rfl, rfl⟩
theorem int_eq {k : IntKind} {a b : Int} (h : a = b) : Value.int k a = Value.int k b := by rw [h]
theorem ret_two {a b : Int} {x y : Bool} (h1 : a = b) (h2 : x = y) : Ending.returned (.tuple #[.int .i64 a, .bool x]) = .returned (.tuple #[.int .i64 b, .bool y]) := by rw [h1, h2]

theorem spec_text_short (s : ByteArray) (w : World) (h : s.size < 1 ∨ 10 < s.size) (hs : s.size ≤ 1048576) :
    Calls Try.prog 12 #[.string s] w fun e w' => e = .returned (.tuple #[.int .i64 (tnV s.data.toList), .bool (tnB s.data.toList)]) ∧ Below w.heap.size w w' := by
  have hn : tnB s.data.toList = false ∧ tnV s.data.toList = 0 := by
    rcases h with h | h
    · exact tn_no _ (fun k => k.1 (List.length_eq_zero_iff.1 (by rw [len_eq]; omega)))
    · exact tn_no_long _ (by rw [len_eq]; exact h)
  rw [hn.1, hn.2]
  clear hn
  rcases h with h | h
  · have h' : (s.size : Int) < 1 := by omega
    go_enter Try.func12, Try.ntmps12
    go_wp2
    go_ret2
    exact ⟨rfl, Below.refl _ _⟩
  · have h1 : ¬ (s.size : Int) < 1 := by omega
    have h' : (10 : Int) < (s.size : Int) := by omega
    go_enter Try.func12, Try.ntmps12
    go_wp2
    go_ret2
    exact ⟨rfl, Below.refl _ _⟩

set_option maxRecDepth 100000 in
theorem spec_text_mid (s : ByteArray) (w : World) (h1 : 1 ≤ s.size) (h2 : s.size ≤ 10) :
    Calls Try.prog 12 #[.string s] w fun e w' => e = .returned (.tuple #[.int .i64 (tnV s.data.toList), .bool (tnB s.data.toList)]) ∧ Below w.heap.size w w' := by
  have g1 : ¬ (s.size : Int) < 1 := by omega
  have g2 : ¬ (10 : Int) < (s.size : Int) := by omega
  have hlen : s.data.toList.length = s.size := len_eq s
  go_enter Try.func12, Try.ntmps12
  go_wp2
  go_loop [4, 5] (fun n i => ∃ (k x : Nat), k ≤ s.size ∧ i = .int .i64 k ∧ n = .int .i64 x ∧ x ≤ 9999999999 ∧ Hid (x = val (s.data.toList.take k) ∧ (s.data.toList.take k).all isDig = true)) (fun _ i => s.size - (intOf i).toNat)
  case atStart => exact ⟨0, 0, Nat.zero_le _, rfl, rfl, by omega, ⟨rfl, rfl⟩⟩
  case round =>
    obtain ⟨k, x, hk, rfl, rfl, hx, HS⟩ := hrel
    by_cases hlt : k < s.size
    · have hb0 : s[k].toNat < 256 := UInt8.toNat_lt _
      have hb : (s[k].toNat : Int) < 256 := by omega
      have HT : Hid (s.data.toList.take (k + 1) = s.data.toList.take k ++ [s[k]]) := take_snoc s k hlt
      by_cases c1 : (48 : Int) ≤ (s[k].toNat : Int)
      · by_cases c2 : (s[k].toNat : Int) ≤ 57
        · have HD : Hid ((s.data.toList.take (k + 1)).all isDig = true) := by
            show (s.data.toList.take (k + 1)).all isDig = true
            rw [HT.out, all_snoc, HS.out.2]; simp [isDig]; omega
          have HV : Hid (val (s.data.toList.take (k + 1)) = x * 10 + (s[k].toNat - 48)) := by
            show val (s.data.toList.take (k + 1)) = _
            rw [HT.out, val_snoc, ← HS.out.1]
          have hbd : x * 10 + (s[k].toNat - 48) ≤ 9999999999 := by
            have h3 := val_lt _ HD.out
            rw [HV.out, List.length_take, hlen] at h3
            have h4 : 10 ^ min (k + 1) s.size ≤ 10 ^ 10 := Nat.pow_le_pow_right (by decide) (by omega)
            have h5 : (10 : Nat) ^ 10 = 10000000000 := by decide
            omega
          go_wp2
          exact ⟨⟨k + 1, x * 10 + (s[k].toNat - 48), by omega, int_eq (by omega), int_eq (by omega), hbd, ⟨HV.out.symm, HD.out⟩⟩, by simp [intOf]; omega⟩
        · have HN : Hid (tnB s.data.toList = false ∧ tnV s.data.toList = 0) := tn_no_dig _ k (by rw [hlen]; exact hlt) (by
            have e : s.data.toList[k]'(by rw [hlen]; exact hlt) = s[k] := rfl
            rw [e]; simp [isDig]; omega)
          go_wp2
          go_ret2
          exact ⟨ret_two HN.out.2.symm HN.out.1.symm, Below.refl _ _⟩
      · have HN : Hid (tnB s.data.toList = false ∧ tnV s.data.toList = 0) := tn_no_dig _ k (by rw [hlen]; exact hlt) (by
          have e : s.data.toList[k]'(by rw [hlen]; exact hlt) = s[k] := rfl
          rw [e]; simp [isDig]; omega)
        go_wp2
        go_ret2
        exact ⟨ret_two HN.out.2.symm HN.out.1.symm, Below.refl _ _⟩
    · have HT : Hid (s.data.toList.take k = s.data.toList) := List.take_of_length_le (by rw [hlen]; omega)
      have HX : Hid (x = val s.data.toList ∧ s.data.toList.all isDig = true) := by have := HS.out; rw [HT.out] at this; exact this
      clear HS
      by_cases c3 : x ≤ 4294967295
      · by_cases c4 : Lib.decDigits x = s.data.toList
        · have HN : Hid (tnB s.data.toList = true ∧ tnV s.data.toList = (x : Int)) := by
            have h5 := HX.out
            show tnB s.data.toList = true ∧ tnV s.data.toList = (x : Int)
            rw [h5.1]
            exact tn_yes _ (by intro e; rw [e] at hlen; simp at hlen; omega) h5.2 (by rw [← h5.1]; exact c3) (by rw [← h5.1]; exact c4)
          have c5 : (Lib.decDigits x == s.toList) = true := by rw [ByteArray.toList_eq, c4]; simp
          clear c4
          go_wp2_with (go_at_call 25; refine (spec_num x c3 _).mono ?_; rintro e w1 ⟨rfl, hb1⟩)
          go_ret2
          exact ⟨ret_two HN.out.2.symm HN.out.1.symm, hb1⟩
        · have HN : Hid (tnB s.data.toList = false ∧ tnV s.data.toList = 0) := by
            have h5 := HX.out
            exact tn_no_dec _ (by rw [← h5.1]; exact c4)
          have c5 : (Lib.decDigits x == s.toList) = false := by rw [ByteArray.toList_eq]; simpa using c4
          clear c4
          go_wp2_with (go_at_call 25; refine (spec_num x c3 _).mono ?_; rintro e w1 ⟨rfl, hb1⟩)
          go_ret2
          exact ⟨ret_two HN.out.2.symm HN.out.1.symm, hb1⟩
      · have HN : Hid (tnB s.data.toList = false ∧ tnV s.data.toList = 0) := by
          have h5 := HX.out
          exact tn_no_big _ (by rw [← h5.1]; omega)
        have c5 : s.toList.isEmpty = false := by
          rw [ByteArray.toList_eq]
          cases hl : s.data.toList with
          | nil => rw [hl] at hlen; simp at hlen; omega
          | cons a l => rfl
        go_wp2_with (go_at_call 25; refine (spec_num_no x (by omega) (by omega) _).mono ?_; rintro e w1 ⟨rfl, rfl⟩)
        go_ret2
        exact ⟨ret_two HN.out.2.symm HN.out.1.symm, Below.refl _ _⟩

theorem spec_text (s : ByteArray) (w : World) (hs : s.size ≤ 1048576) :
    Calls Try.prog 12 #[.string s] w fun e w' => e = .returned (.tuple #[.int .i64 (tnV s.data.toList), .bool (tnB s.data.toList)]) ∧ Below w.heap.size w w' := by
  by_cases h : 1 ≤ s.size ∧ s.size ≤ 10
  · exact spec_text_mid s w h.1 h.2
  · exact spec_text_short s w (by omega) hs

end Go.Proofs.Ytjcbgegdccaoaag
