/- TextNum of the program, told by one plain function of the text's bytes. -/
import Derived.Test.YtjcbgegdccaoaadDoorRows
import Derived.WalkKit
import Derived.ProofKit
import Derived.OpenShut
import Derived.ShutString
import Derived.Test.YtjcbgegdccaoaadDoorTextPlain
import Derived.Laws.RangeString
import Derived.Laws.RangeAny
namespace Go.Proofs.YtjcbgegdccaoaadDoor
open Go.ChangeShapes Go.WideShapes Go.ChangeAt Go.RowKit
set_option linter.unusedVariables false

theorem int_eqi {k : IntKind} {a b : Int} (h : a = b) : Value.int k a = Value.int k b := by rw [h]
theorem ret_twoi {a b : Int} {x y : Bool} (h1 : a = b) (h2 : x = y) : Ending.returned (.tuple #[.int .i64 a, .bool x]) = .returned (.tuple #[.int .i64 b, .bool y]) := by rw [h1, h2]
theorem iter_below (w : World) (s : ByteArray) (pos : Nat) : Below w.heap.size w (w.iter s pos) := (Below.refl _ _).alloc (Nat.le_refl _) _
theorem isEmpty_of (s : ByteArray) (h : 1 ≤ s.size) : s.toList.isEmpty = false := by
  rw [ByteArray.toList_eq]
  have hlen := len_eq s
  cases hl : s.data.toList with
  | nil => rw [hl] at hlen; simp at hlen; omega
  | cons a l => rfl
theorem head_of (s : ByteArray) (h : 0 < s.size) : s.data.toList.head? = some s[0] := by
  rw [List.head?_eq_getElem?, List.getElem?_eq_getElem (by rw [len_eq]; exact h)]; rfl

set_option maxRecDepth 100000 in
theorem impl_text_loop (s : ByteArray) (w : World) (h0 : 0 < s.size) (hs : s.size ≤ 1048576)
    (hz : Hid (s.data.toList = [48] ∨ s.data.toList.head? ≠ some 48))
    (hE : s.toList.isEmpty = false) (c1 : ((s[0].toNat : Int) == 48) = false ∨ (((s[0].toNat : Int) == 48) = true ∧ (s.toList == [48]) = true)) :
    Calls Tryd.prog 9 #[.string s] w fun e w' => e = .returned (.tuple #[.int .i64 (tnV s.data.toList), .bool (tnB s.data.toList)]) ∧ Below w.heap.size w w' := by
  have HL : Hid (s.data.toList.length = s.size) := len_eq s
  rcases c1 with c1 | ⟨c1, c2⟩
  all_goals
    go_enter Tryd.func9, Tryd.ntmps9
    go_wp2
    go_loopw [4] (fun n w' => ∃ pos x : Nat, w' = w.iter s pos ∧ n = .int .i64 x ∧ x ≤ 4294967295 ∧ pos ≤ s.size ∧ Hid (x = val (s.data.toList.take pos) ∧ (s.data.toList.take pos).all isDig = true)) (fun _ w' => s.size - w'.iterPos w.heap.size)
    case atStart => exact ⟨0, 0, rfl, rfl, by omega, Nat.zero_le _, ⟨rfl, rfl⟩⟩
    case round =>
      obtain ⟨pos, x, rfl, rfl, hx, hp, HS⟩ := hrel
      by_cases hlt : pos < s.size
      · by_cases ha : s[pos].toNat < 128
        · have hnx : ∀ ty, (Instr.next (.pointer (some ⟨w.heap.size, 0, none⟩)) true ty).run Tryd.prog (w.iter s pos) = _ := fun ty => run_next_ascii w s pos ty hlt ha
          have ha' : (s[pos].toNat : Int) < 128 := by omega
          have HT : Hid (s.data.toList.take (pos + 1) = s.data.toList.take pos ++ [s[pos]]) := take_snoc s pos hlt
          by_cases d1 : (48 : Int) ≤ (s[pos].toNat : Int)
          · by_cases d2 : (s[pos].toNat : Int) ≤ 57
            · have HD : Hid ((s.data.toList.take (pos + 1)).all isDig = true) := by
                show (s.data.toList.take (pos + 1)).all isDig = true
                rw [HT.out, all_snoc, HS.out.2]; simp [isDig]; omega
              have HV : Hid (val (s.data.toList.take (pos + 1)) = x * 10 + (s[pos].toNat - 48)) := by
                show val (s.data.toList.take (pos + 1)) = _
                rw [HT.out, val_snoc, ← HS.out.1]
              by_cases d3 : 10 * (x : Int) + ((s[pos].toNat : Int) - 48) ≤ 4294967295
              · go_wp2
                exact ⟨⟨pos + 1, x * 10 + (s[pos].toNat - 48), rfl, int_eqi (by omega), by omega, by omega, ⟨HV.out.symm, HD.out⟩⟩, by simp; omega⟩
              · have HN : Hid (tnB s.data.toList = false ∧ tnV s.data.toList = 0) := tn_no_big _ (by
                  have h6 := val_mono (s.data.toList.take (pos + 1)) (s.data.toList.drop (pos + 1))
                  rw [List.take_append_drop, HV.out] at h6
                  omega)
                go_wp2
                go_ret2
                exact ⟨ret_twoi HN.out.2.symm HN.out.1.symm, iter_below _ _ _⟩
            · have HN : Hid (tnB s.data.toList = false ∧ tnV s.data.toList = 0) := tn_no_dig _ pos (by rw [HL.out]; exact hlt) (by
                have e : s.data.toList[pos]'(by rw [HL.out]; exact hlt) = s[pos] := rfl
                rw [e]; simp [isDig]; omega)
              go_wp2
              go_ret2
              exact ⟨ret_twoi HN.out.2.symm HN.out.1.symm, iter_below _ _ _⟩
          · have HN : Hid (tnB s.data.toList = false ∧ tnV s.data.toList = 0) := tn_no_dig _ pos (by rw [HL.out]; exact hlt) (by
              have e : s.data.toList[pos]'(by rw [HL.out]; exact hlt) = s[pos] := rfl
              rw [e]; simp [isDig]; omega)
            go_wp2
            go_ret2
            exact ⟨ret_twoi HN.out.2.symm HN.out.1.symm, iter_below _ _ _⟩
        · have hnx : ∀ ty, (Instr.next (.pointer (some ⟨w.heap.size, 0, none⟩)) true ty).run Tryd.prog (w.iter s pos) = _ := fun ty => run_next_any w s pos ty hlt
          have hr := (decode_high s pos hlt (by omega)).1
          have r1 : ¬ ((Utf8.decode s pos).1 : Int) < 48 := by omega
          have r2 : ¬ ((Utf8.decode s pos).1 : Int) ≤ 57 := by omega
          have HN : Hid (tnB s.data.toList = false ∧ tnV s.data.toList = 0) := tn_no_dig _ pos (by rw [HL.out]; exact hlt) (by
            have e : s.data.toList[pos]'(by rw [HL.out]; exact hlt) = s[pos] := rfl
            rw [e]; simp [isDig]; omega)
          clear hr
          go_wp2
          go_ret2
          exact ⟨ret_twoi HN.out.2.symm HN.out.1.symm, iter_below _ _ _⟩
      · have hnx : ∀ ty, (Instr.next (.pointer (some ⟨w.heap.size, 0, none⟩)) true ty).run Tryd.prog (w.iter s pos) = _ := fun ty => run_next_end w s pos ty hlt
        have HN : Hid (tnB s.data.toList = true ∧ tnV s.data.toList = (x : Int)) := by
          have h7 := HS.out
          rw [List.take_of_length_le (by rw [HL.out]; omega)] at h7
          have h8 := tn_mk s.data.toList (by intro e; have := HL.out; rw [e] at this; simp at this; omega) h7.2 hz.out (by rw [← h7.1]; exact hx)
          show tnB s.data.toList = true ∧ tnV s.data.toList = (x : Int)
          rw [h7.1]; exact h8
        go_wp2
        go_ret2
        exact ⟨ret_twoi HN.out.2.symm HN.out.1.symm, iter_below _ _ _⟩

theorem impl_text (s : ByteArray) (w : World) (hs : s.size ≤ 1048576) :
    Calls Tryd.prog 9 #[.string s] w fun e w' => e = .returned (.tuple #[.int .i64 (tnV s.data.toList), .bool (tnB s.data.toList)]) ∧ Below w.heap.size w w' := by
  by_cases h0 : 0 < s.size
  · have hE := isEmpty_of s h0
    have hh := head_of s h0
    by_cases c1 : s[0].toNat = 48
    · have hb : s[0] = 48 := UInt8.toNat_inj.1 (by rw [c1]; rfl)
      have c1' : ((s[0].toNat : Int) == 48) = true := by rw [c1]; rfl
      by_cases c2 : s.data.toList = [48]
      · exact impl_text_loop s w h0 hs (Or.inl c2) hE (Or.inr ⟨c1', by rw [ByteArray.toList_eq, c2]; rfl⟩)
      · have hn := tn_no_zero _ (by rw [hh, hb]) c2
        rw [hn.1, hn.2]
        have c3 : (s.toList == [48]) = false := by rw [ByteArray.toList_eq]; simpa using c2
        clear hn hh hb c1 c2
        go_enter Tryd.func9, Tryd.ntmps9
        go_wp2
        go_ret2
        exact ⟨rfl, Below.refl _ _⟩
    · exact impl_text_loop s w h0 hs (Or.inr (by rw [hh]; intro e; apply c1; rw [Option.some.inj e]; rfl)) hE (Or.inl (by rw [beq_eq_false_iff_ne]; omega))
  · have hn := tn_no s.data.toList (fun k => k.1 (List.length_eq_zero_iff.1 (by rw [len_eq]; omega)))
    rw [hn.1, hn.2]
    have hE : s.toList.isEmpty = true := by
      rw [ByteArray.toList_eq, List.length_eq_zero_iff.1 (by rw [len_eq]; omega : s.data.toList.length = 0)]; rfl
    clear hn
    go_enter Tryd.func9, Tryd.ntmps9
    go_wp2
    go_ret2
    exact ⟨rfl, Below.refl _ _⟩

end Go.Proofs.YtjcbgegdccaoaadDoor
