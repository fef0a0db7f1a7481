/- Cutting a text at a byte below 128, by the program (rune by rune): the row of its parts. -/
import Derived.Test.YtjcbgegdccaoaagRows
import Derived.WalkKit
import Derived.ProofKit
import Derived.OpenShut
import Derived.ShutString
import Derived.Test.YtjcbgegdccaoaagCutSpec
namespace Go.Proofs.Ytjcbgegdccaoaag
open Go.ChangeShapes Go.WideShapes Go.ChangeAt Go.RowKit
set_option linter.unusedVariables false

theorem impl_iter_round {w wr : World} {s : ByteArray} {pos pos' : Nat} {v : Value} {n : Nat} {xs : List Value} (hit : wr.heap[w.heap.size]? = some (.stringIter s pos)) (hown : wr.ownsRow (w.heap.size + 1) 9 1 v n xs) (hb : Below w.heap.size w wr) :
    (wr.iterAt w.heap.size s pos').heap[w.heap.size]? = some (.stringIter s pos') ∧ (wr.iterAt w.heap.size s pos').ownsRow (w.heap.size + 1) 9 1 v n xs ∧ Below w.heap.size w (wr.iterAt w.heap.size s pos') ∧ w.heap.size + 1 ≤ (wr.iterAt w.heap.size s pos').heap.size := by
  refine ⟨Lib.iterAt_heap _ _ _ _ _ hit, ownsRow_iterAt hown (by omega) _ _, Lib.below_iterAt hb (Nat.le_refl _) _ _, ?_⟩
  rw [Lib.iterAt_size]
  exact (Array.getElem?_eq_some_iff.1 hit).1

set_option maxHeartbeats 800000 in
set_option maxRecDepth 100000 in
theorem impl_cut (s : ByteArray) (m : UInt8) (hm : m.toNat < 128) (w : World) (hs : s.size ≤ 1048576) :
    Calls Try.prog 27 #[.string s, .int .i32 (m.toNat : Int)] w fun e w' => ∃ v, e = .returned v ∧ w'.ownsRow w.heap.size 9 1 v (cutAll s m).length ((cutAll s m).map Value.string) ∧ Below w.heap.size w w' := by
  obtain ⟨i0, hi, hz0, hz1, hz2⟩ := info_parts infoS
  go_enter Try.func27, Try.ntmps27
  go_wp2
  go_loopw [5, 6] (fun v f wr => ∃ pos : Nat, pos ≤ s.size ∧ f = .int .i64 ((cutTo s m pos).2 : Nat) ∧ wr.heap[w.heap.size]? = some (.stringIter s pos) ∧ wr.ownsRow (w.heap.size + 1) 9 1 v (cutTo s m pos).1.length ((cutTo s m pos).1.map Value.string) ∧ Below w.heap.size w wr) (fun _ _ wr => s.size - wr.iterPos w.heap.size)
  case atStart => exact ⟨0, Nat.zero_le _, rfl, World.iter_heap w s 0, World.ownsRow_nil _ _ _ _, (Below.refl _ _).alloc (Nat.le_refl _) _⟩
  case round =>
    obtain ⟨pos, hp, rfl, hit, hown, hnx⟩ := hrel
    obtain ⟨hf1, hf2⟩ := cutTo_bd s m pos
    have HM : Hid (wr.iterPos w.heap.size = pos) := iterPos_of hit
    generalize hc : cutTo s m pos = c at hown hf1 hf2
    obtain ⟨ps, f⟩ := c
    have HC : Hid (cutTo s m pos = (ps, f)) := hc
    clear hc
    simp only at hown hf1 hf2
    by_cases hlt : pos < s.size
    · by_cases ha : s[pos].toNat < 128
      · have hrun : ∀ ty, (Instr.next (.pointer (some ⟨w.heap.size, 0, none⟩)) true ty).run Try.prog wr = _ := fun ty => Lib.run_next_ascii_at wr w.heap.size s pos ty hit hlt ha
        have ha' : (s[pos].toNat : Int) < 128 := by omega
        obtain ⟨h1, h2, h3, h4⟩ := impl_iter_round (pos' := pos + 1) hit hown hnx
        generalize wr.iterAt w.heap.size s (pos + 1) = wr2 at hrun h1 h2 h3 h4
        have HI : Hid _ := h1
        clear h1 hit hown hnx
        by_cases hh : s.get! pos = m
        · have ceq : ((s[pos].toNat : Int) == (m.toNat : Int)) = true := by rw [← get_bang s pos hlt, hh]; simp
          have HT : Hid (cutTo s m (pos + 1) = (ps ++ [s.extract f pos], pos + 1)) := by
            show cutTo s m (pos + 1) = _
            rw [cutTo_hit s m pos hh, HC.out]
          clear hh
          go_wp2_with (at_builtin; refine wpList_append_own _ rfl (.tmp 18) (.tmp 23) 29 rfl (w.heap.size + 1) 9 i0 (.string ⟨#[]⟩) 1 16 Try.underlying29 hi hz0 hz1 hz2 rfl (by decide) _ _ _ rfl (h2.alloc _) ⟨wr2.heap.size, 0, none⟩ 1 1 [.string (s.extract f pos)] rfl rfl ?c1 ?c2 ?c3 ?c4 ?c5 ?_)
          case c1 => exact cell_one_new _ _ _
          case c2 => intro u hu; simp at hu; subst hu; rfl
          case c3 => unfold maxLen; omega
          case c4 => omega
          case c5 => simp; omega
          intro v' w1 hown' hgrow _
          have hb1 : Below w.heap.size w w1 := (h3.alloc h3.size _).grown hgrow (by simp; omega) (fun g hg => by have := (h2.lt g hg).1; omega)
          have hi1 : w1.heap[w.heap.size]? = some (.stringIter s (pos + 1)) := by
            rw [hgrow.block w.heap.size (by simp; omega) (fun e => by have := (h2.lt _ e.symm).1; omega)]
            rw [Below.heap_alloc _ _ _ (by omega)]
            exact HI.out
          have HI1 : Hid _ := hi1
          clear hgrow h2 hi1
          go_wp2
          go_roundw
          case rel => exact ⟨pos + 1, by omega, by rw [HT.out]; go_num, HI1.out, by rw [HT.out]; simpa using hown', hb1⟩
          case measure => rw [iterPos_of HI1.out, HM.out]; omega
        · have ceq : ((s[pos].toNat : Int) == (m.toNat : Int)) = false := by
            rw [← get_bang s pos hlt, beq_eq_false_iff_ne]
            intro e
            exact hh (UInt8.toNat_inj.1 (by omega))
          have HT : Hid (cutTo s m (pos + 1) = (ps, f)) := by
            show cutTo s m (pos + 1) = _
            rw [cutTo_miss s m pos hh, HC.out]
          clear hh
          go_wp2
          go_roundw
          case rel => exact ⟨pos + 1, by omega, by rw [HT.out], HI.out, by rw [HT.out]; exact h2, h3⟩
          case measure => rw [iterPos_of HI.out, HM.out]; omega
      · have hrun : ∀ ty, (Instr.next (.pointer (some ⟨w.heap.size, 0, none⟩)) true ty).run Try.prog wr = _ := fun ty => Lib.run_next_any_at wr w.heap.size s pos ty hit hlt
        obtain ⟨h1, h2, h3, h4⟩ := impl_iter_round (pos' := pos + (Utf8.decode s pos).2) hit hown hnx
        obtain ⟨d1, d2⟩ := decode_cont s pos hlt (by omega)
        obtain ⟨d3, d4⟩ := decode_high s pos hlt (by omega)
        have HT : Hid (cutTo s m (pos + (Utf8.decode s pos).2) = (ps, f)) := by
          show cutTo s m (pos + (Utf8.decode s pos).2) = _
          rw [cutTo_skip s m pos _ (fun j j1 j2 e => by have := d2 j j1 j2; rw [e] at this; omega), HC.out]
        have ceq : (((Utf8.decode s pos).1 : Int) == (m.toNat : Int)) = false := by rw [beq_eq_false_iff_ne]; omega
        generalize wr.iterAt w.heap.size s (pos + (Utf8.decode s pos).2) = wr2 at hrun h1 h2 h3 h4
        have HI : Hid _ := h1
        have HD : Hid _ := d1
        clear h1 hit hown hnx d2 d1
        go_wp2
        go_roundw
        case rel => exact ⟨pos + (Utf8.decode s pos).2, HD.out, by rw [HT.out], HI.out, by rw [HT.out]; exact h2, h3⟩
        case measure => rw [iterPos_of HI.out, HM.out]; omega
    · have hrun : ∀ ty, (Instr.next (.pointer (some ⟨w.heap.size, 0, none⟩)) true ty).run Try.prog wr = _ := fun ty => Lib.run_next_end_at wr w.heap.size s pos ty hit hlt
      have HT : Hid (cutAll s m = ps ++ [s.extract f s.size]) := by
        show cutAll s m = _
        unfold cutAll
        rw [show s.size = pos by omega, HC.out]
      have hsz : w.heap.size + 1 ≤ wr.heap.size := (Array.getElem?_eq_some_iff.1 hit).1
      clear hit
      go_wp2_with (at_builtin; refine wpList_append_own _ rfl (.tmp 27) (.tmp 31) 29 rfl (w.heap.size + 1) 9 i0 (.string ⟨#[]⟩) 1 16 Try.underlying29 hi hz0 hz1 hz2 rfl (by decide) _ _ _ rfl (hown.alloc _) ⟨wr.heap.size, 0, none⟩ 1 1 [.string (s.extract f s.size)] rfl rfl ?c1 ?c2 ?c3 ?c4 ?c5 ?_)
      case c1 => exact cell_one_new _ _ _
      case c2 => intro u hu; simp at hu; subst hu; rfl
      case c3 => unfold maxLen; omega
      case c4 => omega
      case c5 => simp; omega
      intro v' w1 hown' hgrow _
      have hb1 : Below w.heap.size w w1 := (hnx.alloc hnx.size _).grown hgrow (by simp; omega) (fun g hg => by have := (hown.lt g hg).1; omega)
      clear hgrow hown
      go_wp2
      go_ret
      exact ⟨_, rfl, by rw [HT.out]; exact own_mono (by simpa using hown') (by omega), hb1⟩

end Go.Proofs.Ytjcbgegdccaoaag
