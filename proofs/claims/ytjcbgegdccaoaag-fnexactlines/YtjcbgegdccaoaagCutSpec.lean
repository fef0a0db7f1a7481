/- Cutting a text at a byte, by the model: the row of its parts. -/
import Derived.Test.YtjcbgegdccaoaagRows
import Derived.WalkKit
import Derived.ProofKit
import Derived.OpenShut
import Derived.ShutString
import Derived.Test.YtjcbgegdccaoaagCutPlain
namespace Go.Proofs.Ytjcbgegdccaoaag
open Go.ChangeShapes Go.WideShapes Go.ChangeAt Go.RowKit
set_option linter.unusedVariables false

theorem infoS : (Try.prog.info? 9).map (fun i => (i.zero, i.size, i.bytes)) = some (some (.string ⟨#[]⟩), 1, 16) := by kernel_rfl

set_option maxHeartbeats 800000 in
set_option maxRecDepth 100000 in
theorem spec_cut (s : ByteArray) (m : UInt8) (w : World) (hs : s.size ≤ 1048576) :
    Calls Try.prog 26 #[.string s, .int .u8 (m.toNat : Int)] w fun e w' => ∃ v, e = .returned v ∧ w'.ownsRow w.heap.size 9 1 v (cutAll s m).length ((cutAll s m).map Value.string) ∧ Below w.heap.size w w' := by
  obtain ⟨i0, hi, hz0, hz1, hz2⟩ := info_parts infoS
  go_enter Try.func26, Try.ntmps26
  go_wp2
  go_loopw [5, 6, 7] (fun v f i wr => ∃ k : Nat, k ≤ s.size ∧ i = .int .i64 k ∧ f = .int .i64 ((cutTo s m k).2 : Nat) ∧ wr.ownsRow w.heap.size 9 1 v (cutTo s m k).1.length ((cutTo s m k).1.map Value.string) ∧ Below w.heap.size w wr) (fun _ _ i _ => s.size - (intOf i).toNat)
  case atStart => exact ⟨0, Nat.zero_le _, rfl, rfl, World.ownsRow_made _ _ _ (Nat.le_refl _) (by unfold maxLen; omega) (by simp), (Below.refl _ _).alloc (Nat.le_refl _) _⟩
  case round =>
    obtain ⟨k, hk, rfl, rfl, hown, hnx⟩ := hrel
    obtain ⟨hf1, hf2⟩ := cutTo_bd s m k
    generalize hc : cutTo s m k = c at hown hf1 hf2
    obtain ⟨ps, f⟩ := c
    have HC : Hid (cutTo s m k = (ps, f)) := hc
    clear hc
    simp only at hown hf1 hf2
    have hsz := hnx.size
    by_cases hlt : k < s.size
    · by_cases hit : s.get! k = m
      · have ceq : ((s[k].toNat : Int) == (m.toNat : Int)) = true := by rw [← get_bang s k hlt, hit]; simp
        have HT : Hid (cutTo s m (k + 1) = (ps ++ [s.extract f k], k + 1)) := by
          show cutTo s m (k + 1) = _
          rw [cutTo_hit s m k hit, HC.out]
        clear hit
        go_wp2_with (at_builtin; refine wpList_append_own _ rfl (.tmp 20) (.tmp 25) 29 rfl w.heap.size 9 i0 (.string ⟨#[]⟩) 1 16 Try.underlying29 hi hz0 hz1 hz2 rfl (by decide) _ _ _ rfl (hown.alloc _) ⟨wr.heap.size, 0, none⟩ 1 1 [.string (s.extract f k)] rfl rfl ?c1 ?c2 ?c3 ?c4 ?c5 ?_)
        case c1 => exact cell_one_new _ _ _
        case c2 => intro u hu; simp at hu; subst hu; rfl
        case c3 => unfold maxLen; omega
        case c4 => omega
        case c5 => simp; omega
        intro v' w1 hown' hgrow _
        have hb1 : Below w.heap.size w w1 := (hnx.alloc hsz _).grown hgrow (by simp; omega) (fun g hg => (hown.lt g hg).1)
        clear hgrow hown
        go_wp2
        go_roundw
        case rel => exact ⟨k + 1, by omega, by go_num, by rw [HT.out]; go_num, by rw [HT.out]; simpa using hown', hb1⟩
        case measure => simp [intOf]; omega
      · have ceq : ((s[k].toNat : Int) == (m.toNat : Int)) = false := by
          rw [← get_bang s k hlt, beq_eq_false_iff_ne]
          intro e
          exact hit (UInt8.toNat_inj.1 (by omega))
        have HT : Hid (cutTo s m (k + 1) = (ps, f)) := by
          show cutTo s m (k + 1) = _
          rw [cutTo_miss s m k hit, HC.out]
        clear hit
        go_wp2
        go_roundw
        case rel => exact ⟨k + 1, by omega, by go_num, by rw [HT.out], by rw [HT.out]; exact hown, hnx⟩
        case measure => simp [intOf]; omega
    · have HT : Hid (cutAll s m = ps ++ [s.extract f s.size]) := by
        show cutAll s m = _
        unfold cutAll
        rw [show s.size = k by omega, HC.out]
      go_wp2_with (at_builtin; refine wpList_append_own _ rfl (.tmp 29) (.tmp 33) 29 rfl w.heap.size 9 i0 (.string ⟨#[]⟩) 1 16 Try.underlying29 hi hz0 hz1 hz2 rfl (by decide) _ _ _ rfl (hown.alloc _) ⟨wr.heap.size, 0, none⟩ 1 1 [.string (s.extract f s.size)] rfl rfl ?c1 ?c2 ?c3 ?c4 ?c5 ?_)
      case c1 => exact cell_one_new _ _ _
      case c2 => intro u hu; simp at hu; subst hu; rfl
      case c3 => unfold maxLen; omega
      case c4 => omega
      case c5 => simp; omega
      intro v' w1 hown' hgrow _
      have hb1 : Below w.heap.size w w1 := (hnx.alloc hsz _).grown hgrow (by simp; omega) (fun g hg => (hown.lt g hg).1)
      clear hgrow hown
      go_wp2
      go_ret
      exact ⟨_, rfl, by rw [HT.out]; simpa using hown', hb1⟩

end Go.Proofs.Ytjcbgegdccaoaag
