/- Hash of the program. -/
import Derived.Test.YtjcbgegdccaoaafRows
import Derived.WalkKit
import Derived.ProofKit
import Derived.OpenShut
import Derived.ShutString
import Derived.Test.YtjcbgegdccaoaafHashPlain
namespace Go.Proofs.Ytjcbgegdccaoaaf
open Go.ChangeShapes Go.WideShapes Go.ChangeAt Go.RowKit
set_option linter.unusedVariables false

theorem impl_hash (s : ByteArray) (w : World) (hs : s.size ≤ 1048576) :
    Calls Try.prog 14 #[.string s] w fun e w' => e = .returned (.int .i64 (hashL s.data.toList)) ∧ Below w.heap.size w w' := by
  have hconv := run_bytes_of_string (P := Try.prog) w 9 29 5 s Try.underlying9 Try.underlying29 Try.underlying5
  generalize grownCap w s.size 0 5 = cap at hconv
  have hc : ∀ j (hj : j < s.size), (w.alloc (.cells (bytesRow s cap) 5 ((bytesRow s cap).size, (bytesRow s cap).size + 1))).cell? ⟨w.heap.size, j, none⟩ = some (.int .u8 (s[j].toNat : Int)) := fun j hj => by
    rw [World.cell?_alloc_mark, bytesRow_at s cap j hj]; rfl
  generalize bytesRow s cap = C at hconv hc
  go_enter Try.func14, Try.ntmps14
  go_wp2
  clear hconv
  have HC : Hid _ := hc
  clear hc
  go_loop [3, 9] (fun h i => ∃ (k : Nat) (x : Int), k ≤ s.size ∧ i = .int .i64 k ∧ h = .int .i64 x ∧ 0 ≤ x ∧ x ≤ 4294967295 ∧ Hid (x = hashL (s.data.toList.take k))) (fun _ i => s.size - (intOf i).toNat)
  case atStart => exact ⟨0, _, Nat.zero_le _, rfl, rfl, by decide, by decide, rfl⟩
  case round =>
    obtain ⟨k, x, hk, rfl, rfl, hx1, hx2, HS⟩ := hrel
    by_cases hlt : k < s.size
    · have hb0 : s[k].toNat < 256 := UInt8.toNat_lt _
      obtain ⟨y1, y2⟩ := xor_bd x s[k].toNat hx1 hx2 hb0
      have hb : (s[k].toNat : Int) < 256 := by omega
      have hck := HC.out k hlt
      have HT : Hid (s.data.toList.take (k + 1) = s.data.toList.take k ++ [s[k]]) := take_snoch s k hlt
      go_wp2
      go_round
      case rel => exact ⟨k + 1, _, by omega, by go_num, rfl, by omega, by omega, by rw [HT.out, hashL_snoc, ← HS.out]; rfl⟩
      case measure => simp [intOf]; omega
    · have HT : Hid (s.data.toList.take k = s.data.toList) := List.take_of_length_le (by simp; omega)
      go_wp2
      go_ret
      exact ⟨ret_inth (by rw [HS.out, HT.out]), ((Below.refl _ _).alloc (Nat.le_refl _) _).drew⟩

end Go.Proofs.Ytjcbgegdccaoaaf
