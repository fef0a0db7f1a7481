/- For every int the law FnExactParent answers true: Parent of the program answers as its model. No condition. -/
import Derived.Test.YtjcbgegdccaoaagRows
import Derived.WalkKit
import Derived.ProofKit
import Derived.OpenShut
import Derived.ShutString
import Derived.Test.YtjcbgegdccaoaagShelf
import Derived.Lib.ItoaNum
namespace Go.Proofs.Ytjcbgegdccaoaag.fnExactParent
open Go.ChangeShapes Go.WideShapes Go.ChangeAt Go.RowKit
open Go.ChangeMaps (open_string shut_string)
set_option linter.unusedVariables false

theorem own : ownKnob Try.prog.godebug = none := by kernel_rfl

theorem top_bit (m k : Nat) (h1 : 2 ^ k ≤ m) (h2 : m < 2 ^ (k + 1)) (h3 : m < 4294967296) : Lib.bitLen m - 1 = k := by
  have hp : 0 < 2 ^ k := Nat.two_pow_pos k
  obtain ⟨a, b, c⟩ := Lib.bitLenAux_bounds 64 m (by omega) (by omega)
  show Lib.bitLenAux 64 m - 1 = k
  generalize Lib.bitLenAux 64 m = L at a b c
  have e : L = L - 1 + 1 := by omega
  rw [e] at c
  have h4 : L - 1 < k + 1 := (Nat.pow_lt_pow_iff_right (by decide)).1 (Nat.lt_of_le_of_lt b h2)
  have h5 : k < L - 1 + 1 := (Nat.pow_lt_pow_iff_right (by decide)).1 (Nat.lt_of_le_of_lt h1 c)
  omega
def parentI (n : Int) : Int := if 1 ≤ n ∧ n ≤ 4294967295 then n - ((2 ^ (Lib.bitLen n.toNat - 1) : Nat) : Int) else 0
theorem parentI_no (n : Int) (h : n < 1 ∨ 4294967295 < n) : parentI n = 0 := by
  unfold parentI; rw [if_neg (by omega)]
theorem parentI_yes (n : Int) (h1 : 1 ≤ n) (h2 : n ≤ 4294967295) : parentI n = n - ((2 ^ (Lib.bitLen n.toNat - 1) : Nat) : Int) := by
  unfold parentI; rw [if_pos ⟨h1, h2⟩]
theorem bitLen_bd (m : Nat) (h0 : 1 ≤ m) (h : m < 4294967296) : 1 ≤ Lib.bitLen m ∧ Lib.bitLen m ≤ 32 ∧ 2 ^ (Lib.bitLen m - 1) ≤ m := by
  obtain ⟨a, b, c⟩ := Lib.bitLenAux_bounds 64 m (by omega) (by omega)
  exact ⟨a, Lib.bitLen_le m 32 (by omega) h, b⟩
theorem ret_intp {k : IntKind} {a b : Int} (h : a = b) : Ending.returned (.int k a) = .returned (.int k b) := by rw [h]
theorem wrap_parent (n : Int) (h1 : 1 ≤ n) (h2 : n ≤ 4294967295) : wrap64 (n - wrap64 (2 ^ (Lib.bitLen n.toNat - 1))) = parentI n := by
  rw [parentI_yes n h1 h2]
  obtain ⟨_, _, b⟩ := bitLen_bd n.toNat (by omega) (by omega)
  have e : (2 : Int) ^ (Lib.bitLen n.toNat - 1) = ((2 ^ (Lib.bitLen n.toNat - 1) : Nat) : Int) := by simp
  rw [e]
  generalize 2 ^ (Lib.bitLen n.toNat - 1) = q at *
  unfold wrap64
  omega

theorem impl_parent_yes (n : Int) (w : World) (h1 : 1 ≤ n) (h2 : n ≤ 4294967295) :
    Calls Try.prog 11 #[.int .i64 n] w fun e w' => e = .returned (.int .i64 (parentI n)) ∧ w' = w := by
  have HW : Hid (wrap64 (n - wrap64 (2 ^ (Lib.bitLen n.toNat - 1))) = parentI n) := wrap_parent n h1 h2
  obtain ⟨c1, c2, _⟩ := bitLen_bd n.toNat (by omega) (by omega)
  have b1 : (1 : Int) ≤ ((Lib.bitLen n.toNat : Nat) : Int) := by omega
  have b2 : ((Lib.bitLen n.toNat : Nat) : Int) ≤ 32 := by omega
  clear c1 c2
  go_enter Try.func11, Try.ntmps11
  go_wp2_with (first | (go_at_call 24; refine (Try.bits_Len32 _ _ (by omega) (by omega)).mono ?_; rintro e w' ⟨rfl, rfl⟩) | go_in)
  go_ret
  exact ⟨ret_intp HW.out, rfl⟩

theorem impl_parent (n : Int) (w : World) :
    Calls Try.prog 11 #[.int .i64 n] w fun e w' => e = .returned (.int .i64 (parentI n)) ∧ w' = w := by
  by_cases h1 : 0 ≤ n
  · by_cases h2 : n ≤ 4294967295
    · by_cases h3 : n = 0
      · subst h3
        rw [parentI_no 0 (by omega)]
        go_enter Try.func11, Try.ntmps11
        go_wp2
        go_ret
        exact ⟨rfl, rfl⟩
      · exact impl_parent_yes n w (by omega) h2
    · rw [parentI_no n (by omega)]
      go_enter Try.func11, Try.ntmps11
      go_wp2
      go_ret
      exact ⟨rfl, rfl⟩
  · rw [parentI_no n (by omega)]
    go_enter Try.func11, Try.ntmps11
    go_wp2
    go_ret
    exact ⟨rfl, rfl⟩


theorem spec_parent_yes (n : Int) (w : World) (h1 : 1 ≤ n) (h2 : n ≤ 4294967295) :
    Calls Try.prog 10 #[.int .i64 n] w fun e w' => e = .returned (.int .i64 (parentI n)) ∧ w' = w := by
  rw [parentI_yes n h1 h2]
  obtain ⟨m, rfl⟩ := Int.eq_ofNat_of_zero_le (by omega : 0 ≤ n)
  rw [Int.toNat_natCast]
  go_enter Try.func10, Try.ntmps10
  go_wp2
  go_loop [3] (fun t => ∃ k b : Nat, t = .int .i64 b ∧ 1 ≤ b ∧ b ≤ m ∧ Hid (b = 2 ^ k)) (fun t => m - (intOf t).toNat)
  case atStart => exact ⟨0, 1, rfl, Nat.le_refl _, by omega, rfl⟩
  case round =>
    obtain ⟨k, b, rfl, hb1, hb2, HB⟩ := hrel
    by_cases hlt : b * 2 ≤ m
    · go_wp2
      go_round
      case rel => exact ⟨k + 1, b * 2, by go_num, by omega, hlt, by rw [HB.out, Nat.pow_succ]; rfl⟩
      case measure => simp [intOf]; omega
    · have HK : Hid (Lib.bitLen m - 1 = k) := by
        have hb := HB.out
        exact top_bit m k (by omega) (by rw [Nat.pow_succ]; omega) (by omega)
      go_wp2
      go_ret
      exact ⟨ret_intp (by rw [HK.out, HB.out]; simp), rfl⟩

theorem spec_parent (n : Int) (w : World) :
    Calls Try.prog 10 #[.int .i64 n] w fun e w' => e = .returned (.int .i64 (parentI n)) ∧ w' = w := by
  by_cases h1 : 1 ≤ n
  · by_cases h2 : n ≤ 4294967295
    · exact spec_parent_yes n w h1 h2
    · rw [parentI_no n (by omega)]
      go_enter Try.func10, Try.ntmps10
      go_wp2
      go_ret
      exact ⟨rfl, rfl⟩
  · rw [parentI_no n (by omega)]
    go_enter Try.func10, Try.ntmps10
    go_wp2
    go_ret
    exact ⟨rfl, rfl⟩



theorem walk (a0 : Int) (w0 : (Lit.int .i64 a0).wf = true) (w : World) :
    Calls Try.prog 4 #[.int .i64 a0] w fun e w' => e = .returned (.bool true) ∧ Grown w w' := by
  go_enter Try.func4, Try.ntmps4
  go_wp2_with (first | (go_at_call 10; refine (spec_parent _ _).mono ?_; rintro e w' ⟨rfl, rfl⟩) | (go_at_call 11; refine (impl_parent _ _).mono ?_; rintro e w' ⟨rfl, rfl⟩))
  go_ret
  exact ⟨rfl, by repeat (first | exact Grown.refl _ | apply Grown.drew | apply Grown.alloc)⟩

set_option maxRecDepth 100000 in
theorem lifted (os : Os) (started : os.Started) (H : Type) (enc : TypeId × Value → H) :
    ReturnsInHanded {} Try.checked os 4 .any (Rows.fnExactParentSpec.pre6 enc Try.prog Try.f4 Rows.fnExactParentRow.domain false) (Rows.fnExactParentSpec.post enc Try.prog Try.f4 false true false false) := by
  refine returnsInHanded_of_change (C := Try.checked) own started (by kernel_rfl) Try.func4
    (ChangeSpec.witness6 (enc := enc) (C := Try.checked) false ⟨#[], #[.int .i64 0], []⟩ 8 (by kernel_rfl) (by kernel_rfl) (by kernel_rfl) (by kernel_rfl)) ?_
  intro W base args ds gs before hval0 hW hcnd _
  have hval : ∀ (j : Nat) t v, Try.f4.params[j]? = some t → args[j]? = some v → Value.okWide Try.prog W .any base t v := hval0
  have hW' := hW
  obtain ⟨p, q, hA0, hV, rfl, hfz, hnd⟩ := hW
  have hA : DataW.TrodAll enc Try.prog W 0 (fun _ => true) true Try.f4.params.toList args.toList ds p := hA0
  rw [Try.params4] at hA hval
  obtain ⟨v0, vs0, d0, ds0, p0, q0, hargs, rfl, rfl, h0, r0⟩ := trodAll_cons hA
  obtain ⟨rfl, rfl, rfl⟩ := trodAll_nil r0
  obtain rfl : args = #[v0] := by cases args; simp_all
  obtain ⟨rfl, rfl⟩ := trodVars_none hV
  obtain ⟨a0, rfl, rfl, rfl, w0⟩ := open_int Try.underlying3 (hval 0 3 v0 rfl rfl) h0
  clear hA0 hval0
  simp only [List.append_nil] at hW'
  refine (walk a0 w0 W).mono fun e W' ⟨he, hg⟩ => ?_
  subst he
  exact ⟨_, rfl, post_of_same (pa := []) (pv := []) hW' (fun _ _ _ => (trodAll_cons_mk (shut_bool Try.underlying4 _) trodAll_mk0)) (fun sp _ => (trodAll_cons_mk (shut_int Try.underlying3 w0) trodAll_mk0)) (fun _ _ => rfl) rfl
    (hg.frame _) hg.2.1 (ok_one (by kernel_rfl) rfl (okWide_bool_mk Try.underlying4 _))⟩

theorem over : Rows.fnExactParentRow.holds Try.pinned (OpenSpec.ofChange Rows.fnExactParentSpec) :=
  OpenClaim.holds_of_wide 4 Try.f4 rfl rfl rfl rfl rfl rfl rfl ⟨rfl, rfl, rfl, rfl, rfl⟩ rfl rfl rfl rfl rfl (by kernel_rfl) Try.func4 (by kernel_rfl)
    (of_decide_eq_true (by kernel_rfl)) (by unfold Func.isWrapper; first | (rw [if_pos (by decide +kernel)]; kernel_rfl) | (rw [if_neg (by decide +kernel)]; exact ⟨rfl, rfl⟩))
    (fun os started H enc _ => lifted os started H enc)

theorem proved : Rows.FnExactParentSaid :=
  over
end Go.Proofs.Ytjcbgegdccaoaag.fnExactParent
namespace Go.Proofs.Ytjcbgegdccaoaag
theorem fnExactParent_holds : Rows.FnExactParentSaid := fnExactParent.proved
#print axioms fnExactParent_holds
end Go.Proofs.Ytjcbgegdccaoaag
