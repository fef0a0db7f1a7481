/- What a law's walk over crews knows: plain lemmas. -/
import Derived.Test.YtikliofkplbdpaaRows
import Derived.WalkKit
import Derived.ProofKit
import Derived.OpenShut
import Derived.ShutString
import Derived.Test.YtikliofkplbdpaaOpenCrew
import Derived.Test.YtikliofkplbdpaaAgePlain
import Derived.Test.YtikliofkplbdpaaStPlain
namespace Go.Proofs.Ytikliofkplbdpaa
open Go.ChangeShapes Go.WideShapes Go.ChangeAt Go.RowKit
set_option linter.unusedVariables false

theorem Sv.box5 {w W : World} {cs : List (Nat × Nat × Value)} {rs : List (Nat × Nat × (World → Prop))} (h : Sv w cs rs W) (x0 x1 x2 x3 x4 : Value) (T : TypeId) : Sv w ((W.heap.size, 0, x0) :: (W.heap.size, 1, x1) :: (W.heap.size, 2, x2) :: (W.heap.size, 3, x3) :: (W.heap.size, 4, x4) :: cs) rs (W.alloc (.cells #[x0, x1, x2, x3, x4] T)) :=
  (((((h.alloc _).cell (by simp) (by simp)).cell (by simp) (by simp)).cell (by simp) (by simp)).cell (by simp) (by simp)).cell (by simp) (by simp)
theorem Sv.get5 {w W : World} {cs : List (Nat × Nat × Value)} {rs : List (Nat × Nat × (World → Prop))} (h : Sv w cs rs W) {b : Nat} {x0 x1 x2 x3 x4 : Value} (h0 : (b, 0, x0) ∈ cs) (h1 : (b, 1, x1) ∈ cs) (h2 : (b, 2, x2) ∈ cs) (h3 : (b, 3, x3) ∈ cs) (h4 : (b, 4, x4) ∈ cs) : W.cell? ⟨b, 0, none⟩ = some x0 ∧ W.cell? ⟨b, 1, none⟩ = some x1 ∧ W.cell? ⟨b, 2, none⟩ = some x2 ∧ W.cell? ⟨b, 3, none⟩ = some x3 ∧ W.cell? ⟨b, 4, none⟩ = some x4 := ⟨h.get h0, h.get h1, h.get h2, h.get h3, h.get h4⟩
theorem pS_le (ts : List Th) (j : Nat) (hj : j < ts.length) : szTh ts[j] ≤ pS ts ts.length := by
  have h1 := pS_step ts j hj
  have h2 := pS_mono ts (show j + 1 ≤ ts.length by omega)
  omega
theorem ts_fit (ts : List Th) (h : pS ts ts.length ≤ 1048576) : TsFit ts := by
  intro j hj
  have := pS_le ts j hj
  unfold szTh at this
  refine ⟨?_, ?_, ?_⟩ <;> omega
theorem cw_fit (C : Cw) (h : C.m.length + szThs C.ts ≤ 1048576) : CwFit C := by
  unfold szThs at h
  exact ⟨by omega, by omega, ts_fit C.ts (by omega)⟩
def Within (lo hi : Nat) (fp : List Nat) : Prop := ∀ g ∈ fp, lo ≤ g ∧ g < hi
theorem CwO.within {lo hi : Nat} {vm vt : Value} {C : Cw} {fp : List Nat} (h : Within lo hi fp) : Loc lo hi (fun W => CwO W vm vt C fp) :=
  fun w w' p hk => p.loc' (fun g hg => hk g (h g hg).1 (h g hg).2)
theorem ThsO.within {lo hi : Nat} {v : Value} {ts : List Th} {fp : List Nat} (h : Within lo hi fp) : Loc lo hi (fun W => ThsO W v ts fp) :=
  fun w w' p hk => p.loc' (fun g hg => hk g (h g hg).1 (h g hg).2)
theorem IntsO.within {lo hi : Nat} {v : Value} {xs : List Int} {fp : List Nat} (h : Within lo hi fp) : Loc lo hi (fun W => IntsO W v xs fp) :=
  fun w w' p hk => p.loc' (fun g hg => hk g (h g hg).1 (h g hg).2)
theorem Kp.toOut {fp : List Nat} {w w' : World} {lo hi : Nat} (h : Kp fp w w') (k : Within lo hi fp) : Out lo hi w w' :=
  ⟨h.os, h.tape, h.output, h.size, fun x hx hn => h.block x hx (fun hm => by have := k x hm; omega)⟩

end Go.Proofs.Ytikliofkplbdpaa
