/- What the law of CrewNew wants of a new crew: its bounds. Plain lemmas. -/
import Derived.Test.YtpfofjcfaelocaaRows
import Derived.WalkKit
import Derived.ProofKit
import Derived.OpenShut
import Derived.ShutString
import Derived.Test.YtpfofjcfaelocaaCrewNewC3
import Derived.Test.YtpfofjcfaelocaaCrewNewS3
import Derived.Test.YtpfofjcfaelocaaCrewHeld
import Derived.Test.YtpfofjcfaelocaaCwLaw
namespace Go.Proofs.Ytpfofjcfaelocaa
open Go.ChangeShapes Go.WideShapes Go.ChangeAt Go.RowKit
set_option linter.unusedVariables false

theorem szM_le (t : Th) : szM t ≤ 10 * szTh t + 1 := by unfold szM szTh; omega
theorem oT_most (ts : List Th) (k0 : Nat) : ∀ k, oT ts k0 k ≤ k0 + 10 * pS ts k + k
  | 0 => by simp [oT]
  | k + 1 => by
    have i := oT_most ts k0 k
    have j := szM_le (ts.getD k default)
    show oT ts k0 k + szM (ts.getD k default) ≤ k0 + 10 * (pS ts k + szTh (ts.getD k default)) + (k + 1)
    omega
theorem pS_map (f : Th → Th) (hf : ∀ t, szTh (f t) ≤ 3 * szTh t) (ts : List Th) : ∀ k, k ≤ ts.length → pS (ts.map f) k ≤ 3 * pS ts k
  | 0, _ => by simp [pS]
  | k + 1, h => by
    have i := pS_map f hf ts k (by omega)
    rw [pS_step (ts.map f) k (by rw [List.length_map]; exact h), pS_step ts k h]
    have := hf ts[k]
    simp only [List.getElem_map]
    omega
theorem newT_sz (what : Int) (t : Th) : szTh (thNewT what t) ≤ 3 * szTh t := by
  unfold thNewT
  split
  · unfold szTh thMade; simp; omega
  · exact Nat.le_trans (Nat.le_of_eq (show szTh thZero = 0 from rfl)) (Nat.zero_le _)
theorem ts_fit4 (ts : List Th) (h : pS ts ts.length ≤ 4194304) : TsFit ts := by
  intro j hj
  have := pS_le ts j hj
  unfold szTh at this
  refine ⟨?_, ?_, ?_⟩ <;> omega
theorem made_pS (what : Int) (ts : List Th) (h : szThs ts ≤ 1048576) : pS (ts.map (thNewT what)) (ts.map (thNewT what)).length ≤ 3145728 := by
  have h1 := pS_map (thNewT what) (newT_sz what) ts ts.length (Nat.le_refl _)
  rw [List.length_map]
  unfold szThs at h
  omega
theorem made_fit (what size : Int) (full : Bool) (ts : List Th) (h : szThs ts ≤ 1048576) : CwFit (cwNewC what size full ts) := by
  unfold cwNewC
  have h1 := made_pS what ts h
  have h2 := objL_len what size full
  unfold szThs at h
  split
  · exact ⟨by show (objL what size full).length ≤ _; omega, by show (ts.map _).length ≤ _; rw [List.length_map]; omega, ts_fit4 _ (by show pS (ts.map _) (ts.map _).length ≤ _; omega)⟩
  · exact ⟨by simp [cwZero], by simp [cwZero], fun j hj => by simp [cwZero] at hj⟩
theorem made_end (what size : Int) (full : Bool) (ts : List Th) (h : szThs ts ≤ 1048576) : endM 1 (cwNewC what size full ts) ≤ 1073741824 := by
  unfold cwNewC endM
  have h1 := made_pS what ts h
  have h2 := objL_len what size full
  unfold szThs at h
  split
  · show oT (ts.map (thNewT what)) (1 + (objL what size full).length) (ts.map (thNewT what)).length ≤ _
    have := oT_most (ts.map (thNewT what)) (1 + (objL what size full).length) (ts.map (thNewT what)).length
    rw [List.length_map] at *
    omega
  · simp [cwZero, oT]
theorem arg_end (ts : List Th) (h : szThs ts ≤ 1048576) : oT ts 1 ts.length ≤ 1073741824 := by
  have := oT_most ts 1 ts.length
  unfold szThs at h
  omega
theorem arg_fit (ts : List Th) (h : szThs ts ≤ 1048576) : TsFit ts := ts_fit ts (by unfold szThs at h; omega)

end Go.Proofs.Ytpfofjcfaelocaa
