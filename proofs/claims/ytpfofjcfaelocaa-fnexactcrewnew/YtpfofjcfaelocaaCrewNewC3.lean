/- A new crew, by the program: whole. -/
import Derived.Test.YtpfofjcfaelocaaRows
import Derived.WalkKit
import Derived.ProofKit
import Derived.OpenShut
import Derived.ShutString
import Derived.Test.YtpfofjcfaelocaaCrewNewC2
namespace Go.Proofs.Ytpfofjcfaelocaa
open Go.ChangeShapes Go.WideShapes Go.ChangeAt Go.RowKit
set_option linter.unusedVariables false

set_option maxHeartbeats 3200000 in
set_option maxRecDepth 100000 in
theorem impl_crewnew (what size : Int) (full : Bool) (v : Value) (ts : List Th) (w : World) (hn : ts.length ≤ 4194304) (hf : ∀ j (hj : j < ts.length), ThFit ts[j]) (h : ThsIn w v ts) :
    Calls Try.prog 7 #[.int .i64 what, .int .i64 size, .bool full, v] w fun e w' => ∃ vm vt, e = .returned (.tuple #[.agg #[.int .i64 (cwNewC what size full ts).what, .int .i64 (cwNewC what size full ts).size, vm, vt, .int .i64 (cwNewC what size full ts).clock], .bool (cnOkB what size ts)]) ∧ CwNew w w' vm vt (cwNewC what size full ts) := by
  obtain ⟨xt, xd, rfl, -, hA⟩ := h
  by_cases hg : objOk what size = true ∧ ts.length ≤ 6
  · obtain ⟨hk, h6⟩ := hg
    obtain ⟨i0, hi0, hz0, hz1, hz2⟩ := info_parts infoTh
    refine impl_crewnew_some what size full xt ts xd w h6 hk hf (madeCells (Value.agg #[.slice none 0 0, .int .i64 0, .slice none 0 0, .slice none 0 0]).cells (ts.length * 4)) (by simp [madeCells]) hA (fun W => ?_)
    have := run_make (P := Try.prog) W 27 46 i0 _ Try.underlying27 hi0 hz0 .i64 .i64 (ts.length : Int) (ts.length : Int) (by omega) (Int.le_refl _) (by rw [hz2]; omega) (by omega)
    rw [hz1] at this
    simpa using this
  · have hno := hidIt (show ¬ cnOkN what size ts from fun g => hg ⟨g.1, g.2.1⟩)
    have hB := hidIt (cnOkB_no hno.out)
    have hT := hidIt (cwNewC_no (full := full) hno.out)
    have HG := hidIt hg
    clear hg hA hf
    go_enter Try.func7, Try.ntmps7
    go_wp2_with fail
    have X0 := Bx.new w #[.int .i64 0, .int .i64 0, .slice none 0 0, .slice none 0 0, .int .i64 0] 29
    have b0 : Below w.heap.size w (w.alloc (.cells #[.int .i64 0, .int .i64 0, .slice none 0 0, .slice none 0 0, .int .i64 0] 29)) := (Below.refl _ _).alloc (Nat.le_refl _) _
    refine (impl_newmem what size full _).mono ?_
    rintro e w1 ⟨v1, rfl, f1, o1, nd1, g1, b1⟩
    obtain ⟨a1, c1, rfl, -⟩ := o1.rd.form
    generalize objL what size full = L at o1 ⊢
    have X1 := X0.below b1
    have m0 := X1.2.1 0
    have m1 := X1.2.1 1
    have m2 := X1.2.1 2
    have m3 := X1.2.1 3
    have m4 := X1.2.1 4
    have q1 := X1.2.2
    have hlt := X1.1
    simp at m0 m1 m2 m3 m4
    have hb := hidIt (below_step b0 b1)
    clear o1 nd1 g1 b1 b0 X0 X1
    by_cases hk : objOk what size = true
    · have h6 : (6 : Int) < (ts.length : Int) := by
        have := Nat.lt_of_not_le (fun h => HG.out ⟨hk, h⟩)
        omega
      rw [hk]
      go_wp2
      refine bodyPost_ret (v := .tuple #[.agg #[.int .i64 0, .int .i64 0, .slice none 0 0, .slice none 0 0, .int .i64 0], .bool false]) (by simp [results, Try.results7, go_sem, m0, m1, m2, m3, m4, hlt]) rfl ⟨.slice none 0 0, .slice none 0 0, by rw [hB.out, hT.out]; rfl, ?_⟩
      rw [hT.out]
      exact ⟨[], zero_owns _, List.nodup_nil, by simp, by repeat (first | (with_reducible exact hb.out) | (with_reducible refine Below.setCell ?_ (by simp) _) | (with_reducible refine Below.alloc ?_ (by simp <;> omega) _))⟩
    · have hk' : objOk what size = false := by simpa using hk
      rw [hk']
      go_wp2
      refine bodyPost_ret (v := .tuple #[.agg #[.int .i64 0, .int .i64 0, .slice none 0 0, .slice none 0 0, .int .i64 0], .bool false]) (by simp [results, Try.results7, go_sem, m0, m1, m2, m3, m4, hlt]) rfl ⟨.slice none 0 0, .slice none 0 0, by rw [hB.out, hT.out]; rfl, ?_⟩
      rw [hT.out]
      exact ⟨[], zero_owns _, List.nodup_nil, by simp, by repeat (first | (with_reducible exact hb.out) | (with_reducible refine Below.setCell ?_ (by simp) _) | (with_reducible refine Below.alloc ?_ (by simp <;> omega) _))⟩

end Go.Proofs.Ytpfofjcfaelocaa
