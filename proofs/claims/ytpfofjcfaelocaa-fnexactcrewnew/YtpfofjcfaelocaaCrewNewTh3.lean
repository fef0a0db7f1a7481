/- A new thread, by the program: whole. -/
import Derived.Test.YtpfofjcfaelocaaRows
import Derived.WalkKit
import Derived.ProofKit
import Derived.OpenShut
import Derived.ShutString
import Derived.Test.YtpfofjcfaelocaaCrewNewTh2
namespace Go.Proofs.Ytpfofjcfaelocaa
open Go.ChangeShapes Go.WideShapes Go.ChangeAt Go.RowKit
set_option linter.unusedVariables false

theorem impl_newthread (what : Int) (v0 v2 v3 : Value) (t : Th) (w : World) (hw : whB what = true) (hf : ThFit t) (h : ThIn w v0 v2 v3 t) :
    Calls Try.prog 18 #[.int .i64 what, .agg #[v0, .int .i64 t.at_, v2, v3]] w fun e w' => ∃ v0 v2 v3, e = .returned (.tuple #[.agg #[v0, .int .i64 0, v2, v3], .bool (thOkB what t)]) ∧ ThNew w w' v0 v2 v3 (thNewT what t) := by
  obtain ⟨a2, d2, rfl, -⟩ := h.bs.form
  obtain ⟨a3, d3, rfl, -⟩ := h.es.form
  obtain ⟨a0, d0, rfl, -, hA⟩ := h.cs
  by_cases hn : t.cs.length ≤ 12
  · obtain ⟨i0, hi0, hz0, hz1, hz2⟩ := info_parts infoCall
    obtain ⟨i1, hi1, hy0, hy1, hy2⟩ := info_parts info3
    refine impl_newthread_some what 0 0 a2 a3 t d0 t.bs.length d2 t.es.length d3 w hw hn (madeCells (.agg #[.int .i64 clZero.k, .int .i64 clZero.a, .int .i64 clZero.x, .int .i64 clZero.pc, .int .i64 clZero.p, .int .i64 clZero.c, .int .i64 clZero.w, .int .i64 clZero.r, .int .i64 clZero.v, .bool clZero.d] : Value).cells (t.cs.length * 10)) (madeCells (Value.int .i64 0).cells (t.cs.length * 1)) (by simp [madeCells]) (by simp [madeCells]) a0 hA (fun W => ?_) (fun W => ?_)
    · have := run_make (P := Try.prog) W 44 48 i0 _ Try.underlying44 hi0 hz0 .i64 .i64 (t.cs.length : Int) (t.cs.length : Int) (by omega) (Int.le_refl _) (by rw [hz2]; omega) (by omega)
      rw [hz1] at this
      simpa using this
    · have := run_make (P := Try.prog) W 24 3 i1 _ Try.underlying24 hi1 hy0 .i64 .i64 (t.cs.length : Int) (t.cs.length : Int) (by omega) (Int.le_refl _) (by rw [hy2]; omega) (by omega)
      rw [hy1] at this
      simpa using this
  · have hno := hidIt (show ¬ thOkN what t from fun g => hn g.1)
    have hB := hidIt (thOkB_no hno.out)
    have hT := hidIt (show thNewT what t = thZero by unfold thNewT; rw [thOkB_no hno.out]; simp)
    have h12 : (12 : Int) < (t.cs.length : Int) := by omega
    rw [hB.out, hT.out]
    clear hn
    go_enter Try.func18, Try.ntmps18
    go_wp2
    exact bodyPost_ret (v := .tuple #[.agg #[.slice none 0 0, .int .i64 0, .slice none 0 0, .slice none 0 0], .bool false]) (by simp [results, Try.results18, go_sem]) rfl ⟨.slice none 0 0, .slice none 0 0, .slice none 0 0, rfl, [], ⟨[], [], [], rfl, ⟨none, 0, rfl, Nat.le_refl _, .inl ⟨rfl, rfl⟩⟩, ⟨none, 0, rfl, trivial, .inl ⟨rfl, rfl⟩⟩, ⟨none, 0, rfl, trivial, .inl ⟨rfl, rfl⟩⟩⟩, List.nodup_nil, by simp, by repeat (first | exact Below.refl _ _ | refine Below.setCell ?_ (by simp <;> omega) _ | refine Below.alloc ?_ (by simp <;> omega) _)⟩

end Go.Proofs.Ytpfofjcfaelocaa
