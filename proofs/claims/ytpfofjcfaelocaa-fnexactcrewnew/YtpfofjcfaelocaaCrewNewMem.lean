/- New cells for an object of whatever kind: both sides. -/
import Derived.Test.YtpfofjcfaelocaaRows
import Derived.WalkKit
import Derived.ProofKit
import Derived.OpenShut
import Derived.ShutString
import Derived.Test.YtpfofjcfaelocaaCrewOkPlain
import Derived.Test.YtpfofjcfaelocaaStNewSpec
import Derived.Test.YtpfofjcfaelocaaRiNewFns
import Derived.Test.YtpfofjcfaelocaaLiNewFns
namespace Go.Proofs.Ytpfofjcfaelocaa
open Go.ChangeShapes Go.WideShapes Go.ChangeAt Go.RowKit
set_option linter.unusedVariables false

def objL (what size : Int) (full : Bool) : List Int := if what = 1 then stNewL size full else if what = 2 then riNewL size else if what = 3 then liNewL size else []
def objOk (what size : Int) : Bool := if what = 1 then szB size else if what = 2 then rzB size else if what = 3 then szB size else false
theorem new_wh {what size : Int} (h : objOk what size = true) : whB what = true := by
  unfold objOk at h
  by_cases h1 : what = 1
  · subst h1; rfl
  · by_cases h2 : what = 2
    · subst h2; rfl
    · by_cases h3 : what = 3
      · subst h3; rfl
      · rw [if_neg h1, if_neg h2, if_neg h3] at h; cases h
theorem objL_len (what size : Int) (full : Bool) : (objL what size full).length ≤ 34 := by
  unfold objL stNewL riNewL liNewL szB rzB
  by_cases h1 : what = 1
  · rw [if_pos h1]
    split
    · rename_i h; have := of_decide_eq_true h; rw [stRow_len]; omega
    · simp
  · rw [if_neg h1]
    by_cases h2 : what = 2
    · rw [if_pos h2]
      split
      · rename_i h; have := of_decide_eq_true h; rw [riRow_len]; omega
      · simp
    · rw [if_neg h2]
      split
      · split
        · rename_i h; have := of_decide_eq_true h; simp; omega
        · simp
      · simp
theorem memNew_of {w w1 : World} {o : Obj} {v : Value} {L : List Int} {lo : Nat} (h : Row w1 lo w1.heap.size v (ints L)) (hl : w.heap.size < lo) (b : Below w.heap.size w w1) (x : Value) : IntsNew w (w1.setCell ⟨w.heap.size, 0, none⟩ x) v L := by
  obtain ⟨fp, h1, h2, h3⟩ := ints_own h (Nat.le_refl _)
  exact ⟨fp, h1.set (fun hm => by have := h3 _ hm; omega), h2, fun g hg => by have := h3 g hg; omega, b.setCell (Nat.le_refl _) _⟩
set_option maxHeartbeats 800000 in
set_option maxRecDepth 100000 in
theorem spec_newmem (what size : Int) (full : Bool) (w : World) :
    Calls Try.prog 14 #[.int .i64 what, .int .i64 size, .bool full] w fun e w' => ∃ v', e = .returned (.tuple #[.agg #[v'], .bool (objOk what size)]) ∧ IntsNew w w' v' (objL what size full) := by
  by_cases h1 : what = 1
  · subst h1
    rw [show objL 1 size full = stNewL size full from rfl, show objOk 1 size = szB size from rfl]
    go_enter Try.func14, Try.ntmps14
    go_wp2_with fail
    have b0 : Below w.heap.size w (w.alloc (.cells #[.slice none 0 0] 26)) := (Below.refl _ _).alloc (Nat.le_refl _) _
    have X0 := Bx.new w #[.slice none 0 0] 26
    refine (spec_stnew size full _).mono ?_
    rintro e w1 ⟨v1, rfl, r1, b1⟩
    have R1 := hidIt r1
    have B1 := hidIt (below_step b0 b1)
    have X1 := X0.below b1
    have k0 := X1.2.1 0
    have q0 := X1.2.2
    simp at k0
    obtain ⟨a1, c1, rfl⟩ := r1.form
    clear r1 b1 b0 X0 X1
    go_wp2
    refine bodyPost_ret (v := .tuple #[.agg #[.slice a1 (stNewL size full).length c1], .bool (szB size)]) (by simp [results, Try.results14, go_sem, k0]) rfl ⟨_, rfl, memNew_of (o := .cells #[] 0) R1.out (by simp) B1.out _⟩
  · by_cases h2 : what = 2
    · subst h2
      clear h1
      rw [show objL 2 size full = riNewL size from rfl, show objOk 2 size = rzB size from rfl]
      go_enter Try.func14, Try.ntmps14
      go_wp2_with fail
      have b0 : Below w.heap.size w (w.alloc (.cells #[.slice none 0 0] 26)) := (Below.refl _ _).alloc (Nat.le_refl _) _
      have X0 := Bx.new w #[.slice none 0 0] 26
      refine (spec_rinew size _).mono ?_
      rintro e w1 ⟨v1, rfl, r1, b1⟩
      have R1 := hidIt r1
      have B1 := hidIt (below_step b0 b1)
      have X1 := X0.below b1
      have k0 := X1.2.1 0
      have q0 := X1.2.2
      simp at k0
      obtain ⟨a1, c1, rfl⟩ := r1.form
      clear r1 b1 b0 X0 X1
      go_wp2
      refine bodyPost_ret (v := .tuple #[.agg #[.slice a1 (riNewL size).length c1], .bool (rzB size)]) (by simp [results, Try.results14, go_sem, k0]) rfl ⟨_, rfl, memNew_of (o := .cells #[] 0) R1.out (by simp) B1.out _⟩
    · by_cases h3 : what = 3
      · subst h3
        clear h1 h2
        rw [show objL 3 size full = liNewL size from rfl, show objOk 3 size = szB size from rfl]
        go_enter Try.func14, Try.ntmps14
        go_wp2_with fail
        have b0 : Below w.heap.size w (w.alloc (.cells #[.slice none 0 0] 26)) := (Below.refl _ _).alloc (Nat.le_refl _) _
        have X0 := Bx.new w #[.slice none 0 0] 26
        refine (spec_linew size _).mono ?_
        rintro e w1 ⟨v1, rfl, r1, b1⟩
        have R1 := hidIt r1
        have B1 := hidIt (below_step b0 b1)
        have X1 := X0.below b1
        have k0 := X1.2.1 0
        have q0 := X1.2.2
        simp at k0
        obtain ⟨a1, c1, rfl⟩ := r1.form
        clear r1 b1 b0 X0 X1
        go_wp2
        refine bodyPost_ret (v := .tuple #[.agg #[.slice a1 (liNewL size).length c1], .bool (szB size)]) (by simp [results, Try.results14, go_sem, k0]) rfl ⟨_, rfl, memNew_of (o := .cells #[] 0) R1.out (by simp) B1.out _⟩
      · rw [show objL what size full = [] by unfold objL; rw [if_neg h1, if_neg h2, if_neg h3], show objOk what size = false by unfold objOk; rw [if_neg h1, if_neg h2, if_neg h3]]
        have e1 : (what == 1) = false := by simpa using h1
        have e2 : (what == 2) = false := by simpa using h2
        have e3 : (what == 3) = false := by simpa using h3
        clear h1 h2 h3
        go_enter Try.func14, Try.ntmps14
        go_wp2
        exact bodyPost_ret (v := .tuple #[.agg #[.slice none 0 0], .bool false]) (by simp [results, Try.results14, go_sem]) rfl ⟨_, rfl, [], ⟨none, 0, rfl, trivial, .inl ⟨rfl, rfl⟩⟩, List.nodup_nil, by simp, by repeat (first | exact Below.refl _ _ | refine Below.setCell ?_ (by simp <;> omega) _ | refine Below.alloc ?_ (by simp <;> omega) _)⟩
set_option maxHeartbeats 800000 in
set_option maxRecDepth 100000 in
theorem impl_newmem (what size : Int) (full : Bool) (w : World) :
    Calls Try.prog 17 #[.int .i64 what, .int .i64 size, .bool full] w fun e w' => ∃ v', e = .returned (.tuple #[.agg #[v'], .bool (objOk what size)]) ∧ IntsNew w w' v' (objL what size full) := by
  by_cases h1 : what = 1
  · subst h1
    rw [show objL 1 size full = stNewL size full from rfl, show objOk 1 size = szB size from rfl]
    go_enter Try.func17, Try.ntmps17
    go_wp2_with fail
    have b0 : Below w.heap.size w (w.alloc (.cells #[.slice none 0 0] 26)) := (Below.refl _ _).alloc (Nat.le_refl _) _
    have X0 := Bx.new w #[.slice none 0 0] 26
    refine (impl_stnew size full _).mono ?_
    rintro e w1 ⟨v1, rfl, r1, b1⟩
    have R1 := hidIt r1
    have B1 := hidIt (below_step b0 b1)
    have X1 := X0.below b1
    have k0 := X1.2.1 0
    have q0 := X1.2.2
    simp at k0
    obtain ⟨a1, c1, rfl⟩ := r1.form
    clear r1 b1 b0 X0 X1
    go_wp2
    refine bodyPost_ret (v := .tuple #[.agg #[.slice a1 (stNewL size full).length c1], .bool (szB size)]) (by simp [results, Try.results17, go_sem, k0]) rfl ⟨_, rfl, memNew_of (o := .cells #[] 0) R1.out (by simp) B1.out _⟩
  · by_cases h2 : what = 2
    · subst h2
      clear h1
      rw [show objL 2 size full = riNewL size from rfl, show objOk 2 size = rzB size from rfl]
      go_enter Try.func17, Try.ntmps17
      go_wp2_with fail
      have b0 : Below w.heap.size w (w.alloc (.cells #[.slice none 0 0] 26)) := (Below.refl _ _).alloc (Nat.le_refl _) _
      have X0 := Bx.new w #[.slice none 0 0] 26
      refine (impl_rinew size _).mono ?_
      rintro e w1 ⟨v1, rfl, r1, b1⟩
      have R1 := hidIt r1
      have B1 := hidIt (below_step b0 b1)
      have X1 := X0.below b1
      have k0 := X1.2.1 0
      have q0 := X1.2.2
      simp at k0
      obtain ⟨a1, c1, rfl⟩ := r1.form
      clear r1 b1 b0 X0 X1
      go_wp2
      refine bodyPost_ret (v := .tuple #[.agg #[.slice a1 (riNewL size).length c1], .bool (rzB size)]) (by simp [results, Try.results17, go_sem, k0]) rfl ⟨_, rfl, memNew_of (o := .cells #[] 0) R1.out (by simp) B1.out _⟩
    · by_cases h3 : what = 3
      · subst h3
        clear h1 h2
        rw [show objL 3 size full = liNewL size from rfl, show objOk 3 size = szB size from rfl]
        go_enter Try.func17, Try.ntmps17
        go_wp2_with fail
        have b0 : Below w.heap.size w (w.alloc (.cells #[.slice none 0 0] 26)) := (Below.refl _ _).alloc (Nat.le_refl _) _
        have X0 := Bx.new w #[.slice none 0 0] 26
        refine (impl_linew size _).mono ?_
        rintro e w1 ⟨v1, rfl, r1, b1⟩
        have R1 := hidIt r1
        have B1 := hidIt (below_step b0 b1)
        have X1 := X0.below b1
        have k0 := X1.2.1 0
        have q0 := X1.2.2
        simp at k0
        obtain ⟨a1, c1, rfl⟩ := r1.form
        clear r1 b1 b0 X0 X1
        go_wp2
        refine bodyPost_ret (v := .tuple #[.agg #[.slice a1 (liNewL size).length c1], .bool (szB size)]) (by simp [results, Try.results17, go_sem, k0]) rfl ⟨_, rfl, memNew_of (o := .cells #[] 0) R1.out (by simp) B1.out _⟩
      · rw [show objL what size full = [] by unfold objL; rw [if_neg h1, if_neg h2, if_neg h3], show objOk what size = false by unfold objOk; rw [if_neg h1, if_neg h2, if_neg h3]]
        have e1 : (what == 1) = false := by simpa using h1
        have e2 : (what == 2) = false := by simpa using h2
        have e3 : (what == 3) = false := by simpa using h3
        clear h1 h2 h3
        go_enter Try.func17, Try.ntmps17
        go_wp2
        exact bodyPost_ret (v := .tuple #[.agg #[.slice none 0 0], .bool false]) (by simp [results, Try.results17, go_sem]) rfl ⟨_, rfl, [], ⟨none, 0, rfl, trivial, .inl ⟨rfl, rfl⟩⟩, List.nodup_nil, by simp, by repeat (first | exact Below.refl _ _ | refine Below.setCell ?_ (by simp <;> omega) _ | refine Below.alloc ?_ (by simp <;> omega) _)⟩

end Go.Proofs.Ytpfofjcfaelocaa
