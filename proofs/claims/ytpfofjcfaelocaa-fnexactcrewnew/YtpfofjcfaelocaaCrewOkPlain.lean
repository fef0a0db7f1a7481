/- What a crew must be: the object, the times, the beginnings: both sides of the small functions. -/
import Derived.Test.YtpfofjcfaelocaaRows
import Derived.WalkKit
import Derived.ProofKit
import Derived.OpenShut
import Derived.ShutString
import Derived.Test.YtpfofjcfaelocaaCwLaw
import Derived.Test.YtpfofjcfaelocaaLiNewFns
import Derived.Test.YtpfofjcfaelocaaStackImpl1
import Derived.Test.YtpfofjcfaelocaaRiRing
import Derived.Test.YtpfofjcfaelocaaStackSpec1
import Derived.Test.YtpfofjcfaelocaaRiCallFns
import Derived.Test.YtpfofjcfaelocaaLiCallFns
import Derived.Deep.LoopGhost
import Derived.Deep.RegionHeld3
namespace Go.Proofs.Ytpfofjcfaelocaa
open Go.ChangeShapes Go.WideShapes Go.ChangeAt Go.RowKit
set_option linter.unusedVariables false

theorem below_box {w w' : World} {o : Obj} (b : Below (w.alloc o).heap.size (w.alloc o) w') : Below w.heap.size w w' := ((Below.refl _ _).alloc (Nat.le_refl _) _).trans (b.mono (by simp))
def stkB (n : Int) (m : Nat) : Bool := szB n && decide ((m : Int) = 1 + n)
def plcB (n k : Int) : Bool := decide (0 ≤ k ∧ k < n)
def lstB (n : Int) (m : Nat) : Bool := szB n && decide ((m : Int) = 1 + 2 * n)
def objB (what size : Int) (n : Nat) : Bool := if what = 1 then stkB size n else if what = 2 then rngB size n else if what = 3 then lstB size n else false
def whB (what : Int) : Bool := decide (1 ≤ what ∧ what ≤ 3)
def cellsN (what size : Int) : Int := if what = 1 then 1 + size else if what = 2 then 2 + 2 * size else 1 + 2 * size
def begC (what : Int) (c : Cl) : Cl := if what = 1 then stCall c.k c.a else if what = 2 then stCall c.k c.a else liCall c.k c.a c.x
set_option maxHeartbeats 800000 in
set_option maxRecDepth 100000 in
theorem spec_begin (what : Int) (c : Cl) (w : World) (h : whB what = true) :
    Calls Try.prog 15 #[.int .i64 what, .agg #[.int .i64 c.k, .int .i64 c.a, .int .i64 c.x, .int .i64 c.pc, .int .i64 c.p, .int .i64 c.c, .int .i64 c.w, .int .i64 c.r, .int .i64 c.v, .bool c.d]] w fun e w' => e = .returned (.agg #[.int .i64 (begC what c).k, .int .i64 (begC what c).a, .int .i64 (begC what c).x, .int .i64 (begC what c).pc, .int .i64 (begC what c).p, .int .i64 (begC what c).c, .int .i64 (begC what c).w, .int .i64 (begC what c).r, .int .i64 (begC what c).v, .bool (begC what c).d]) ∧ Below w.heap.size w w' := by
  have hw : 1 ≤ what ∧ what ≤ 3 := of_decide_eq_true h
  clear h
  by_cases h1 : what = 1
  · subst h1
    rw [show begC 1 c = stCall c.k c.a from if_pos rfl]
    generalize hr : stCall c.k c.a = r
    have HR := hidIt hr
    clear hr hw
    go_enter Try.func15, Try.ntmps15
    go_wp2_with fail
    generalize hW : World.alloc (World.alloc w _) _ = W0
    have X := bx2 w #[.int .i64 c.k, .int .i64 c.a, .int .i64 c.x, .int .i64 c.pc, .int .i64 c.p, .int .i64 c.c, .int .i64 c.w, .int .i64 c.r, .int .i64 c.v, .bool c.d] #[.int .i64 0, .int .i64 0, .int .i64 0, .int .i64 0, .int .i64 0, .int .i64 0, .int .i64 0, .int .i64 0, .int .i64 0, .bool false] 48 48
    rw [hW] at X
    clear hW
    obtain ⟨X0, X1, bW, zW⟩ := X
    refine (spec_stcall c.k c.a _).mono ?_
    rintro e w1 ⟨rfl, b1⟩
    rw [HR.out]
    have B1 := hidIt (below_step bW b1)
    have Y := X1.below b1
    have k0 := Y.2.1 0
    have k1 := Y.2.1 1
    have k2 := Y.2.1 2
    have k3 := Y.2.1 3
    have k4 := Y.2.1 4
    have k5 := Y.2.1 5
    have k6 := Y.2.1 6
    have k7 := Y.2.1 7
    have k8 := Y.2.1 8
    have k9 := Y.2.1 9
    have q1 := Y.2.2
    simp at k0 k1 k2 k3 k4 k5 k6 k7 k8 k9
    clear b1 Y X0 X1 bW
    go_wp2
    refine bodyPost_ret (v := .agg #[.int .i64 r.k, .int .i64 r.a, .int .i64 r.x, .int .i64 r.pc, .int .i64 r.p, .int .i64 r.c, .int .i64 r.w, .int .i64 r.r, .int .i64 r.v, .bool r.d]) (by simp [results, Try.results15, go_sem, k0, k1, k2, k3, k4, k5, k6, k7, k8, k9]) rfl ⟨rfl, ?_⟩
    exact (((((((((B1.out.setCell (by simp <;> omega) _).setCell (by simp <;> omega) _).setCell (by simp <;> omega) _).setCell (by simp <;> omega) _).setCell (by simp <;> omega) _).setCell (by simp <;> omega) _).setCell (by simp <;> omega) _).setCell (by simp <;> omega) _).setCell (by simp <;> omega) _).setCell (by simp <;> omega) _
  · by_cases h2 : what = 2
    · subst h2
      clear h1
      rw [show begC 2 c = stCall c.k c.a from rfl]
      generalize hr : stCall c.k c.a = r
      have HR := hidIt hr
      clear hr hw
      go_enter Try.func15, Try.ntmps15
      go_wp2_with fail
      generalize hW : World.alloc (World.alloc w _) _ = W0
      have X := bx2 w #[.int .i64 c.k, .int .i64 c.a, .int .i64 c.x, .int .i64 c.pc, .int .i64 c.p, .int .i64 c.c, .int .i64 c.w, .int .i64 c.r, .int .i64 c.v, .bool c.d] #[.int .i64 0, .int .i64 0, .int .i64 0, .int .i64 0, .int .i64 0, .int .i64 0, .int .i64 0, .int .i64 0, .int .i64 0, .bool false] 48 48
      rw [hW] at X
      clear hW
      obtain ⟨X0, X1, bW, zW⟩ := X
      refine (spec_ricall c.k c.a _).mono ?_
      rintro e w1 ⟨rfl, b1⟩
      rw [HR.out]
      have B1 := hidIt (below_step bW b1)
      have Y := X1.below b1
      have k0 := Y.2.1 0
      have k1 := Y.2.1 1
      have k2 := Y.2.1 2
      have k3 := Y.2.1 3
      have k4 := Y.2.1 4
      have k5 := Y.2.1 5
      have k6 := Y.2.1 6
      have k7 := Y.2.1 7
      have k8 := Y.2.1 8
      have k9 := Y.2.1 9
      have q1 := Y.2.2
      simp at k0 k1 k2 k3 k4 k5 k6 k7 k8 k9
      clear b1 Y X0 X1 bW
      go_wp2
      refine bodyPost_ret (v := .agg #[.int .i64 r.k, .int .i64 r.a, .int .i64 r.x, .int .i64 r.pc, .int .i64 r.p, .int .i64 r.c, .int .i64 r.w, .int .i64 r.r, .int .i64 r.v, .bool r.d]) (by simp [results, Try.results15, go_sem, k0, k1, k2, k3, k4, k5, k6, k7, k8, k9]) rfl ⟨rfl, ?_⟩
      exact (((((((((B1.out.setCell (by simp <;> omega) _).setCell (by simp <;> omega) _).setCell (by simp <;> omega) _).setCell (by simp <;> omega) _).setCell (by simp <;> omega) _).setCell (by simp <;> omega) _).setCell (by simp <;> omega) _).setCell (by simp <;> omega) _).setCell (by simp <;> omega) _).setCell (by simp <;> omega) _
    · obtain rfl : what = 3 := by omega
      clear h1 h2
      rw [show begC 3 c = liCall c.k c.a c.x from rfl]
      generalize hr : liCall c.k c.a c.x = r
      have HR := hidIt hr
      clear hr hw
      go_enter Try.func15, Try.ntmps15
      go_wp2_with fail
      generalize hW : World.alloc (World.alloc w _) _ = W0
      have X := bx2 w #[.int .i64 c.k, .int .i64 c.a, .int .i64 c.x, .int .i64 c.pc, .int .i64 c.p, .int .i64 c.c, .int .i64 c.w, .int .i64 c.r, .int .i64 c.v, .bool c.d] #[.int .i64 0, .int .i64 0, .int .i64 0, .int .i64 0, .int .i64 0, .int .i64 0, .int .i64 0, .int .i64 0, .int .i64 0, .bool false] 48 48
      rw [hW] at X
      clear hW
      obtain ⟨X0, X1, bW, zW⟩ := X
      refine (spec_licall c.k c.a c.x _).mono ?_
      rintro e w1 ⟨rfl, b1⟩
      rw [HR.out]
      have B1 := hidIt (below_step bW b1)
      have Y := X1.below b1
      have k0 := Y.2.1 0
      have k1 := Y.2.1 1
      have k2 := Y.2.1 2
      have k3 := Y.2.1 3
      have k4 := Y.2.1 4
      have k5 := Y.2.1 5
      have k6 := Y.2.1 6
      have k7 := Y.2.1 7
      have k8 := Y.2.1 8
      have k9 := Y.2.1 9
      have q1 := Y.2.2
      simp at k0 k1 k2 k3 k4 k5 k6 k7 k8 k9
      clear b1 Y X0 X1 bW
      go_wp2
      refine bodyPost_ret (v := .agg #[.int .i64 r.k, .int .i64 r.a, .int .i64 r.x, .int .i64 r.pc, .int .i64 r.p, .int .i64 r.c, .int .i64 r.w, .int .i64 r.r, .int .i64 r.v, .bool r.d]) (by simp [results, Try.results15, go_sem, k0, k1, k2, k3, k4, k5, k6, k7, k8, k9]) rfl ⟨rfl, ?_⟩
      exact (((((((((B1.out.setCell (by simp <;> omega) _).setCell (by simp <;> omega) _).setCell (by simp <;> omega) _).setCell (by simp <;> omega) _).setCell (by simp <;> omega) _).setCell (by simp <;> omega) _).setCell (by simp <;> omega) _).setCell (by simp <;> omega) _).setCell (by simp <;> omega) _).setCell (by simp <;> omega) _
set_option maxHeartbeats 800000 in
set_option maxRecDepth 100000 in
theorem impl_begin (what : Int) (c : Cl) (w : World) (h : whB what = true) :
    Calls Try.prog 39 #[.int .i64 what, .agg #[.int .i64 c.k, .int .i64 c.a, .int .i64 c.x, .int .i64 c.pc, .int .i64 c.p, .int .i64 c.c, .int .i64 c.w, .int .i64 c.r, .int .i64 c.v, .bool c.d]] w fun e w' => e = .returned (.agg #[.int .i64 (begC what c).k, .int .i64 (begC what c).a, .int .i64 (begC what c).x, .int .i64 (begC what c).pc, .int .i64 (begC what c).p, .int .i64 (begC what c).c, .int .i64 (begC what c).w, .int .i64 (begC what c).r, .int .i64 (begC what c).v, .bool (begC what c).d]) ∧ Below w.heap.size w w' := by
  have hw : 1 ≤ what ∧ what ≤ 3 := of_decide_eq_true h
  clear h
  by_cases h1 : what = 1
  · subst h1
    rw [show begC 1 c = stCall c.k c.a from if_pos rfl]
    generalize hr : stCall c.k c.a = r
    have HR := hidIt hr
    clear hr hw
    go_enter Try.func39, Try.ntmps39
    go_wp2_with fail
    generalize hW : World.alloc (World.alloc w _) _ = W0
    have X := bx2 w #[.int .i64 c.k, .int .i64 c.a, .int .i64 c.x, .int .i64 c.pc, .int .i64 c.p, .int .i64 c.c, .int .i64 c.w, .int .i64 c.r, .int .i64 c.v, .bool c.d] #[.int .i64 0, .int .i64 0, .int .i64 0, .int .i64 0, .int .i64 0, .int .i64 0, .int .i64 0, .int .i64 0, .int .i64 0, .bool false] 48 48
    rw [hW] at X
    clear hW
    obtain ⟨X0, X1, bW, zW⟩ := X
    refine (impl_stcall c.k c.a _).mono ?_
    rintro e w1 ⟨rfl, b1⟩
    rw [HR.out]
    have B1 := hidIt (below_step bW b1)
    have Y := X1.below b1
    have k0 := Y.2.1 0
    have k1 := Y.2.1 1
    have k2 := Y.2.1 2
    have k3 := Y.2.1 3
    have k4 := Y.2.1 4
    have k5 := Y.2.1 5
    have k6 := Y.2.1 6
    have k7 := Y.2.1 7
    have k8 := Y.2.1 8
    have k9 := Y.2.1 9
    have q1 := Y.2.2
    simp at k0 k1 k2 k3 k4 k5 k6 k7 k8 k9
    clear b1 Y X0 X1 bW
    go_wp2
    refine bodyPost_ret (v := .agg #[.int .i64 r.k, .int .i64 r.a, .int .i64 r.x, .int .i64 r.pc, .int .i64 r.p, .int .i64 r.c, .int .i64 r.w, .int .i64 r.r, .int .i64 r.v, .bool r.d]) (by simp [results, Try.results39, go_sem, k0, k1, k2, k3, k4, k5, k6, k7, k8, k9]) rfl ⟨rfl, ?_⟩
    exact (((((((((B1.out.setCell (by simp <;> omega) _).setCell (by simp <;> omega) _).setCell (by simp <;> omega) _).setCell (by simp <;> omega) _).setCell (by simp <;> omega) _).setCell (by simp <;> omega) _).setCell (by simp <;> omega) _).setCell (by simp <;> omega) _).setCell (by simp <;> omega) _).setCell (by simp <;> omega) _
  · by_cases h2 : what = 2
    · subst h2
      clear h1
      rw [show begC 2 c = stCall c.k c.a from rfl]
      generalize hr : stCall c.k c.a = r
      have HR := hidIt hr
      clear hr hw
      go_enter Try.func39, Try.ntmps39
      go_wp2_with fail
      generalize hW : World.alloc (World.alloc w _) _ = W0
      have X := bx2 w #[.int .i64 c.k, .int .i64 c.a, .int .i64 c.x, .int .i64 c.pc, .int .i64 c.p, .int .i64 c.c, .int .i64 c.w, .int .i64 c.r, .int .i64 c.v, .bool c.d] #[.int .i64 0, .int .i64 0, .int .i64 0, .int .i64 0, .int .i64 0, .int .i64 0, .int .i64 0, .int .i64 0, .int .i64 0, .bool false] 48 48
      rw [hW] at X
      clear hW
      obtain ⟨X0, X1, bW, zW⟩ := X
      refine (impl_ricall c.k c.a _).mono ?_
      rintro e w1 ⟨rfl, b1⟩
      rw [HR.out]
      have B1 := hidIt (below_step bW b1)
      have Y := X1.below b1
      have k0 := Y.2.1 0
      have k1 := Y.2.1 1
      have k2 := Y.2.1 2
      have k3 := Y.2.1 3
      have k4 := Y.2.1 4
      have k5 := Y.2.1 5
      have k6 := Y.2.1 6
      have k7 := Y.2.1 7
      have k8 := Y.2.1 8
      have k9 := Y.2.1 9
      have q1 := Y.2.2
      simp at k0 k1 k2 k3 k4 k5 k6 k7 k8 k9
      clear b1 Y X0 X1 bW
      go_wp2
      refine bodyPost_ret (v := .agg #[.int .i64 r.k, .int .i64 r.a, .int .i64 r.x, .int .i64 r.pc, .int .i64 r.p, .int .i64 r.c, .int .i64 r.w, .int .i64 r.r, .int .i64 r.v, .bool r.d]) (by simp [results, Try.results39, go_sem, k0, k1, k2, k3, k4, k5, k6, k7, k8, k9]) rfl ⟨rfl, ?_⟩
      exact (((((((((B1.out.setCell (by simp <;> omega) _).setCell (by simp <;> omega) _).setCell (by simp <;> omega) _).setCell (by simp <;> omega) _).setCell (by simp <;> omega) _).setCell (by simp <;> omega) _).setCell (by simp <;> omega) _).setCell (by simp <;> omega) _).setCell (by simp <;> omega) _).setCell (by simp <;> omega) _
    · obtain rfl : what = 3 := by omega
      clear h1 h2
      rw [show begC 3 c = liCall c.k c.a c.x from rfl]
      generalize hr : liCall c.k c.a c.x = r
      have HR := hidIt hr
      clear hr hw
      go_enter Try.func39, Try.ntmps39
      go_wp2_with fail
      generalize hW : World.alloc (World.alloc w _) _ = W0
      have X := bx2 w #[.int .i64 c.k, .int .i64 c.a, .int .i64 c.x, .int .i64 c.pc, .int .i64 c.p, .int .i64 c.c, .int .i64 c.w, .int .i64 c.r, .int .i64 c.v, .bool c.d] #[.int .i64 0, .int .i64 0, .int .i64 0, .int .i64 0, .int .i64 0, .int .i64 0, .int .i64 0, .int .i64 0, .int .i64 0, .bool false] 48 48
      rw [hW] at X
      clear hW
      obtain ⟨X0, X1, bW, zW⟩ := X
      refine (impl_licall c.k c.a c.x _).mono ?_
      rintro e w1 ⟨rfl, b1⟩
      rw [HR.out]
      have B1 := hidIt (below_step bW b1)
      have Y := X1.below b1
      have k0 := Y.2.1 0
      have k1 := Y.2.1 1
      have k2 := Y.2.1 2
      have k3 := Y.2.1 3
      have k4 := Y.2.1 4
      have k5 := Y.2.1 5
      have k6 := Y.2.1 6
      have k7 := Y.2.1 7
      have k8 := Y.2.1 8
      have k9 := Y.2.1 9
      have q1 := Y.2.2
      simp at k0 k1 k2 k3 k4 k5 k6 k7 k8 k9
      clear b1 Y X0 X1 bW
      go_wp2
      refine bodyPost_ret (v := .agg #[.int .i64 r.k, .int .i64 r.a, .int .i64 r.x, .int .i64 r.pc, .int .i64 r.p, .int .i64 r.c, .int .i64 r.w, .int .i64 r.r, .int .i64 r.v, .bool r.d]) (by simp [results, Try.results39, go_sem, k0, k1, k2, k3, k4, k5, k6, k7, k8, k9]) rfl ⟨rfl, ?_⟩
      exact (((((((((B1.out.setCell (by simp <;> omega) _).setCell (by simp <;> omega) _).setCell (by simp <;> omega) _).setCell (by simp <;> omega) _).setCell (by simp <;> omega) _).setCell (by simp <;> omega) _).setCell (by simp <;> omega) _).setCell (by simp <;> omega) _).setCell (by simp <;> omega) _).setCell (by simp <;> omega) _

end Go.Proofs.Ytpfofjcfaelocaa
