/- What a crew must be: the object, the times, the beginnings: both sides of the small functions. -/
import Derived.Test.YtehgacidfepomaaRows
import Derived.WalkKit
import Derived.ProofKit
import Derived.OpenShut
import Derived.ShutString
import Derived.Test.YtehgacidfepomaaCwLaw
import Derived.Test.YtehgacidfepomaaLiNewFns
import Derived.Test.YtehgacidfepomaaStackImpl1
import Derived.Test.YtehgacidfepomaaRiRing
import Derived.Test.YtehgacidfepomaaStackSpec1
import Derived.Test.YtehgacidfepomaaRiCallFns
import Derived.Test.YtehgacidfepomaaLiCallFns
import Derived.Deep.LoopGhost
import Derived.Deep.RegionHeld3
namespace Go.Proofs.Ytehgacidfepomaa
open Go.ChangeShapes Go.WideShapes Go.ChangeAt Go.RowKit
set_option linter.unusedVariables false

theorem below_box {w w' : World} {o : Obj} (b : Below (w.alloc o).heap.size (w.alloc o) w') : Below w.heap.size w w' := ((Below.refl _ _).alloc (Nat.le_refl _) _).trans (b.mono (by simp))
def stkB (n : Int) (m : Nat) : Bool := szB n && decide ((m : Int) = 1 + n)
def plcB (n k : Int) : Bool := decide (0 ≤ k ∧ k < n)
theorem impl_isstack (n : Int) (a : Option Addr) (m c : Nat) (w : World) :
    Calls Try.prog 64 #[.int .i64 n, .agg #[.slice a m c]] w fun e w' => e = .returned (.bool (stkB n m)) ∧ Below w.heap.size w w' := by
  by_cases hz : szB n = true
  · have hb : 1 ≤ n ∧ n ≤ 16 := of_decide_eq_true hz
    obtain ⟨n1, n2⟩ := hb
    have HZ := hidIt hz
    by_cases he : (m : Int) = 1 + n
    · have e1 : stkB n m = true := by unfold stkB; simp [hz, he]
      have e2 : ((m : Int) == 1 + n) = true := by simpa using he
      rw [e1]
      clear e1 he hz
      go_enter Try.func64, Try.ntmps64
      go_wp2_with fail
      refine (impl_size n _).mono ?_
      rintro e w1 ⟨rfl, rfl⟩
      rw [HZ.out]
      go_wp2
      go_ret
      exact ⟨by simp, (Below.refl _ _).alloc (Nat.le_refl _) _⟩
    · have e1 : stkB n m = false := by unfold stkB; simp [he]
      have e2 : ((m : Int) == 1 + n) = false := by simpa using he
      rw [e1]
      clear e1 he hz
      go_enter Try.func64, Try.ntmps64
      go_wp2_with fail
      refine (impl_size n _).mono ?_
      rintro e w1 ⟨rfl, rfl⟩
      rw [HZ.out]
      go_wp2
      go_ret
      exact ⟨by simp, (Below.refl _ _).alloc (Nat.le_refl _) _⟩
  · have e1 : stkB n m = false := by unfold stkB; simp [hz]
    have hz : szB n = false := by simpa using hz
    rw [e1]
    clear e1
    go_enter Try.func64, Try.ntmps64
    go_wp2_with fail
    refine (impl_size n _).mono ?_
    rintro e w1 ⟨rfl, rfl⟩
    rw [hz]
    go_wp2
    go_ret
    exact ⟨rfl, (Below.refl _ _).alloc (Nat.le_refl _) _⟩
def lstB (n : Int) (m : Nat) : Bool := szB n && decide ((m : Int) = 1 + 2 * n)
theorem impl_islist (n : Int) (a : Option Addr) (m c : Nat) (w : World) :
    Calls Try.prog 66 #[.int .i64 n, .agg #[.slice a m c]] w fun e w' => e = .returned (.bool (lstB n m)) ∧ Below w.heap.size w w' := by
  by_cases hz : szB n = true
  · have hb : 1 ≤ n ∧ n ≤ 16 := of_decide_eq_true hz
    obtain ⟨n1, n2⟩ := hb
    have HZ := hidIt hz
    by_cases he : (m : Int) = 1 + 2 * n
    · have e1 : lstB n m = true := by unfold lstB; simp [hz, he]
      have e2 : ((m : Int) == 1 + 2 * n) = true := by simpa using he
      rw [e1]
      clear e1 he hz
      go_enter Try.func66, Try.ntmps66
      go_wp2_with fail
      refine (impl_lsize n _).mono ?_
      rintro e w1 ⟨rfl, rfl⟩
      rw [HZ.out]
      go_wp2
      go_ret
      exact ⟨by simp, (Below.refl _ _).alloc (Nat.le_refl _) _⟩
    · have e1 : lstB n m = false := by unfold lstB; simp [he]
      have e2 : ((m : Int) == 1 + 2 * n) = false := by simpa using he
      rw [e1]
      clear e1 he hz
      go_enter Try.func66, Try.ntmps66
      go_wp2_with fail
      refine (impl_lsize n _).mono ?_
      rintro e w1 ⟨rfl, rfl⟩
      rw [HZ.out]
      go_wp2
      go_ret
      exact ⟨by simp, (Below.refl _ _).alloc (Nat.le_refl _) _⟩
  · have e1 : lstB n m = false := by unfold lstB; simp [hz]
    have hz : szB n = false := by simpa using hz
    rw [e1]
    clear e1
    go_enter Try.func66, Try.ntmps66
    go_wp2_with fail
    refine (impl_lsize n _).mono ?_
    rintro e w1 ⟨rfl, rfl⟩
    rw [hz]
    go_wp2
    go_ret
    exact ⟨rfl, (Below.refl _ _).alloc (Nat.le_refl _) _⟩

theorem impl_ispast (s c : Int) (w : World) :
    Calls Try.prog 81 #[.int .i64 s, .int .i64 c] w fun e w' => e = .returned (.bool (decide (0 ≤ s) && decide (s < c))) ∧ w' = w := by
  by_cases h : 0 ≤ s
  · rw [show decide (0 ≤ s) = true from decide_eq_true h, Bool.true_and]
    go_enter Try.func81, Try.ntmps81
    go_wp2
    go_ret
    exact ⟨rfl, rfl⟩
  · rw [show decide (0 ≤ s) = false from decide_eq_false h, Bool.false_and]
    go_enter Try.func81, Try.ntmps81
    go_wp2
    go_ret
    exact ⟨rfl, rfl⟩
def objB (what size : Int) (n : Nat) : Bool := if what = 1 then stkB size n else if what = 2 then rngB size n else if what = 3 then lstB size n else false
theorem impl_isobject (what size : Int) (a : Option Addr) (m c : Nat) (w : World) :
    Calls Try.prog 45 #[.int .i64 what, .int .i64 size, .agg #[.slice a m c]] w fun e w' => e = .returned (.bool (objB what size m)) ∧ Below w.heap.size w w' := by
  by_cases h1 : what = 1
  · subst h1
    rw [show objB 1 size m = stkB size m from if_pos rfl]
    go_enter Try.func45, Try.ntmps45
    go_wp2_with fail
    refine (impl_isstack size a m c _).mono ?_
    rintro e w1 ⟨rfl, b1⟩
    have B1 := hidIt (below_box b1)
    clear b1
    go_wp2
    go_ret
    exact ⟨rfl, B1.out⟩
  · by_cases h2 : what = 2
    · subst h2
      clear h1
      rw [show objB 2 size m = rngB size m from rfl]
      go_enter Try.func45, Try.ntmps45
      go_wp2_with fail
      refine (impl_isring size a m c _).mono ?_
      rintro e w1 ⟨rfl, b1⟩
      have B1 := hidIt (below_box b1)
      clear b1
      go_wp2
      go_ret
      exact ⟨rfl, B1.out⟩
    · by_cases h3 : what = 3
      · subst h3
        clear h1 h2
        rw [show objB 3 size m = lstB size m from rfl]
        go_enter Try.func45, Try.ntmps45
        go_wp2_with fail
        refine (impl_islist size a m c _).mono ?_
        rintro e w1 ⟨rfl, b1⟩
        have B1 := hidIt (below_box b1)
        clear b1
        go_wp2
        go_ret
        exact ⟨rfl, B1.out⟩
      · rw [show objB what size m = false by unfold objB; rw [if_neg h1, if_neg h2, if_neg h3]]
        have e1 : (what == 1) = false := by simpa using h1
        have e2 : (what == 2) = false := by simpa using h2
        have e3 : (what == 3) = false := by simpa using h3
        clear h1 h2 h3
        go_enter Try.func45, Try.ntmps45
        go_wp2
        go_ret
        exact ⟨rfl, (Below.refl _ _).alloc (Nat.le_refl _) _⟩
def whB (what : Int) : Bool := decide (1 ≤ what ∧ what ≤ 3)
theorem spec_what (what : Int) (w : World) :
    Calls Try.prog 40 #[.int .i64 what] w fun e w' => e = .returned (.bool (whB what)) ∧ w' = w := by
  by_cases h1 : 1 ≤ what
  · by_cases h2 : what ≤ 3
    · rw [show whB what = true from decide_eq_true ⟨h1, h2⟩]
      go_enter Try.func40, Try.ntmps40
      go_wp2
      go_ret
      exact ⟨by simp <;> omega, rfl⟩
    · rw [show whB what = false from decide_eq_false (by omega)]
      go_enter Try.func40, Try.ntmps40
      go_wp2
      go_ret
      exact ⟨by simp <;> omega, rfl⟩
  · rw [show whB what = false from decide_eq_false (by omega)]
    go_enter Try.func40, Try.ntmps40
    go_wp2
    go_ret
    exact ⟨by simp <;> omega, rfl⟩
def cellsN (what size : Int) : Int := if what = 1 then 1 + size else if what = 2 then 2 + 2 * size else 1 + 2 * size
theorem spec_cells (what size : Int) (w : World) (h1 : 1 ≤ size) (h2 : size ≤ 16) :
    Calls Try.prog 42 #[.int .i64 what, .int .i64 size] w fun e w' => e = .returned (.int .i64 (cellsN what size)) ∧ w' = w := by
  by_cases k1 : what = 1
  · subst k1
    rw [show cellsN 1 size = 1 + size from rfl]
    go_enter Try.func42, Try.ntmps42
    go_wp2
    go_ret
    exact ⟨rfl, rfl⟩
  · by_cases k2 : what = 2
    · subst k2
      clear k1
      rw [show cellsN 2 size = 2 + 2 * size from rfl]
      go_enter Try.func42, Try.ntmps42
      go_wp2
      go_ret
      exact ⟨rfl, rfl⟩
    · rw [show cellsN what size = 1 + 2 * size by unfold cellsN; rw [if_neg k1, if_neg k2]]
      have e1 : (what == 1) = false := by simpa using k1
      have e2 : (what == 2) = false := by simpa using k2
      clear k1 k2
      go_enter Try.func42, Try.ntmps42
      go_wp2
      go_ret
      exact ⟨rfl, rfl⟩
def begC (what : Int) (c : Cl) : Cl := if what = 1 then stCall c.k c.a else if what = 2 then stCall c.k c.a else liCall c.k c.a c.x
set_option maxHeartbeats 800000 in
set_option maxRecDepth 100000 in
theorem spec_begin (what : Int) (c : Cl) (w : World) (h : whB what = true) :
    Calls Try.prog 31 #[.int .i64 what, .agg #[.int .i64 c.k, .int .i64 c.a, .int .i64 c.x, .int .i64 c.pc, .int .i64 c.p, .int .i64 c.c, .int .i64 c.w, .int .i64 c.r, .int .i64 c.v, .bool c.d]] w fun e w' => e = .returned (.agg #[.int .i64 (begC what c).k, .int .i64 (begC what c).a, .int .i64 (begC what c).x, .int .i64 (begC what c).pc, .int .i64 (begC what c).p, .int .i64 (begC what c).c, .int .i64 (begC what c).w, .int .i64 (begC what c).r, .int .i64 (begC what c).v, .bool (begC what c).d]) ∧ Below w.heap.size w w' := by
  have hw : 1 ≤ what ∧ what ≤ 3 := of_decide_eq_true h
  clear h
  by_cases h1 : what = 1
  · subst h1
    rw [show begC 1 c = stCall c.k c.a from if_pos rfl]
    generalize hr : stCall c.k c.a = r
    have HR := hidIt hr
    clear hr hw
    go_enter Try.func31, Try.ntmps31
    go_wp2_with fail
    generalize hW : World.alloc (World.alloc w _) _ = W0
    have X := bx2 w #[.int .i64 c.k, .int .i64 c.a, .int .i64 c.x, .int .i64 c.pc, .int .i64 c.p, .int .i64 c.c, .int .i64 c.w, .int .i64 c.r, .int .i64 c.v, .bool c.d] #[.int .i64 0, .int .i64 0, .int .i64 0, .int .i64 0, .int .i64 0, .int .i64 0, .int .i64 0, .int .i64 0, .int .i64 0, .bool false] 62 62
    rw [hW] at X
    clear hW
    obtain ⟨X0, X1, bW, zW⟩ := X
    refine (spec_stcall c.k c.a _).mono ?_
    rintro e w1 ⟨rfl, b1⟩
    rw [HR.out]
    have B1 := hidIt (below_step bW b1)
    have Y := X1.below b1
    have k0 := Y.2.1 0
    have k1 := Y.2.1 1
    have k2 := Y.2.1 2
    have k3 := Y.2.1 3
    have k4 := Y.2.1 4
    have k5 := Y.2.1 5
    have k6 := Y.2.1 6
    have k7 := Y.2.1 7
    have k8 := Y.2.1 8
    have k9 := Y.2.1 9
    have q1 := Y.2.2
    simp at k0 k1 k2 k3 k4 k5 k6 k7 k8 k9
    clear b1 Y X0 X1 bW
    go_wp2
    refine bodyPost_ret (v := .agg #[.int .i64 r.k, .int .i64 r.a, .int .i64 r.x, .int .i64 r.pc, .int .i64 r.p, .int .i64 r.c, .int .i64 r.w, .int .i64 r.r, .int .i64 r.v, .bool r.d]) (by simp [results, Try.results31, go_sem, k0, k1, k2, k3, k4, k5, k6, k7, k8, k9]) rfl ⟨rfl, ?_⟩
    exact (((((((((B1.out.setCell (by simp <;> omega) _).setCell (by simp <;> omega) _).setCell (by simp <;> omega) _).setCell (by simp <;> omega) _).setCell (by simp <;> omega) _).setCell (by simp <;> omega) _).setCell (by simp <;> omega) _).setCell (by simp <;> omega) _).setCell (by simp <;> omega) _).setCell (by simp <;> omega) _
  · by_cases h2 : what = 2
    · subst h2
      clear h1
      rw [show begC 2 c = stCall c.k c.a from rfl]
      generalize hr : stCall c.k c.a = r
      have HR := hidIt hr
      clear hr hw
      go_enter Try.func31, Try.ntmps31
      go_wp2_with fail
      generalize hW : World.alloc (World.alloc w _) _ = W0
      have X := bx2 w #[.int .i64 c.k, .int .i64 c.a, .int .i64 c.x, .int .i64 c.pc, .int .i64 c.p, .int .i64 c.c, .int .i64 c.w, .int .i64 c.r, .int .i64 c.v, .bool c.d] #[.int .i64 0, .int .i64 0, .int .i64 0, .int .i64 0, .int .i64 0, .int .i64 0, .int .i64 0, .int .i64 0, .int .i64 0, .bool false] 62 62
      rw [hW] at X
      clear hW
      obtain ⟨X0, X1, bW, zW⟩ := X
      refine (spec_ricall c.k c.a _).mono ?_
      rintro e w1 ⟨rfl, b1⟩
      rw [HR.out]
      have B1 := hidIt (below_step bW b1)
      have Y := X1.below b1
      have k0 := Y.2.1 0
      have k1 := Y.2.1 1
      have k2 := Y.2.1 2
      have k3 := Y.2.1 3
      have k4 := Y.2.1 4
      have k5 := Y.2.1 5
      have k6 := Y.2.1 6
      have k7 := Y.2.1 7
      have k8 := Y.2.1 8
      have k9 := Y.2.1 9
      have q1 := Y.2.2
      simp at k0 k1 k2 k3 k4 k5 k6 k7 k8 k9
      clear b1 Y X0 X1 bW
      go_wp2
      refine bodyPost_ret (v := .agg #[.int .i64 r.k, .int .i64 r.a, .int .i64 r.x, .int .i64 r.pc, .int .i64 r.p, .int .i64 r.c, .int .i64 r.w, .int .i64 r.r, .int .i64 r.v, .bool r.d]) (by simp [results, Try.results31, go_sem, k0, k1, k2, k3, k4, k5, k6, k7, k8, k9]) rfl ⟨rfl, ?_⟩
      exact (((((((((B1.out.setCell (by simp <;> omega) _).setCell (by simp <;> omega) _).setCell (by simp <;> omega) _).setCell (by simp <;> omega) _).setCell (by simp <;> omega) _).setCell (by simp <;> omega) _).setCell (by simp <;> omega) _).setCell (by simp <;> omega) _).setCell (by simp <;> omega) _).setCell (by simp <;> omega) _
    · obtain rfl : what = 3 := by omega
      clear h1 h2
      rw [show begC 3 c = liCall c.k c.a c.x from rfl]
      generalize hr : liCall c.k c.a c.x = r
      have HR := hidIt hr
      clear hr hw
      go_enter Try.func31, Try.ntmps31
      go_wp2_with fail
      generalize hW : World.alloc (World.alloc w _) _ = W0
      have X := bx2 w #[.int .i64 c.k, .int .i64 c.a, .int .i64 c.x, .int .i64 c.pc, .int .i64 c.p, .int .i64 c.c, .int .i64 c.w, .int .i64 c.r, .int .i64 c.v, .bool c.d] #[.int .i64 0, .int .i64 0, .int .i64 0, .int .i64 0, .int .i64 0, .int .i64 0, .int .i64 0, .int .i64 0, .int .i64 0, .bool false] 62 62
      rw [hW] at X
      clear hW
      obtain ⟨X0, X1, bW, zW⟩ := X
      refine (spec_licall c.k c.a c.x _).mono ?_
      rintro e w1 ⟨rfl, b1⟩
      rw [HR.out]
      have B1 := hidIt (below_step bW b1)
      have Y := X1.below b1
      have k0 := Y.2.1 0
      have k1 := Y.2.1 1
      have k2 := Y.2.1 2
      have k3 := Y.2.1 3
      have k4 := Y.2.1 4
      have k5 := Y.2.1 5
      have k6 := Y.2.1 6
      have k7 := Y.2.1 7
      have k8 := Y.2.1 8
      have k9 := Y.2.1 9
      have q1 := Y.2.2
      simp at k0 k1 k2 k3 k4 k5 k6 k7 k8 k9
      clear b1 Y X0 X1 bW
      go_wp2
      refine bodyPost_ret (v := .agg #[.int .i64 r.k, .int .i64 r.a, .int .i64 r.x, .int .i64 r.pc, .int .i64 r.p, .int .i64 r.c, .int .i64 r.w, .int .i64 r.r, .int .i64 r.v, .bool r.d]) (by simp [results, Try.results31, go_sem, k0, k1, k2, k3, k4, k5, k6, k7, k8, k9]) rfl ⟨rfl, ?_⟩
      exact (((((((((B1.out.setCell (by simp <;> omega) _).setCell (by simp <;> omega) _).setCell (by simp <;> omega) _).setCell (by simp <;> omega) _).setCell (by simp <;> omega) _).setCell (by simp <;> omega) _).setCell (by simp <;> omega) _).setCell (by simp <;> omega) _).setCell (by simp <;> omega) _).setCell (by simp <;> omega) _
set_option maxHeartbeats 800000 in
set_option maxRecDepth 100000 in
theorem impl_begin (what : Int) (c : Cl) (w : World) (h : whB what = true) :
    Calls Try.prog 61 #[.int .i64 what, .agg #[.int .i64 c.k, .int .i64 c.a, .int .i64 c.x, .int .i64 c.pc, .int .i64 c.p, .int .i64 c.c, .int .i64 c.w, .int .i64 c.r, .int .i64 c.v, .bool c.d]] w fun e w' => e = .returned (.agg #[.int .i64 (begC what c).k, .int .i64 (begC what c).a, .int .i64 (begC what c).x, .int .i64 (begC what c).pc, .int .i64 (begC what c).p, .int .i64 (begC what c).c, .int .i64 (begC what c).w, .int .i64 (begC what c).r, .int .i64 (begC what c).v, .bool (begC what c).d]) ∧ Below w.heap.size w w' := by
  have hw : 1 ≤ what ∧ what ≤ 3 := of_decide_eq_true h
  clear h
  by_cases h1 : what = 1
  · subst h1
    rw [show begC 1 c = stCall c.k c.a from if_pos rfl]
    generalize hr : stCall c.k c.a = r
    have HR := hidIt hr
    clear hr hw
    go_enter Try.func61, Try.ntmps61
    go_wp2_with fail
    generalize hW : World.alloc (World.alloc w _) _ = W0
    have X := bx2 w #[.int .i64 c.k, .int .i64 c.a, .int .i64 c.x, .int .i64 c.pc, .int .i64 c.p, .int .i64 c.c, .int .i64 c.w, .int .i64 c.r, .int .i64 c.v, .bool c.d] #[.int .i64 0, .int .i64 0, .int .i64 0, .int .i64 0, .int .i64 0, .int .i64 0, .int .i64 0, .int .i64 0, .int .i64 0, .bool false] 62 62
    rw [hW] at X
    clear hW
    obtain ⟨X0, X1, bW, zW⟩ := X
    refine (impl_stcall c.k c.a _).mono ?_
    rintro e w1 ⟨rfl, b1⟩
    rw [HR.out]
    have B1 := hidIt (below_step bW b1)
    have Y := X1.below b1
    have k0 := Y.2.1 0
    have k1 := Y.2.1 1
    have k2 := Y.2.1 2
    have k3 := Y.2.1 3
    have k4 := Y.2.1 4
    have k5 := Y.2.1 5
    have k6 := Y.2.1 6
    have k7 := Y.2.1 7
    have k8 := Y.2.1 8
    have k9 := Y.2.1 9
    have q1 := Y.2.2
    simp at k0 k1 k2 k3 k4 k5 k6 k7 k8 k9
    clear b1 Y X0 X1 bW
    go_wp2
    refine bodyPost_ret (v := .agg #[.int .i64 r.k, .int .i64 r.a, .int .i64 r.x, .int .i64 r.pc, .int .i64 r.p, .int .i64 r.c, .int .i64 r.w, .int .i64 r.r, .int .i64 r.v, .bool r.d]) (by simp [results, Try.results61, go_sem, k0, k1, k2, k3, k4, k5, k6, k7, k8, k9]) rfl ⟨rfl, ?_⟩
    exact (((((((((B1.out.setCell (by simp <;> omega) _).setCell (by simp <;> omega) _).setCell (by simp <;> omega) _).setCell (by simp <;> omega) _).setCell (by simp <;> omega) _).setCell (by simp <;> omega) _).setCell (by simp <;> omega) _).setCell (by simp <;> omega) _).setCell (by simp <;> omega) _).setCell (by simp <;> omega) _
  · by_cases h2 : what = 2
    · subst h2
      clear h1
      rw [show begC 2 c = stCall c.k c.a from rfl]
      generalize hr : stCall c.k c.a = r
      have HR := hidIt hr
      clear hr hw
      go_enter Try.func61, Try.ntmps61
      go_wp2_with fail
      generalize hW : World.alloc (World.alloc w _) _ = W0
      have X := bx2 w #[.int .i64 c.k, .int .i64 c.a, .int .i64 c.x, .int .i64 c.pc, .int .i64 c.p, .int .i64 c.c, .int .i64 c.w, .int .i64 c.r, .int .i64 c.v, .bool c.d] #[.int .i64 0, .int .i64 0, .int .i64 0, .int .i64 0, .int .i64 0, .int .i64 0, .int .i64 0, .int .i64 0, .int .i64 0, .bool false] 62 62
      rw [hW] at X
      clear hW
      obtain ⟨X0, X1, bW, zW⟩ := X
      refine (impl_ricall c.k c.a _).mono ?_
      rintro e w1 ⟨rfl, b1⟩
      rw [HR.out]
      have B1 := hidIt (below_step bW b1)
      have Y := X1.below b1
      have k0 := Y.2.1 0
      have k1 := Y.2.1 1
      have k2 := Y.2.1 2
      have k3 := Y.2.1 3
      have k4 := Y.2.1 4
      have k5 := Y.2.1 5
      have k6 := Y.2.1 6
      have k7 := Y.2.1 7
      have k8 := Y.2.1 8
      have k9 := Y.2.1 9
      have q1 := Y.2.2
      simp at k0 k1 k2 k3 k4 k5 k6 k7 k8 k9
      clear b1 Y X0 X1 bW
      go_wp2
      refine bodyPost_ret (v := .agg #[.int .i64 r.k, .int .i64 r.a, .int .i64 r.x, .int .i64 r.pc, .int .i64 r.p, .int .i64 r.c, .int .i64 r.w, .int .i64 r.r, .int .i64 r.v, .bool r.d]) (by simp [results, Try.results61, go_sem, k0, k1, k2, k3, k4, k5, k6, k7, k8, k9]) rfl ⟨rfl, ?_⟩
      exact (((((((((B1.out.setCell (by simp <;> omega) _).setCell (by simp <;> omega) _).setCell (by simp <;> omega) _).setCell (by simp <;> omega) _).setCell (by simp <;> omega) _).setCell (by simp <;> omega) _).setCell (by simp <;> omega) _).setCell (by simp <;> omega) _).setCell (by simp <;> omega) _).setCell (by simp <;> omega) _
    · obtain rfl : what = 3 := by omega
      clear h1 h2
      rw [show begC 3 c = liCall c.k c.a c.x from rfl]
      generalize hr : liCall c.k c.a c.x = r
      have HR := hidIt hr
      clear hr hw
      go_enter Try.func61, Try.ntmps61
      go_wp2_with fail
      generalize hW : World.alloc (World.alloc w _) _ = W0
      have X := bx2 w #[.int .i64 c.k, .int .i64 c.a, .int .i64 c.x, .int .i64 c.pc, .int .i64 c.p, .int .i64 c.c, .int .i64 c.w, .int .i64 c.r, .int .i64 c.v, .bool c.d] #[.int .i64 0, .int .i64 0, .int .i64 0, .int .i64 0, .int .i64 0, .int .i64 0, .int .i64 0, .int .i64 0, .int .i64 0, .bool false] 62 62
      rw [hW] at X
      clear hW
      obtain ⟨X0, X1, bW, zW⟩ := X
      refine (impl_licall c.k c.a c.x _).mono ?_
      rintro e w1 ⟨rfl, b1⟩
      rw [HR.out]
      have B1 := hidIt (below_step bW b1)
      have Y := X1.below b1
      have k0 := Y.2.1 0
      have k1 := Y.2.1 1
      have k2 := Y.2.1 2
      have k3 := Y.2.1 3
      have k4 := Y.2.1 4
      have k5 := Y.2.1 5
      have k6 := Y.2.1 6
      have k7 := Y.2.1 7
      have k8 := Y.2.1 8
      have k9 := Y.2.1 9
      have q1 := Y.2.2
      simp at k0 k1 k2 k3 k4 k5 k6 k7 k8 k9
      clear b1 Y X0 X1 bW
      go_wp2
      refine bodyPost_ret (v := .agg #[.int .i64 r.k, .int .i64 r.a, .int .i64 r.x, .int .i64 r.pc, .int .i64 r.p, .int .i64 r.c, .int .i64 r.w, .int .i64 r.r, .int .i64 r.v, .bool r.d]) (by simp [results, Try.results61, go_sem, k0, k1, k2, k3, k4, k5, k6, k7, k8, k9]) rfl ⟨rfl, ?_⟩
      exact (((((((((B1.out.setCell (by simp <;> omega) _).setCell (by simp <;> omega) _).setCell (by simp <;> omega) _).setCell (by simp <;> omega) _).setCell (by simp <;> omega) _).setCell (by simp <;> omega) _).setCell (by simp <;> omega) _).setCell (by simp <;> omega) _).setCell (by simp <;> omega) _).setCell (by simp <;> omega) _

end Go.Proofs.Ytehgacidfepomaa
