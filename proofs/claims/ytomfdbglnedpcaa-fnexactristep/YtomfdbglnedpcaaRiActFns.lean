/- The step of a ring's call, by the program, in one form for all arguments; the act of a step. -/
import Derived.Test.YtomfdbglnedpcaaRows
import Derived.WalkKit
import Derived.ProofKit
import Derived.OpenShut
import Derived.ShutString
import Derived.Test.YtomfdbglnedpcaaRiActImpl
namespace Go.Proofs.Ytomfdbglnedpcaa
open Go.ChangeShapes Go.WideShapes Go.ChangeAt Go.RowKit
set_option linter.unusedVariables false

def takeF (k pc : Int) : Nat :=
  if pc = 0 then 95 else if pc = 1 then (if k = 1 then 97 else 101)
  else if pc = 2 then 98 else if pc = 3 then (if k = 1 then 91 else 102) else 100
def takeV (k pc : Int) (B : Nat) : Value := .func (.func (takeF k pc)) #[.pointer (some ⟨B, 0, none⟩)] #[]
theorem impl_putstep (n k a x pc p cc cw r v : Int) (d : Bool) (B : Nat) (w : World) (hz : rzB n = true) (h0 : 0 ≤ pc) (h4 : pc ≤ 4) (hB : B < w.heap.size) (hc : ∀ o, w.cell? ⟨B, o, none⟩ = #[Value.int .i64 k, .int .i64 a, .int .i64 x, .int .i64 pc, .int .i64 p, .int .i64 cc, .int .i64 cw, .int .i64 r, .int .i64 v, .bool d][o]?) :
    Calls Try.prog 76 #[.int .i64 n, .pointer (some ⟨B, 0, none⟩)] w fun e w' => e = .returned (.tuple #[.agg #[.int .i64 (riAcG n 1 a pc p).k, .int .i64 (riAcG n 1 a pc p).t, .int .i64 (riAcG n 1 a pc p).a, .int .i64 (riAcG n 1 a pc p).b, takeV 1 pc B], .bool true]) ∧ Below w.heap.size w w' := by
  obtain rfl | rfl | rfl | rfl | rfl : pc = 0 ∨ pc = 1 ∨ pc = 2 ∨ pc = 3 ∨ pc = 4 := by omega
  · exact impl_put0 n k a x p cc cw r v d B w hz hB hc
  · exact impl_put1 n k a x p cc cw r v d B w hz hB hc
  · exact impl_put2 n k a x p cc cw r v d B w hz hB hc
  · exact impl_put3 n k a x p cc cw r v d B w hz hB hc
  · exact impl_put4 n k a x p cc cw r v d B w hz hB hc
set_option maxRecDepth 100000 in
theorem impl_putstep_no (n k a x pc p cc cw r v : Int) (d : Bool) (B : Nat) (w : World) (h : pc < 0 ∨ 4 < pc) (hB : B < w.heap.size) (hc : ∀ o, w.cell? ⟨B, o, none⟩ = #[Value.int .i64 k, .int .i64 a, .int .i64 x, .int .i64 pc, .int .i64 p, .int .i64 cc, .int .i64 cw, .int .i64 r, .int .i64 v, .bool d][o]?) :
    Calls Try.prog 76 #[.int .i64 n, .pointer (some ⟨B, 0, none⟩)] w fun e w' => e = .returned (.tuple #[.agg #[.int .i64 0, .int .i64 0, .int .i64 0, .int .i64 0, .nilFunc], .bool false]) ∧ Below w.heap.size w w' := by
  have e0 : (pc == 0) = false := by simp; omega
  have e1 : (pc == 1) = false := by simp; omega
  have e2 : (pc == 2) = false := by simp; omega
  have e3 : (pc == 3) = false := by simp; omega
  have e4 : (pc == 4) = false := by simp; omega
  clear h
  go_enter Try.func76, Try.ntmps76
  go_wp2
  refine bodyPost_ret (v := .tuple #[.agg #[.int .i64 0, .int .i64 0, .int .i64 0, .int .i64 0, .nilFunc], .bool false]) (by simp [results, Try.results76, go_sem]) rfl ⟨rfl, ?_⟩
  repeat (first | exact Below.refl _ _ | refine Below.setCell ?_ (by simp <;> omega) _ | refine Below.alloc ?_ (by simp <;> omega) _)
theorem impl_getstep (n k a x pc p cc cw r v : Int) (d : Bool) (B : Nat) (w : World) (hz : rzB n = true) (h0 : 0 ≤ pc) (h4 : pc ≤ 4) (hB : B < w.heap.size) (hc : ∀ o, w.cell? ⟨B, o, none⟩ = #[Value.int .i64 k, .int .i64 a, .int .i64 x, .int .i64 pc, .int .i64 p, .int .i64 cc, .int .i64 cw, .int .i64 r, .int .i64 v, .bool d][o]?) :
    Calls Try.prog 77 #[.int .i64 n, .pointer (some ⟨B, 0, none⟩)] w fun e w' => e = .returned (.tuple #[.agg #[.int .i64 (riAcG n 2 a pc p).k, .int .i64 (riAcG n 2 a pc p).t, .int .i64 (riAcG n 2 a pc p).a, .int .i64 (riAcG n 2 a pc p).b, takeV 2 pc B], .bool true]) ∧ Below w.heap.size w w' := by
  obtain rfl | rfl | rfl | rfl | rfl : pc = 0 ∨ pc = 1 ∨ pc = 2 ∨ pc = 3 ∨ pc = 4 := by omega
  · exact impl_get0 n k a x p cc cw r v d B w hz hB hc
  · exact impl_get1 n k a x p cc cw r v d B w hz hB hc
  · exact impl_get2 n k a x p cc cw r v d B w hz hB hc
  · exact impl_get3 n k a x p cc cw r v d B w hz hB hc
  · exact impl_get4 n k a x p cc cw r v d B w hz hB hc
set_option maxRecDepth 100000 in
theorem impl_getstep_no (n k a x pc p cc cw r v : Int) (d : Bool) (B : Nat) (w : World) (h : pc < 0 ∨ 4 < pc) (hB : B < w.heap.size) (hc : ∀ o, w.cell? ⟨B, o, none⟩ = #[Value.int .i64 k, .int .i64 a, .int .i64 x, .int .i64 pc, .int .i64 p, .int .i64 cc, .int .i64 cw, .int .i64 r, .int .i64 v, .bool d][o]?) :
    Calls Try.prog 77 #[.int .i64 n, .pointer (some ⟨B, 0, none⟩)] w fun e w' => e = .returned (.tuple #[.agg #[.int .i64 0, .int .i64 0, .int .i64 0, .int .i64 0, .nilFunc], .bool false]) ∧ Below w.heap.size w w' := by
  have e0 : (pc == 0) = false := by simp; omega
  have e1 : (pc == 1) = false := by simp; omega
  have e2 : (pc == 2) = false := by simp; omega
  have e3 : (pc == 3) = false := by simp; omega
  have e4 : (pc == 4) = false := by simp; omega
  clear h
  go_enter Try.func77, Try.ntmps77
  go_wp2
  refine bodyPost_ret (v := .tuple #[.agg #[.int .i64 0, .int .i64 0, .int .i64 0, .int .i64 0, .nilFunc], .bool false]) (by simp [results, Try.results77, go_sem]) rfl ⟨rfl, ?_⟩
  repeat (first | exact Below.refl _ _ | refine Below.setCell ?_ (by simp <;> omega) _ | refine Below.alloc ?_ (by simp <;> omega) _)
set_option maxRecDepth 100000 in
theorem impl_ringstep_put (n a x pc p cc cw r v : Int) (B : Nat) (w : World) (hz : rzB n = true) (h0 : 0 ≤ pc) (h4 : pc ≤ 4) (hB : B < w.heap.size) (hc : ∀ o, w.cell? ⟨B, o, none⟩ = #[Value.int .i64 1, .int .i64 a, .int .i64 x, .int .i64 pc, .int .i64 p, .int .i64 cc, .int .i64 cw, .int .i64 r, .int .i64 v, .bool false][o]?) :
    Calls Try.prog 38 #[.int .i64 n, .pointer (some ⟨B, 0, none⟩)] w fun e w' => e = .returned (.tuple #[.agg #[.int .i64 (riAcG n 1 a pc p).k, .int .i64 (riAcG n 1 a pc p).t, .int .i64 (riAcG n 1 a pc p).a, .int .i64 (riAcG n 1 a pc p).b, takeV 1 pc B], .bool true]) ∧ Below w.heap.size w w' := by
  have HS := hidIt (fun W hB hc => impl_putstep n 1 a x pc p cc cw r v false B W hz h0 h4 hB hc)
  have HZ := hidIt hz
  have hBz : B < (w.alloc (.cells #[.int .i64 0, .int .i64 0, .int .i64 0, .int .i64 0, .nilFunc] 59)).heap.size := by simp; omega
  have hcz : ∀ o, (w.alloc (.cells #[.int .i64 0, .int .i64 0, .int .i64 0, .int .i64 0, .nilFunc] 59)).cell? ⟨B, o, none⟩ = #[Value.int .i64 1, .int .i64 a, .int .i64 x, .int .i64 pc, .int .i64 p, .int .i64 cc, .int .i64 cw, .int .i64 r, .int .i64 v, .bool false][o]? := fun o => by rw [World.cell?_alloc_lt _ _ _ (by simpa using hB)]; exact hc o
  have HC := hidIt (HS.out _ hBz hcz)
  generalize riAcG n 1 a pc p = ac at HC ⊢
  clear HS hz hBz hcz
  go_enter Try.func38, Try.ntmps38
  go_wp2_with (go_at_call 75; refine (impl_rsize n _).mono ?_; rintro e wq ⟨rfl, rfl⟩; rw [HZ.out])
  refine HC.out.mono ?_
  rintro e w1 ⟨rfl, b1⟩
  have z1 := b1.size
  simp at z1
  have k1 : ∀ o, w1.cell? ⟨w.heap.size, o, none⟩ = #[Value.int .i64 0, .int .i64 0, .int .i64 0, .int .i64 0, .nilFunc][o]? := fun o => below_cell b1 (by simp) (by simp [go_sem])
  have k2 : ∀ o, w1.frozen? ⟨w.heap.size, o, none⟩ = false := fun o => below_frozen b1 (by simp) (by simp [go_sem])
  have B1 := hidIt (((Below.refl w.heap.size w).alloc (Nat.le_refl _) _).trans (b1.mono (by simp)))
  clear b1 HC
  unfold takeV
  go_wp2
  refine bodyPost_ret (v := .tuple #[.agg #[.int .i64 ac.k, .int .i64 ac.t, .int .i64 ac.a, .int .i64 ac.b, .func (.func (takeF 1 pc)) #[.pointer (some ⟨B, 0, none⟩)] #[]], .bool true]) (by simp [results, Try.results38, go_sem, k1]) rfl ⟨rfl, ?_⟩
  exact B1.out.trans (Out.below (show Out w.heap.size (w.heap.size + 1) w1 _ by repeat (first | with_reducible exact Out.refl _ _ _ | with_reducible refine Out.drew ?_ | with_reducible refine Out.setCell ?_ (by simp <;> omega) (by simp <;> omega))) (Nat.le_refl _) (by omega))
set_option maxRecDepth 100000 in
theorem impl_ringstep_put_no (n a x pc p cc cw r v : Int) (B : Nat) (w : World) (hz : rzB n = true) (h : pc < 0 ∨ 4 < pc) (hB : B < w.heap.size) (hc : ∀ o, w.cell? ⟨B, o, none⟩ = #[Value.int .i64 1, .int .i64 a, .int .i64 x, .int .i64 pc, .int .i64 p, .int .i64 cc, .int .i64 cw, .int .i64 r, .int .i64 v, .bool false][o]?) :
    Calls Try.prog 38 #[.int .i64 n, .pointer (some ⟨B, 0, none⟩)] w fun e w' => e = .returned (.tuple #[.agg #[.int .i64 0, .int .i64 0, .int .i64 0, .int .i64 0, .nilFunc], .bool false]) ∧ Below w.heap.size w w' := by
  have HZ := hidIt hz
  have hBz : B < (w.alloc (.cells #[.int .i64 0, .int .i64 0, .int .i64 0, .int .i64 0, .nilFunc] 59)).heap.size := by simp; omega
  have hcz : ∀ o, (w.alloc (.cells #[.int .i64 0, .int .i64 0, .int .i64 0, .int .i64 0, .nilFunc] 59)).cell? ⟨B, o, none⟩ = #[Value.int .i64 1, .int .i64 a, .int .i64 x, .int .i64 pc, .int .i64 p, .int .i64 cc, .int .i64 cw, .int .i64 r, .int .i64 v, .bool false][o]? := fun o => by rw [World.cell?_alloc_lt _ _ _ (by simpa using hB)]; exact hc o
  have HC := hidIt (impl_putstep_no n 1 a x pc p cc cw r v false B _ h hBz hcz)
  clear hz hBz hcz h
  go_enter Try.func38, Try.ntmps38
  go_wp2_with (go_at_call 75; refine (impl_rsize n _).mono ?_; rintro e wq ⟨rfl, rfl⟩; rw [HZ.out])
  refine HC.out.mono ?_
  rintro e w1 ⟨rfl, b1⟩
  have z1 := b1.size
  simp at z1
  have k1 : ∀ o, w1.cell? ⟨w.heap.size, o, none⟩ = #[Value.int .i64 0, .int .i64 0, .int .i64 0, .int .i64 0, .nilFunc][o]? := fun o => below_cell b1 (by simp) (by simp [go_sem])
  have k2 : ∀ o, w1.frozen? ⟨w.heap.size, o, none⟩ = false := fun o => below_frozen b1 (by simp) (by simp [go_sem])
  have B1 := hidIt (((Below.refl w.heap.size w).alloc (Nat.le_refl _) _).trans (b1.mono (by simp)))
  clear b1 HC
  go_wp2
  refine bodyPost_ret (v := .tuple #[.agg #[.int .i64 0, .int .i64 0, .int .i64 0, .int .i64 0, .nilFunc], .bool false]) (by simp [results, Try.results38, go_sem, k1]) rfl ⟨rfl, ?_⟩
  exact B1.out.trans (Out.below (show Out w.heap.size (w.heap.size + 1) w1 _ by repeat (first | with_reducible exact Out.refl _ _ _ | with_reducible refine Out.drew ?_ | with_reducible refine Out.setCell ?_ (by simp <;> omega) (by simp <;> omega))) (Nat.le_refl _) (by omega))
set_option maxRecDepth 100000 in
theorem impl_ringstep_get (n a x pc p cc cw r v : Int) (B : Nat) (w : World) (hz : rzB n = true) (h0 : 0 ≤ pc) (h4 : pc ≤ 4) (hB : B < w.heap.size) (hc : ∀ o, w.cell? ⟨B, o, none⟩ = #[Value.int .i64 2, .int .i64 a, .int .i64 x, .int .i64 pc, .int .i64 p, .int .i64 cc, .int .i64 cw, .int .i64 r, .int .i64 v, .bool false][o]?) :
    Calls Try.prog 38 #[.int .i64 n, .pointer (some ⟨B, 0, none⟩)] w fun e w' => e = .returned (.tuple #[.agg #[.int .i64 (riAcG n 2 a pc p).k, .int .i64 (riAcG n 2 a pc p).t, .int .i64 (riAcG n 2 a pc p).a, .int .i64 (riAcG n 2 a pc p).b, takeV 2 pc B], .bool true]) ∧ Below w.heap.size w w' := by
  have HS := hidIt (fun W hB hc => impl_getstep n 2 a x pc p cc cw r v false B W hz h0 h4 hB hc)
  have HZ := hidIt hz
  have hBz : B < (w.alloc (.cells #[.int .i64 0, .int .i64 0, .int .i64 0, .int .i64 0, .nilFunc] 59)).heap.size := by simp; omega
  have hcz : ∀ o, (w.alloc (.cells #[.int .i64 0, .int .i64 0, .int .i64 0, .int .i64 0, .nilFunc] 59)).cell? ⟨B, o, none⟩ = #[Value.int .i64 2, .int .i64 a, .int .i64 x, .int .i64 pc, .int .i64 p, .int .i64 cc, .int .i64 cw, .int .i64 r, .int .i64 v, .bool false][o]? := fun o => by rw [World.cell?_alloc_lt _ _ _ (by simpa using hB)]; exact hc o
  have HC := hidIt (HS.out _ hBz hcz)
  generalize riAcG n 2 a pc p = ac at HC ⊢
  clear HS hz hBz hcz
  go_enter Try.func38, Try.ntmps38
  go_wp2_with (go_at_call 75; refine (impl_rsize n _).mono ?_; rintro e wq ⟨rfl, rfl⟩; rw [HZ.out])
  refine HC.out.mono ?_
  rintro e w1 ⟨rfl, b1⟩
  have z1 := b1.size
  simp at z1
  have k1 : ∀ o, w1.cell? ⟨w.heap.size, o, none⟩ = #[Value.int .i64 0, .int .i64 0, .int .i64 0, .int .i64 0, .nilFunc][o]? := fun o => below_cell b1 (by simp) (by simp [go_sem])
  have k2 : ∀ o, w1.frozen? ⟨w.heap.size, o, none⟩ = false := fun o => below_frozen b1 (by simp) (by simp [go_sem])
  have B1 := hidIt (((Below.refl w.heap.size w).alloc (Nat.le_refl _) _).trans (b1.mono (by simp)))
  clear b1 HC
  unfold takeV
  go_wp2
  refine bodyPost_ret (v := .tuple #[.agg #[.int .i64 ac.k, .int .i64 ac.t, .int .i64 ac.a, .int .i64 ac.b, .func (.func (takeF 2 pc)) #[.pointer (some ⟨B, 0, none⟩)] #[]], .bool true]) (by simp [results, Try.results38, go_sem, k1]) rfl ⟨rfl, ?_⟩
  exact B1.out.trans (Out.below (show Out w.heap.size (w.heap.size + 1) w1 _ by repeat (first | with_reducible exact Out.refl _ _ _ | with_reducible refine Out.drew ?_ | with_reducible refine Out.setCell ?_ (by simp <;> omega) (by simp <;> omega))) (Nat.le_refl _) (by omega))
set_option maxRecDepth 100000 in
theorem impl_ringstep_get_no (n a x pc p cc cw r v : Int) (B : Nat) (w : World) (hz : rzB n = true) (h : pc < 0 ∨ 4 < pc) (hB : B < w.heap.size) (hc : ∀ o, w.cell? ⟨B, o, none⟩ = #[Value.int .i64 2, .int .i64 a, .int .i64 x, .int .i64 pc, .int .i64 p, .int .i64 cc, .int .i64 cw, .int .i64 r, .int .i64 v, .bool false][o]?) :
    Calls Try.prog 38 #[.int .i64 n, .pointer (some ⟨B, 0, none⟩)] w fun e w' => e = .returned (.tuple #[.agg #[.int .i64 0, .int .i64 0, .int .i64 0, .int .i64 0, .nilFunc], .bool false]) ∧ Below w.heap.size w w' := by
  have HZ := hidIt hz
  have hBz : B < (w.alloc (.cells #[.int .i64 0, .int .i64 0, .int .i64 0, .int .i64 0, .nilFunc] 59)).heap.size := by simp; omega
  have hcz : ∀ o, (w.alloc (.cells #[.int .i64 0, .int .i64 0, .int .i64 0, .int .i64 0, .nilFunc] 59)).cell? ⟨B, o, none⟩ = #[Value.int .i64 2, .int .i64 a, .int .i64 x, .int .i64 pc, .int .i64 p, .int .i64 cc, .int .i64 cw, .int .i64 r, .int .i64 v, .bool false][o]? := fun o => by rw [World.cell?_alloc_lt _ _ _ (by simpa using hB)]; exact hc o
  have HC := hidIt (impl_getstep_no n 2 a x pc p cc cw r v false B _ h hBz hcz)
  clear hz hBz hcz h
  go_enter Try.func38, Try.ntmps38
  go_wp2_with (go_at_call 75; refine (impl_rsize n _).mono ?_; rintro e wq ⟨rfl, rfl⟩; rw [HZ.out])
  refine HC.out.mono ?_
  rintro e w1 ⟨rfl, b1⟩
  have z1 := b1.size
  simp at z1
  have k1 : ∀ o, w1.cell? ⟨w.heap.size, o, none⟩ = #[Value.int .i64 0, .int .i64 0, .int .i64 0, .int .i64 0, .nilFunc][o]? := fun o => below_cell b1 (by simp) (by simp [go_sem])
  have k2 : ∀ o, w1.frozen? ⟨w.heap.size, o, none⟩ = false := fun o => below_frozen b1 (by simp) (by simp [go_sem])
  have B1 := hidIt (((Below.refl w.heap.size w).alloc (Nat.le_refl _) _).trans (b1.mono (by simp)))
  clear b1 HC
  go_wp2
  refine bodyPost_ret (v := .tuple #[.agg #[.int .i64 0, .int .i64 0, .int .i64 0, .int .i64 0, .nilFunc], .bool false]) (by simp [results, Try.results38, go_sem, k1]) rfl ⟨rfl, ?_⟩
  exact B1.out.trans (Out.below (show Out w.heap.size (w.heap.size + 1) w1 _ by repeat (first | with_reducible exact Out.refl _ _ _ | with_reducible refine Out.drew ?_ | with_reducible refine Out.setCell ?_ (by simp <;> omega) (by simp <;> omega))) (Nat.le_refl _) (by omega))
set_option maxRecDepth 100000 in
theorem impl_ringstep_no (n k a x pc p cc cw r v : Int) (d : Bool) (B : Nat) (w : World) (h : d = true ∨ rzB n = false ∨ k < 1 ∨ 2 < k) (hB : B < w.heap.size) (hc : ∀ o, w.cell? ⟨B, o, none⟩ = #[Value.int .i64 k, .int .i64 a, .int .i64 x, .int .i64 pc, .int .i64 p, .int .i64 cc, .int .i64 cw, .int .i64 r, .int .i64 v, .bool d][o]?) :
    Calls Try.prog 38 #[.int .i64 n, .pointer (some ⟨B, 0, none⟩)] w fun e w' => e = .returned (.tuple #[.agg #[.int .i64 0, .int .i64 0, .int .i64 0, .int .i64 0, .nilFunc], .bool false]) ∧ Below w.heap.size w w' := by
  by_cases hd : d = true
  · subst hd
    clear h
    go_enter Try.func38, Try.ntmps38
    go_wp2
    refine bodyPost_ret (v := .tuple #[.agg #[.int .i64 0, .int .i64 0, .int .i64 0, .int .i64 0, .nilFunc], .bool false]) (by simp [results, Try.results38, go_sem]) rfl ⟨rfl, ?_⟩
    repeat (first | exact Below.refl _ _ | refine Below.setCell ?_ (by simp <;> omega) _ | refine Below.alloc ?_ (by simp <;> omega) _)
  · have hd : d = false := by simpa using hd
    subst hd
    by_cases hz : rzB n = true
    · have hk : k < 1 ∨ 2 < k := by
        rcases h with h | h | h
        · cases h
        · rw [hz] at h; cases h
        · exact h
      have e1 : (k == 1) = false := by simp; omega
      have e2 : (k == 2) = false := by simp; omega
      have HZ := hidIt hz
      clear h hk hz
      go_enter Try.func38, Try.ntmps38
      go_wp2_with (go_at_call 75; refine (impl_rsize n _).mono ?_; rintro e wq ⟨rfl, rfl⟩; rw [HZ.out])
      refine bodyPost_ret (v := .tuple #[.agg #[.int .i64 0, .int .i64 0, .int .i64 0, .int .i64 0, .nilFunc], .bool false]) (by simp [results, Try.results38, go_sem]) rfl ⟨rfl, ?_⟩
      repeat (first | exact Below.refl _ _ | refine Below.setCell ?_ (by simp <;> omega) _ | refine Below.alloc ?_ (by simp <;> omega) _)
    · have hz : rzB n = false := by simpa using hz
      have HZ := hidIt hz
      clear h hz
      go_enter Try.func38, Try.ntmps38
      go_wp2_with (go_at_call 75; refine (impl_rsize n _).mono ?_; rintro e wq ⟨rfl, rfl⟩; rw [HZ.out])
      refine bodyPost_ret (v := .tuple #[.agg #[.int .i64 0, .int .i64 0, .int .i64 0, .int .i64 0, .nilFunc], .bool false]) (by simp [results, Try.results38, go_sem]) rfl ⟨rfl, ?_⟩
      repeat (first | exact Below.refl _ _ | refine Below.setCell ?_ (by simp <;> omega) _ | refine Below.alloc ?_ (by simp <;> omega) _)
def takeOf (n : Int) (c : Cl) (B : Nat) : Value := if riOk n c = true then takeV c.k c.pc B else .nilFunc
theorem impl_ringstep (n : Int) (c : Cl) (B : Nat) (w : World) (hB : B < w.heap.size) (hc : ∀ o, w.cell? ⟨B, o, none⟩ = #[Value.int .i64 c.k, .int .i64 c.a, .int .i64 c.x, .int .i64 c.pc, .int .i64 c.p, .int .i64 c.c, .int .i64 c.w, .int .i64 c.r, .int .i64 c.v, .bool c.d][o]?) :
    Calls Try.prog 38 #[.int .i64 n, .pointer (some ⟨B, 0, none⟩)] w fun e w' => e = .returned (.tuple #[.agg #[.int .i64 (riAc n c).k, .int .i64 (riAc n c).t, .int .i64 (riAc n c).a, .int .i64 (riAc n c).b, takeOf n c B], .bool (riOk n c)]) ∧ Below w.heap.size w w' := by
  by_cases h : riOk n c = true
  · have e1 : riAc n c = riAcG n c.k c.a c.pc c.p := if_pos h
    have e2 : takeOf n c B = takeV c.k c.pc B := if_pos h
    rw [e1, e2, h]
    obtain ⟨b0, b1, b2, b3, b4, b5, b6⟩ := riOk_bd h
    have hz : rzB n = true := rzB_iff.2 ⟨b1, b2⟩
    clear e1 e2 h b1 b2
    obtain ⟨k, a, x, pc, p, cc, cw, r, v, d⟩ := c
    simp only at b0 b3 b4 b5 b6 hc ⊢
    subst b0
    obtain rfl | rfl : k = 1 ∨ k = 2 := by omega
    · exact impl_ringstep_put n a x pc p cc cw r v B w hz b5 b6 hB hc
    · exact impl_ringstep_get n a x pc p cc cw r v B w hz b5 b6 hB hc
  · have e1 : riAc n c = acZero := if_neg h
    have e2 : takeOf n c B = .nilFunc := if_neg h
    have h : riOk n c = false := by simpa using h
    rw [e1, e2, h]
    have hn := riOk_no h
    clear e1 e2 h
    obtain ⟨k, a, x, pc, p, cc, cw, r, v, d⟩ := c
    simp only at hn hc ⊢
    by_cases g : d = true ∨ rzB n = false ∨ k < 1 ∨ 2 < k
    · exact impl_ringstep_no n k a x pc p cc cw r v d B w g hB hc
    · have hd : d = false := by cases d <;> simp at g ⊢
      have hz : rzB n = true := by cases hh : rzB n <;> simp [hh] at g ⊢
      subst hd
      have hp : pc < 0 ∨ 4 < pc := by
        rcases hn with hn | hn | hn | hn | hn
        · cases hn
        · exact absurd (.inr (.inl hn)) g
        · exact absurd (.inr (.inr (.inl hn))) g
        · exact absurd (.inr (.inr (.inr hn))) g
        · exact hn
      have hk : k = 1 ∨ k = 2 := by
        have h1 : ¬ k < 1 := fun e => g (.inr (.inr (.inl e)))
        have h2 : ¬ 2 < k := fun e => g (.inr (.inr (.inr e)))
        omega
      rcases hk with rfl | rfl
      · exact impl_ringstep_put_no n a x pc p cc cw r v B w hz hp hB hc
      · exact impl_ringstep_get_no n a x pc p cc cw r v B w hz hp hB hc

end Go.Proofs.Ytomfdbglnedpcaa
