/- The methods of a ring's call that take what an act told, by the program: they turn the call's own cells alone. -/
import Derived.Test.YtomfdbglnedpcaaRows
import Derived.WalkKit
import Derived.ProofKit
import Derived.OpenShut
import Derived.ShutString
import Derived.Test.YtomfdbglnedpcaaRiPlain
import Derived.Test.YtomfdbglnedpcaaCallFns
import Derived.Test.YtomfdbglnedpcaaRiActFns
import Derived.Test.YtomfdbglnedpcaaOutMoves
namespace Go.Proofs.Ytomfdbglnedpcaa
open Go.ChangeShapes Go.WideShapes Go.ChangeAt Go.RowKit
set_option linter.unusedVariables false

def At (B : Nat) (cs : Array Value) (w : World) : Prop := B < w.heap.size ∧ (∀ o, w.cell? ⟨B, o, none⟩ = cs[o]?) ∧ ∀ o, w.frozen? ⟨B, o, none⟩ = false
set_option maxRecDepth 100000 in
theorem take_goon (k a x pc p cc cw r v T : Int) (d : Bool) (B : Nat) (w : World) (h0 : 0 ≤ pc) (h4 : pc ≤ 4) (hc : At B #[Value.int .i64 k, .int .i64 a, .int .i64 x, .int .i64 pc, .int .i64 p, .int .i64 cc, .int .i64 cw, .int .i64 r, .int .i64 v, .bool d] w) :
    Calls Try.prog 91 #[.pointer (some ⟨B, 0, none⟩), .int .i64 T] w fun e w' => e = .returned (.tuple #[]) ∧ Out B (B + 1) w w' ∧ At B #[Value.int .i64 k, .int .i64 a, .int .i64 x, .int .i64 (pc + 1), .int .i64 p, .int .i64 cc, .int .i64 cw, .int .i64 r, .int .i64 v, .bool d] w' := by
  obtain ⟨hB, hc1, hc2⟩ := hc
  go_enter Try.func91, Try.ntmps91
  go_wp2
  go_end0
  exact ⟨rfl, by repeat (first | with_reducible exact Out.refl _ _ _ | with_reducible refine Out.setCell ?_ (by simp) (by simp)), by simpa using hB, fun o => by rcases o with _ | _ | _ | _ | _ | _ | _ | _ | _ | _ | o <;> simp [go_sem, hc1], fun o => by simp [go_sem, hc2]⟩
set_option maxRecDepth 100000 in
theorem take_again (k a x pc p cc cw r v : Int) (d : Bool) (B : Nat) (w : World) (h0 : 0 ≤ pc) (h4 : pc ≤ 4) (hc : At B #[Value.int .i64 k, .int .i64 a, .int .i64 x, .int .i64 pc, .int .i64 p, .int .i64 cc, .int .i64 cw, .int .i64 r, .int .i64 v, .bool d] w) :
    Calls Try.prog 107 #[.pointer (some ⟨B, 0, none⟩)] w fun e w' => e = .returned (.tuple #[]) ∧ Out B (B + 1) w w' ∧ At B #[Value.int .i64 k, .int .i64 a, .int .i64 x, .int .i64 0, .int .i64 p, .int .i64 cc, .int .i64 cw, .int .i64 r, .int .i64 v, .bool d] w' := by
  obtain ⟨hB, hc1, hc2⟩ := hc
  go_enter Try.func107, Try.ntmps107
  go_wp2
  go_end0
  exact ⟨rfl, by repeat (first | with_reducible exact Out.refl _ _ _ | with_reducible refine Out.setCell ?_ (by simp) (by simp)), by simpa using hB, fun o => by rcases o with _ | _ | _ | _ | _ | _ | _ | _ | _ | _ | o <;> simp [go_sem, hc1], fun o => by simp [go_sem, hc2]⟩
set_option maxRecDepth 100000 in
theorem take_end (k a x pc p cc cw r v q : Int) (d : Bool) (B : Nat) (w : World) (h0 : 0 ≤ pc) (h4 : pc ≤ 4) (hc : At B #[Value.int .i64 k, .int .i64 a, .int .i64 x, .int .i64 pc, .int .i64 p, .int .i64 cc, .int .i64 cw, .int .i64 r, .int .i64 v, .bool d] w) :
    Calls Try.prog 108 #[.pointer (some ⟨B, 0, none⟩), .int .i64 q] w fun e w' => e = .returned (.tuple #[]) ∧ Out B (B + 1) w w' ∧ At B #[Value.int .i64 k, .int .i64 a, .int .i64 x, .int .i64 (pc + 1), .int .i64 p, .int .i64 cc, .int .i64 cw, .int .i64 q, .int .i64 v, .bool true] w' := by
  obtain ⟨hB, hc1, hc2⟩ := hc
  go_enter Try.func108, Try.ntmps108
  go_wp2
  go_end0
  exact ⟨rfl, by repeat (first | with_reducible exact Out.refl _ _ _ | with_reducible refine Out.setCell ?_ (by simp) (by simp)), by simpa using hB, fun o => by rcases o with _ | _ | _ | _ | _ | _ | _ | _ | _ | _ | o <;> simp [go_sem, hc1], fun o => by simp [go_sem, hc2]⟩
set_option maxRecDepth 100000 in
theorem take_number (k a x pc p cc cw r v T : Int) (d : Bool) (B : Nat) (w : World) (h0 : 0 ≤ pc) (h4 : pc ≤ 4) (hc : At B #[Value.int .i64 k, .int .i64 a, .int .i64 x, .int .i64 pc, .int .i64 p, .int .i64 cc, .int .i64 cw, .int .i64 r, .int .i64 v, .bool d] w) :
    Calls Try.prog 95 #[.pointer (some ⟨B, 0, none⟩), .int .i64 T] w fun e w' => e = .returned (.tuple #[]) ∧ Out B (B + 1) w w' ∧ At B #[Value.int .i64 k, .int .i64 a, .int .i64 x, .int .i64 (pc + 1), .int .i64 T, .int .i64 cc, .int .i64 cw, .int .i64 r, .int .i64 v, .bool d] w' := by
  obtain ⟨hB, hc1, hc2⟩ := hc
  go_enter Try.func95, Try.ntmps95
  go_wp2
  go_end0
  exact ⟨rfl, by repeat (first | with_reducible exact Out.refl _ _ _ | with_reducible refine Out.setCell ?_ (by simp) (by simp)), by simpa using hB, fun o => by rcases o with _ | _ | _ | _ | _ | _ | _ | _ | _ | _ | o <;> simp [go_sem, hc1], fun o => by simp [go_sem, hc2]⟩
set_option maxRecDepth 100000 in
theorem take_value (k a x pc p cc cw r v T : Int) (d : Bool) (B : Nat) (w : World) (h0 : 0 ≤ pc) (h4 : pc ≤ 4) (hc : At B #[Value.int .i64 k, .int .i64 a, .int .i64 x, .int .i64 pc, .int .i64 p, .int .i64 cc, .int .i64 cw, .int .i64 r, .int .i64 v, .bool d] w) :
    Calls Try.prog 102 #[.pointer (some ⟨B, 0, none⟩), .int .i64 T] w fun e w' => e = .returned (.tuple #[]) ∧ Out B (B + 1) w w' ∧ At B #[Value.int .i64 k, .int .i64 a, .int .i64 x, .int .i64 (pc + 1), .int .i64 p, .int .i64 cc, .int .i64 cw, .int .i64 r, .int .i64 T, .bool d] w' := by
  obtain ⟨hB, hc1, hc2⟩ := hc
  go_enter Try.func102, Try.ntmps102
  go_wp2
  go_end0
  exact ⟨rfl, by repeat (first | with_reducible exact Out.refl _ _ _ | with_reducible refine Out.setCell ?_ (by simp) (by simp)), by simpa using hB, fun o => by rcases o with _ | _ | _ | _ | _ | _ | _ | _ | _ | _ | o <;> simp [go_sem, hc1], fun o => by simp [go_sem, hc2]⟩
set_option maxRecDepth 100000 in
theorem take_seq_lt (k a x pc p cc cw r v T q z D : Int) (d : Bool) (B : Nat) (w : World) (h0 : 0 ≤ pc) (h4 : pc ≤ 4) (hD : wrap64 (T - q) = D) (h : D < 0) (hc : At B #[Value.int .i64 k, .int .i64 a, .int .i64 x, .int .i64 pc, .int .i64 p, .int .i64 cc, .int .i64 cw, .int .i64 r, .int .i64 v, .bool d] w) :
    Calls Try.prog 110 #[.pointer (some ⟨B, 0, none⟩), .int .i64 T, .int .i64 q, .int .i64 z] w fun e w' => e = .returned (.tuple #[]) ∧ Out B (B + 1) w w' ∧ At B #[Value.int .i64 k, .int .i64 a, .int .i64 x, .int .i64 (pc + 1), .int .i64 p, .int .i64 T, .int .i64 cw, .int .i64 z, .int .i64 v, .bool true] w' := by
  obtain ⟨hB, hc1, hc2⟩ := hc
  have hD2 := hD
  rw [← wrapEq] at hD2
  have h2 : ¬ 0 < D := by omega
  go_enter Try.func110, Try.ntmps110
  go_wp2_with fail
  refine (take_end k a x pc p T cw r v z d B _ h0 h4 ⟨by simpa using hB, fun o => by rcases o with _ | _ | _ | _ | _ | _ | _ | _ | _ | _ | o <;> simp [go_sem, hc1], fun o => by simp [go_sem, hc2]⟩).mono ?_
  rintro e w1 ⟨rfl, o1, a1⟩
  go_wp2
  go_end0
  exact ⟨rfl, Out.trans (by repeat (first | with_reducible exact Out.refl _ _ _ | with_reducible refine Out.setCell ?_ (by simp) (by simp))) o1, a1⟩
set_option maxRecDepth 100000 in
theorem take_seq_gt (k a x pc p cc cw r v T q z D : Int) (d : Bool) (B : Nat) (w : World) (h0 : 0 ≤ pc) (h4 : pc ≤ 4) (hD : wrap64 (T - q) = D) (h : 0 < D) (hc : At B #[Value.int .i64 k, .int .i64 a, .int .i64 x, .int .i64 pc, .int .i64 p, .int .i64 cc, .int .i64 cw, .int .i64 r, .int .i64 v, .bool d] w) :
    Calls Try.prog 110 #[.pointer (some ⟨B, 0, none⟩), .int .i64 T, .int .i64 q, .int .i64 z] w fun e w' => e = .returned (.tuple #[]) ∧ Out B (B + 1) w w' ∧ At B #[Value.int .i64 k, .int .i64 a, .int .i64 x, .int .i64 0, .int .i64 p, .int .i64 T, .int .i64 cw, .int .i64 r, .int .i64 v, .bool d] w' := by
  obtain ⟨hB, hc1, hc2⟩ := hc
  have hD2 := hD
  rw [← wrapEq] at hD2
  have h2 : ¬ D < 0 := by omega
  go_enter Try.func110, Try.ntmps110
  go_wp2_with fail
  refine (take_again k a x pc p T cw r v d B _ h0 h4 ⟨by simpa using hB, fun o => by rcases o with _ | _ | _ | _ | _ | _ | _ | _ | _ | _ | o <;> simp [go_sem, hc1], fun o => by simp [go_sem, hc2]⟩).mono ?_
  rintro e w1 ⟨rfl, o1, a1⟩
  go_wp2
  go_end0
  exact ⟨rfl, Out.trans (by repeat (first | with_reducible exact Out.refl _ _ _ | with_reducible refine Out.setCell ?_ (by simp) (by simp))) o1, a1⟩
set_option maxRecDepth 100000 in
theorem take_seq_eq (k a x pc p cc cw r v T q z D : Int) (d : Bool) (B : Nat) (w : World) (h0 : 0 ≤ pc) (h4 : pc ≤ 4) (hD : wrap64 (T - q) = D) (h : D = 0) (hc : At B #[Value.int .i64 k, .int .i64 a, .int .i64 x, .int .i64 pc, .int .i64 p, .int .i64 cc, .int .i64 cw, .int .i64 r, .int .i64 v, .bool d] w) :
    Calls Try.prog 110 #[.pointer (some ⟨B, 0, none⟩), .int .i64 T, .int .i64 q, .int .i64 z] w fun e w' => e = .returned (.tuple #[]) ∧ Out B (B + 1) w w' ∧ At B #[Value.int .i64 k, .int .i64 a, .int .i64 x, .int .i64 (pc + 1), .int .i64 p, .int .i64 T, .int .i64 cw, .int .i64 r, .int .i64 v, .bool d] w' := by
  obtain ⟨hB, hc1, hc2⟩ := hc
  have hD2 := hD
  rw [← wrapEq] at hD2
  subst h
  go_enter Try.func110, Try.ntmps110
  go_wp2
  go_end0
  exact ⟨rfl, by repeat (first | with_reducible exact Out.refl _ _ _ | with_reducible refine Out.setCell ?_ (by simp) (by simp)), by simpa using hB, fun o => by rcases o with _ | _ | _ | _ | _ | _ | _ | _ | _ | _ | o <;> simp [go_sem, hc1], fun o => by simp [go_sem, hc2]⟩
set_option maxRecDepth 100000 in
theorem take_put_lt (k a x pc p cc cw r v T D : Int) (d : Bool) (B : Nat) (w : World) (h0 : 0 ≤ pc) (h4 : pc ≤ 4) (hD : wrap64 (T - p) = D) (h : D < 0) (hc : At B #[Value.int .i64 k, .int .i64 a, .int .i64 x, .int .i64 pc, .int .i64 p, .int .i64 cc, .int .i64 cw, .int .i64 r, .int .i64 v, .bool d] w) :
    Calls Try.prog 97 #[.pointer (some ⟨B, 0, none⟩), .int .i64 T] w fun e w' => e = .returned (.tuple #[]) ∧ Out B (B + 1) w w' ∧ At B #[Value.int .i64 k, .int .i64 a, .int .i64 x, .int .i64 (pc + 1), .int .i64 p, .int .i64 T, .int .i64 cw, .int .i64 3, .int .i64 v, .bool true] w' := by
  obtain ⟨hB, hc1, hc2⟩ := hc
  go_enter Try.func97, Try.ntmps97
  go_wp2_with fail
  refine (take_seq_lt k a x pc p cc cw r v T p 3 D d B _ h0 h4 hD h ⟨hB, hc1, hc2⟩).mono ?_
  rintro e w1 ⟨rfl, o1, a1⟩
  go_wp2
  go_end0
  exact ⟨rfl, o1, a1⟩
set_option maxRecDepth 100000 in
theorem take_get_lt (k a x pc p cc cw r v T D P1 : Int) (d : Bool) (B : Nat) (w : World) (h0 : 0 ≤ pc) (h4 : pc ≤ 4) (hP : wrap64 (p + 1) = P1) (hD : wrap64 (T - P1) = D) (h : D < 0) (hc : At B #[Value.int .i64 k, .int .i64 a, .int .i64 x, .int .i64 pc, .int .i64 p, .int .i64 cc, .int .i64 cw, .int .i64 r, .int .i64 v, .bool d] w) :
    Calls Try.prog 101 #[.pointer (some ⟨B, 0, none⟩), .int .i64 T] w fun e w' => e = .returned (.tuple #[]) ∧ Out B (B + 1) w w' ∧ At B #[Value.int .i64 k, .int .i64 a, .int .i64 x, .int .i64 (pc + 1), .int .i64 p, .int .i64 T, .int .i64 cw, .int .i64 2, .int .i64 v, .bool true] w' := by
  obtain ⟨hB, hc1, hc2⟩ := hc
  have hP2 := hP
  rw [← wrapEq] at hP2
  go_enter Try.func101, Try.ntmps101
  go_wp2_with fail
  refine (take_seq_lt k a x pc p cc cw r v T P1 2 D d B _ h0 h4 hD h ⟨hB, hc1, hc2⟩).mono ?_
  rintro e w1 ⟨rfl, o1, a1⟩
  go_wp2
  go_end0
  exact ⟨rfl, o1, a1⟩
set_option maxRecDepth 100000 in
theorem take_put_gt (k a x pc p cc cw r v T D : Int) (d : Bool) (B : Nat) (w : World) (h0 : 0 ≤ pc) (h4 : pc ≤ 4) (hD : wrap64 (T - p) = D) (h : 0 < D) (hc : At B #[Value.int .i64 k, .int .i64 a, .int .i64 x, .int .i64 pc, .int .i64 p, .int .i64 cc, .int .i64 cw, .int .i64 r, .int .i64 v, .bool d] w) :
    Calls Try.prog 97 #[.pointer (some ⟨B, 0, none⟩), .int .i64 T] w fun e w' => e = .returned (.tuple #[]) ∧ Out B (B + 1) w w' ∧ At B #[Value.int .i64 k, .int .i64 a, .int .i64 x, .int .i64 0, .int .i64 p, .int .i64 T, .int .i64 cw, .int .i64 r, .int .i64 v, .bool d] w' := by
  obtain ⟨hB, hc1, hc2⟩ := hc
  go_enter Try.func97, Try.ntmps97
  go_wp2_with fail
  refine (take_seq_gt k a x pc p cc cw r v T p 3 D d B _ h0 h4 hD h ⟨hB, hc1, hc2⟩).mono ?_
  rintro e w1 ⟨rfl, o1, a1⟩
  go_wp2
  go_end0
  exact ⟨rfl, o1, a1⟩
set_option maxRecDepth 100000 in
theorem take_get_gt (k a x pc p cc cw r v T D P1 : Int) (d : Bool) (B : Nat) (w : World) (h0 : 0 ≤ pc) (h4 : pc ≤ 4) (hP : wrap64 (p + 1) = P1) (hD : wrap64 (T - P1) = D) (h : 0 < D) (hc : At B #[Value.int .i64 k, .int .i64 a, .int .i64 x, .int .i64 pc, .int .i64 p, .int .i64 cc, .int .i64 cw, .int .i64 r, .int .i64 v, .bool d] w) :
    Calls Try.prog 101 #[.pointer (some ⟨B, 0, none⟩), .int .i64 T] w fun e w' => e = .returned (.tuple #[]) ∧ Out B (B + 1) w w' ∧ At B #[Value.int .i64 k, .int .i64 a, .int .i64 x, .int .i64 0, .int .i64 p, .int .i64 T, .int .i64 cw, .int .i64 r, .int .i64 v, .bool d] w' := by
  obtain ⟨hB, hc1, hc2⟩ := hc
  have hP2 := hP
  rw [← wrapEq] at hP2
  go_enter Try.func101, Try.ntmps101
  go_wp2_with fail
  refine (take_seq_gt k a x pc p cc cw r v T P1 2 D d B _ h0 h4 hD h ⟨hB, hc1, hc2⟩).mono ?_
  rintro e w1 ⟨rfl, o1, a1⟩
  go_wp2
  go_end0
  exact ⟨rfl, o1, a1⟩
set_option maxRecDepth 100000 in
theorem take_put_eq (k a x pc p cc cw r v T D : Int) (d : Bool) (B : Nat) (w : World) (h0 : 0 ≤ pc) (h4 : pc ≤ 4) (hD : wrap64 (T - p) = D) (h : D = 0) (hc : At B #[Value.int .i64 k, .int .i64 a, .int .i64 x, .int .i64 pc, .int .i64 p, .int .i64 cc, .int .i64 cw, .int .i64 r, .int .i64 v, .bool d] w) :
    Calls Try.prog 97 #[.pointer (some ⟨B, 0, none⟩), .int .i64 T] w fun e w' => e = .returned (.tuple #[]) ∧ Out B (B + 1) w w' ∧ At B #[Value.int .i64 k, .int .i64 a, .int .i64 x, .int .i64 (pc + 1), .int .i64 p, .int .i64 T, .int .i64 cw, .int .i64 r, .int .i64 v, .bool d] w' := by
  obtain ⟨hB, hc1, hc2⟩ := hc
  go_enter Try.func97, Try.ntmps97
  go_wp2_with fail
  refine (take_seq_eq k a x pc p cc cw r v T p 3 D d B _ h0 h4 hD h ⟨hB, hc1, hc2⟩).mono ?_
  rintro e w1 ⟨rfl, o1, a1⟩
  go_wp2
  go_end0
  exact ⟨rfl, o1, a1⟩
set_option maxRecDepth 100000 in
theorem take_get_eq (k a x pc p cc cw r v T D P1 : Int) (d : Bool) (B : Nat) (w : World) (h0 : 0 ≤ pc) (h4 : pc ≤ 4) (hP : wrap64 (p + 1) = P1) (hD : wrap64 (T - P1) = D) (h : D = 0) (hc : At B #[Value.int .i64 k, .int .i64 a, .int .i64 x, .int .i64 pc, .int .i64 p, .int .i64 cc, .int .i64 cw, .int .i64 r, .int .i64 v, .bool d] w) :
    Calls Try.prog 101 #[.pointer (some ⟨B, 0, none⟩), .int .i64 T] w fun e w' => e = .returned (.tuple #[]) ∧ Out B (B + 1) w w' ∧ At B #[Value.int .i64 k, .int .i64 a, .int .i64 x, .int .i64 (pc + 1), .int .i64 p, .int .i64 T, .int .i64 cw, .int .i64 r, .int .i64 v, .bool d] w' := by
  obtain ⟨hB, hc1, hc2⟩ := hc
  have hP2 := hP
  rw [← wrapEq] at hP2
  go_enter Try.func101, Try.ntmps101
  go_wp2_with fail
  refine (take_seq_eq k a x pc p cc cw r v T P1 2 D d B _ h0 h4 hD h ⟨hB, hc1, hc2⟩).mono ?_
  rintro e w1 ⟨rfl, o1, a1⟩
  go_wp2
  go_end0
  exact ⟨rfl, o1, a1⟩
set_option maxRecDepth 100000 in
theorem take_finish (k a x pc p cc cw r v T : Int) (d : Bool) (B : Nat) (w : World) (h0 : 0 ≤ pc) (h4 : pc ≤ 4) (hc : At B #[Value.int .i64 k, .int .i64 a, .int .i64 x, .int .i64 pc, .int .i64 p, .int .i64 cc, .int .i64 cw, .int .i64 r, .int .i64 v, .bool d] w) :
    Calls Try.prog 100 #[.pointer (some ⟨B, 0, none⟩), .int .i64 T] w fun e w' => e = .returned (.tuple #[]) ∧ Out B (B + 1) w w' ∧ At B #[Value.int .i64 k, .int .i64 a, .int .i64 x, .int .i64 (pc + 1), .int .i64 p, .int .i64 cc, .int .i64 cw, .int .i64 1, .int .i64 v, .bool true] w' := by
  obtain ⟨hB, hc1, hc2⟩ := hc
  go_enter Try.func100, Try.ntmps100
  go_wp2_with fail
  refine (take_end k a x pc p cc cw r v 1 d B _ h0 h4 ⟨hB, hc1, hc2⟩).mono ?_
  rintro e w1 ⟨rfl, o1, a1⟩
  go_wp2
  go_end0
  exact ⟨rfl, o1, a1⟩
set_option maxRecDepth 100000 in
theorem take_turn_no (k a x pc p cc cw r v T : Int) (d : Bool) (B : Nat) (w : World) (h0 : 0 ≤ pc) (h4 : pc ≤ 4) (h : (T == 1) = false) (hc : At B #[Value.int .i64 k, .int .i64 a, .int .i64 x, .int .i64 pc, .int .i64 p, .int .i64 cc, .int .i64 cw, .int .i64 r, .int .i64 v, .bool d] w) :
    Calls Try.prog 98 #[.pointer (some ⟨B, 0, none⟩), .int .i64 T] w fun e w' => e = .returned (.tuple #[]) ∧ Out B (B + 1) w w' ∧ At B #[Value.int .i64 k, .int .i64 a, .int .i64 x, .int .i64 0, .int .i64 p, .int .i64 cc, .int .i64 cw, .int .i64 r, .int .i64 v, .bool d] w' := by
  obtain ⟨hB, hc1, hc2⟩ := hc
  go_enter Try.func98, Try.ntmps98
  go_wp2_with fail
  refine (take_again k a x pc p cc cw r v d B _ h0 h4 ⟨hB, hc1, hc2⟩).mono ?_
  rintro e w1 ⟨rfl, o1, a1⟩
  go_wp2
  go_end0
  exact ⟨rfl, o1, a1⟩
set_option maxRecDepth 100000 in
theorem take_turn_yes (k a x pc p cc cw r v T : Int) (d : Bool) (B : Nat) (w : World) (h0 : 0 ≤ pc) (h4 : pc ≤ 4) (h : (T == 1) = true) (hc : At B #[Value.int .i64 k, .int .i64 a, .int .i64 x, .int .i64 pc, .int .i64 p, .int .i64 cc, .int .i64 cw, .int .i64 r, .int .i64 v, .bool d] w) :
    Calls Try.prog 98 #[.pointer (some ⟨B, 0, none⟩), .int .i64 T] w fun e w' => e = .returned (.tuple #[]) ∧ Out B (B + 1) w w' ∧ At B #[Value.int .i64 k, .int .i64 a, .int .i64 x, .int .i64 (pc + 1), .int .i64 p, .int .i64 cc, .int .i64 cw, .int .i64 r, .int .i64 v, .bool d] w' := by
  obtain ⟨hB, hc1, hc2⟩ := hc
  go_enter Try.func98, Try.ntmps98
  go_wp2
  go_end0
  exact ⟨rfl, by repeat (first | with_reducible exact Out.refl _ _ _ | with_reducible refine Out.setCell ?_ (by simp) (by simp)), by simpa using hB, fun o => by rcases o with _ | _ | _ | _ | _ | _ | _ | _ | _ | _ | o <;> simp [go_sem, hc1], fun o => by simp [go_sem, hc2]⟩
theorem take_any (n k a x pc p cc cw r v T : Int) (B : Nat) (w : World) (h0 : 0 ≤ pc) (h4 : pc ≤ 4) (hk : k = 1 ∨ k = 2) (ht : pc = 2 → T = 0 ∨ T = 1) (co : Cl) (hco : riAfter n ⟨k, a, x, pc, p, cc, cw, r, v, false⟩ T = co) (hc : At B #[Value.int .i64 k, .int .i64 a, .int .i64 x, .int .i64 pc, .int .i64 p, .int .i64 cc, .int .i64 cw, .int .i64 r, .int .i64 v, .bool false] w) :
    Calls Try.prog (takeF k pc) #[.pointer (some ⟨B, 0, none⟩), .int .i64 T] w fun e w' => e = .returned (.tuple #[]) ∧ Out B (B + 1) w w' ∧ At B #[Value.int .i64 co.k, .int .i64 co.a, .int .i64 co.x, .int .i64 co.pc, .int .i64 co.p, .int .i64 co.c, .int .i64 co.w, .int .i64 co.r, .int .i64 co.v, .bool co.d] w' := by
  subst hco
  obtain rfl | rfl | rfl | rfl | rfl : pc = 0 ∨ pc = 1 ∨ pc = 2 ∨ pc = 3 ∨ pc = 4 := by omega
  · rw [show riAfter n ⟨k, a, x, 0, p, cc, cw, r, v, false⟩ T = ⟨k, a, x, 0 + 1, T, cc, cw, r, v, false⟩ by simp [riAfter]]
    exact take_number k a x 0 p cc cw r v T false B w h0 h4 hc
  · rcases hk with rfl | rfl
    · by_cases h1 : wrap64 (T - p) < 0
      · rw [show riAfter n ⟨1, a, x, 1, p, cc, cw, r, v, false⟩ T = ⟨1, a, x, 1 + 1, p, T, cw, 3, v, true⟩ by simp [riAfter, h1]]
        exact take_put_lt 1 a x 1 p cc cw r v T _ false B w h0 h4 rfl h1 hc
      · by_cases h2 : 0 < wrap64 (T - p)
        · rw [show riAfter n ⟨1, a, x, 1, p, cc, cw, r, v, false⟩ T = ⟨1, a, x, 0, p, T, cw, r, v, false⟩ by simp [riAfter, h1, h2]]
          exact take_put_gt 1 a x 1 p cc cw r v T _ false B w h0 h4 rfl h2 hc
        · rw [show riAfter n ⟨1, a, x, 1, p, cc, cw, r, v, false⟩ T = ⟨1, a, x, 1 + 1, p, T, cw, r, v, false⟩ by simp [riAfter, h1, h2]]
          exact take_put_eq 1 a x 1 p cc cw r v T _ false B w h0 h4 rfl (by omega) hc
    · by_cases h1 : wrap64 (T - wrap64 (p + 1)) < 0
      · rw [show riAfter n ⟨2, a, x, 1, p, cc, cw, r, v, false⟩ T = ⟨2, a, x, 1 + 1, p, T, cw, 2, v, true⟩ by simp [riAfter, h1]]
        exact take_get_lt 2 a x 1 p cc cw r v T _ _ false B w h0 h4 rfl rfl h1 hc
      · by_cases h2 : 0 < wrap64 (T - wrap64 (p + 1))
        · rw [show riAfter n ⟨2, a, x, 1, p, cc, cw, r, v, false⟩ T = ⟨2, a, x, 0, p, T, cw, r, v, false⟩ by simp [riAfter, h1, h2]]
          exact take_get_gt 2 a x 1 p cc cw r v T _ _ false B w h0 h4 rfl rfl h2 hc
        · rw [show riAfter n ⟨2, a, x, 1, p, cc, cw, r, v, false⟩ T = ⟨2, a, x, 1 + 1, p, T, cw, r, v, false⟩ by simp [riAfter, h1, h2]]
          exact take_get_eq 2 a x 1 p cc cw r v T _ _ false B w h0 h4 rfl rfl (by omega) hc
  · rcases ht rfl with rfl | rfl
    · rw [show riAfter n ⟨k, a, x, 2, p, cc, cw, r, v, false⟩ 0 = ⟨k, a, x, 0, p, cc, cw, r, v, false⟩ by simp [riAfter]]
      exact take_turn_no k a x 2 p cc cw r v 0 false B w h0 h4 rfl hc
    · rw [show riAfter n ⟨k, a, x, 2, p, cc, cw, r, v, false⟩ 1 = ⟨k, a, x, 2 + 1, p, cc, cw, r, v, false⟩ by simp [riAfter]]
      exact take_turn_yes k a x 2 p cc cw r v 1 false B w h0 h4 rfl hc
  · rcases hk with rfl | rfl
    · rw [show riAfter n ⟨1, a, x, 3, p, cc, cw, r, v, false⟩ T = ⟨1, a, x, 3 + 1, p, cc, cw, r, v, false⟩ by simp [riAfter]]
      exact take_goon 1 a x 3 p cc cw r v T false B w h0 h4 hc
    · rw [show riAfter n ⟨2, a, x, 3, p, cc, cw, r, v, false⟩ T = ⟨2, a, x, 3 + 1, p, cc, cw, r, T, false⟩ by simp [riAfter]]
      exact take_value 2 a x 3 p cc cw r v T false B w h0 h4 hc
  · rw [show riAfter n ⟨k, a, x, 4, p, cc, cw, r, v, false⟩ T = ⟨k, a, x, 4 + 1, p, cc, cw, 1, v, true⟩ by simp [riAfter]]
    exact take_finish k a x 4 p cc cw r v T false B w h0 h4 hc

end Go.Proofs.Ytomfdbglnedpcaa
