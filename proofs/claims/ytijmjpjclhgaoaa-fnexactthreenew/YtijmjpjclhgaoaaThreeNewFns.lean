/- A new cache of three queues: both sides. -/
import Derived.Test.YtijmjpjclhgaoaaRows
import Derived.WalkKit
import Derived.ProofKit
import Derived.OpenShut
import Derived.ShutString
import Derived.Test.YtijmjpjclhgaoaaRtB
import Derived.Test.YtijmjpjclhgaoaaRtC
namespace Go.Proofs.Ytijmjpjclhgaoaa
open Go.ChangeShapes Go.WideShapes Go.ChangeAt Go.RowKit
set_option linter.unusedVariables false

def cS (B : Bool) (x : Int) : Int := if B then x else 0
theorem ok_fixN {OK : Prop} {B : Bool} (hB : B = true ↔ OK) {w w' : World} {e : Ending} (h : OkAns OK w e w') : e = .returned (.bool B) ∧ Below w.heap.size w w' := by
  obtain ⟨⟨b, rfl, hb⟩, bl⟩ := h
  have : b = B := by
    cases b <;> cases B
    · rfl
    · have := hb.out.2 (hB.1 rfl); cases this
    · have := hB.2 (hb.out.1 rfl); cases this
    · rfl
  rw [this]
  exact ⟨rfl, bl⟩
theorem fit0 (c m : Int) : TrFit ⟨c, m, [], [], []⟩ := by unfold TrFit szN szItS; simp
theorem in0 (c m : Int) (W : World) : TrIn W (.slice none 0 0) (.slice none 0 0) (.slice none 0 0) ⟨c, m, [], [], []⟩ := (TrR.zero 0 0 c m W).toQ.tin (Nat.zero_le _)
set_option maxHeartbeats 1600000 in
set_option maxRecDepth 100000 in
theorem spec_threenew (cap most : Int) (B : Bool) (hB : B = true ↔ TrOk ⟨cap, most, [], [], []⟩) (w : World) :
    Calls Try.prog 18 #[.int .i64 cap, .int .i64 most] w fun e w' => e = .returned (.tuple #[.agg #[.int .i64 (cS B cap), .int .i64 (cS B most), .slice none 0 0, .slice none 0 0, .slice none 0 0], .bool B]) ∧ Below w.heap.size w w' := by
  have HO := hidIt (fun W => (spec_threeok W _ _ _ ⟨cap, most, [], [], []⟩ (fit0 _ _) (in0 _ _ W)).mono (fun e w' h => ok_fixN hB h))
  clear hB
  go_enter Try.func18, Try.ntmps18
  go_wp2_with fail
  generalize hW : World.alloc (World.alloc w _) _ = W0
  have X := bx2 w #[.int .i64 0, .int .i64 0, .slice none 0 0, .slice none 0 0, .slice none 0 0] #[.int .i64 cap, .int .i64 most, .slice none 0 0, .slice none 0 0, .slice none 0 0] 37 37
  rw [hW] at X
  clear hW
  obtain ⟨X0, X1, bW, zW⟩ := X
  refine (HO.out _).mono ?_
  rintro e w1 ⟨rfl, b1⟩
  have z1 := b1.size
  have Y := hidIt (And.intro (X0.below b1) (And.intro (X1.below b1) (below_step bW (b1.mono (by omega)))))
  clear X0 X1 b1 bW
  have m0 := Y.out.1.2.1 0
  have m1 := Y.out.1.2.1 1
  have m2 := Y.out.1.2.1 2
  have m3 := Y.out.1.2.1 3
  have m4 := Y.out.1.2.1 4
  have mf := Y.out.1.2.2
  have k0 := Y.out.2.1.2.1 0
  have k1 := Y.out.2.1.2.1 1
  have k2 := Y.out.2.1.2.1 2
  have k3 := Y.out.2.1.2.1 3
  have k4 := Y.out.2.1.2.1 4
  simp at m0 m1 m2 m3 m4 k0 k1 k2 k3 k4
  have y3 := Y.out.2.2
  cases B
  · go_wp2
    refine bodyPost_ret (v := .tuple #[.agg #[.int .i64 0, .int .i64 0, .slice none 0 0, .slice none 0 0, .slice none 0 0], .bool false]) (by simp [results, Try.results18, go_sem, m0, m1, m2, m3, m4]) rfl ⟨rfl, ?_⟩
    repeat (first | exact y3 | refine Below.setCell ?_ (by simp <;> omega) _)
  · go_wp2
    refine bodyPost_ret (v := .tuple #[.agg #[.int .i64 cap, .int .i64 most, .slice none 0 0, .slice none 0 0, .slice none 0 0], .bool true]) (by simp [results, Try.results18, go_sem, m0, m1, m2, m3, m4]) rfl ⟨rfl, ?_⟩
    repeat (first | exact y3 | refine Below.setCell ?_ (by simp <;> omega) _)
set_option maxHeartbeats 1600000 in
set_option maxRecDepth 100000 in
theorem impl_threenew (cap most : Int) (B : Bool) (hB : B = true ↔ TrOk ⟨cap, most, [], [], []⟩) (w : World) :
    Calls Try.prog 19 #[.int .i64 cap, .int .i64 most] w fun e w' => e = .returned (.tuple #[.agg #[.int .i64 (cS B cap), .int .i64 (cS B most), .slice none 0 0, .slice none 0 0, .slice none 0 0], .bool B]) ∧ Below w.heap.size w w' := by
  have HO := hidIt (fun W => (impl_threeok W _ _ _ ⟨cap, most, [], [], []⟩ (fit0 _ _) (in0 _ _ W)).mono (fun e w' h => ok_fixN hB h))
  clear hB
  go_enter Try.func19, Try.ntmps19
  go_wp2_with fail
  generalize hW : World.alloc (World.alloc w _) _ = W0
  have X := bx2 w #[.int .i64 0, .int .i64 0, .slice none 0 0, .slice none 0 0, .slice none 0 0] #[.int .i64 cap, .int .i64 most, .slice none 0 0, .slice none 0 0, .slice none 0 0] 37 37
  rw [hW] at X
  clear hW
  obtain ⟨X0, X1, bW, zW⟩ := X
  refine (HO.out _).mono ?_
  rintro e w1 ⟨rfl, b1⟩
  have z1 := b1.size
  have Y := hidIt (And.intro (X0.below b1) (And.intro (X1.below b1) (below_step bW (b1.mono (by omega)))))
  clear X0 X1 b1 bW
  have m0 := Y.out.1.2.1 0
  have m1 := Y.out.1.2.1 1
  have m2 := Y.out.1.2.1 2
  have m3 := Y.out.1.2.1 3
  have m4 := Y.out.1.2.1 4
  have mf := Y.out.1.2.2
  have k0 := Y.out.2.1.2.1 0
  have k1 := Y.out.2.1.2.1 1
  have k2 := Y.out.2.1.2.1 2
  have k3 := Y.out.2.1.2.1 3
  have k4 := Y.out.2.1.2.1 4
  simp at m0 m1 m2 m3 m4 k0 k1 k2 k3 k4
  have y3 := Y.out.2.2
  cases B
  · go_wp2
    refine bodyPost_ret (v := .tuple #[.agg #[.int .i64 0, .int .i64 0, .slice none 0 0, .slice none 0 0, .slice none 0 0], .bool false]) (by simp [results, Try.results19, go_sem, m0, m1, m2, m3, m4]) rfl ⟨rfl, ?_⟩
    repeat (first | exact y3 | refine Below.setCell ?_ (by simp <;> omega) _)
  · go_wp2
    refine bodyPost_ret (v := .tuple #[.agg #[.int .i64 cap, .int .i64 most, .slice none 0 0, .slice none 0 0, .slice none 0 0], .bool true]) (by simp [results, Try.results19, go_sem, m0, m1, m2, m3, m4]) rfl ⟨rfl, ?_⟩
    repeat (first | exact y3 | refine Below.setCell ?_ (by simp <;> omega) _)

end Go.Proofs.Ytijmjpjclhgaoaa
