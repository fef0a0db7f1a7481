/- Contracts of functions of the program and of its model, and plain lemmas: several texts in one. -/
import Derived.Shelf.Small.Bits
import Derived.Shelf.Small.Wraps
import Derived.Shelf.Strconv.Itoa0
import Derived.Shelf.Sort.Plain
import Derived.Ground.Names2Prog
import Derived.Shelf.Slices.Clone
import Derived.Shelf.Slices.SearchI
import Derived.Ground.SlgnProg
import Derived.Shelf.SlicesE.Clone
import Derived.Test.YtikliofkplbdpaaProg
import Derived.Test.YtikliofkplbdpaaRows
import Derived.WalkKit
import Derived.ProofKit
import Derived.OpenShut
import Derived.ShutString
import Derived.Test.YtikliofkplbdpaaRBaseB
import Derived.Test.YtikliofkplbdpaaRBaseA
import Derived.Deep.LoopGhost

namespace Go.Proofs
open Go.Shelf
def Try.lays128_ren : Go.Shelf.Ren := ⟨fun | 128 => 61 | n => n, fun | 51 => 88 | 3 => 3 | 4 => 4 | 46 => 75 | 5 => 5 | 9 => 9 | n => n, fun | n => n⟩
theorem Try.lays128 : Go.Proofs.Lays.n128 Try.prog Try.lays128_ren := {
  mixed := by kernel_rfl
  f128 := Try.func61.trans (congrArg some (by kernel_rfl))
  t3 := Try.underlying3
  a3 := Try.isAgg3
  z3 := Try.sizeOf3
  v3 := Try.zeroValue3
  t4 := Try.underlying4
  a4 := Try.isAgg4
  z4 := Try.sizeOf4
  v4 := Try.zeroValue4
  t5 := Try.underlying5
  a5 := Try.isAgg5
  z5 := Try.sizeOf5
  v5 := Try.zeroValue5
  t9 := Try.underlying9
  a9 := Try.isAgg9
  z9 := Try.sizeOf9
  v9 := Try.zeroValue9
  t46 := Try.underlying75
  a46 := Try.isAgg75
  z46 := Try.sizeOf75
  v46 := Try.zeroValue75
  t51 := Try.underlying88
  a51 := Try.isAgg88
  z51 := Try.sizeOf88
  v51 := Try.zeroValue88 }
theorem Try.bits_Len32 (x : Int) (w : World) (h0 : 0 ≤ x) (h1 : x ≤ 4294967295) :
    Calls Try.prog 61 #[.int .u32 x] w fun e w' => e = .returned (.int .i64 (Lib.bitLen x.toNat)) ∧ w' = w := Any.bits_Len32 Try.lays128 x w h0 h1
def Try.lays125_ren : Go.Shelf.Ren := ⟨fun | 125 => 49 | 128 => 61 | 129 => 62 | n => n, fun | 46 => 75 | 3 => 3 | 51 => 88 | 53 => 90 | 4 => 4 | 5 => 5 | 9 => 9 | n => n, fun | n => n⟩
theorem Try.lays125 : Go.Proofs.Lays.n125 Try.prog Try.lays125_ren := {
  mixed := by kernel_rfl
  f125 := Try.func49.trans (congrArg some (by kernel_rfl))
  f128 := Try.func61.trans (congrArg some (by kernel_rfl))
  f129 := Try.func62.trans (congrArg some (by kernel_rfl))
  t3 := Try.underlying3
  a3 := Try.isAgg3
  z3 := Try.sizeOf3
  v3 := Try.zeroValue3
  t4 := Try.underlying4
  a4 := Try.isAgg4
  z4 := Try.sizeOf4
  v4 := Try.zeroValue4
  t5 := Try.underlying5
  a5 := Try.isAgg5
  z5 := Try.sizeOf5
  v5 := Try.zeroValue5
  t9 := Try.underlying9
  a9 := Try.isAgg9
  z9 := Try.sizeOf9
  v9 := Try.zeroValue9
  t46 := Try.underlying75
  a46 := Try.isAgg75
  z46 := Try.sizeOf75
  v46 := Try.zeroValue75
  t51 := Try.underlying88
  a51 := Try.isAgg88
  z51 := Try.sizeOf88
  v51 := Try.zeroValue88
  t53 := Try.underlying90
  a53 := Try.isAgg90
  z53 := Try.sizeOf90
  v53 := Try.zeroValue90 }
theorem Try.bits_Len (x : Int) (w : World) (h0 : 0 ≤ x) (h1 : x ≤ 18446744073709551615) :
    Calls Try.prog 49 #[.int .u64 x] w fun e w' => e = .returned (.int .i64 (Lib.bitLen x.toNat)) ∧ w' = w := Any.bits_Len Try.lays125 x w h0 h1
def Try.lays215_ren : Go.Shelf.Ren := ⟨fun | 215 => 68 | n => n, fun | 3 => 3 | 4 => 4 | n => n, fun | n => n⟩
theorem Try.lays215 : Go.Proofs.Lays.n215 Try.prog Try.lays215_ren := {
  mixed := by kernel_rfl
  f215 := Try.func68.trans (congrArg some (by kernel_rfl))
  t3 := Try.underlying3
  a3 := Try.isAgg3
  z3 := Try.sizeOf3
  v3 := Try.zeroValue3
  t4 := Try.underlying4
  a4 := Try.isAgg4
  z4 := Try.sizeOf4
  v4 := Try.zeroValue4 }
open Go.RowKit in
theorem Try.cmp_isNaN_int (x : Int) (w : World) :
    Calls Try.prog 68 #[.int .i64 x] w fun e w' => e = .returned (.bool false) ∧ w' = w := Any.cmp_isNaN_int Try.lays215 x w
def Try.lays129_ren : Go.Shelf.Ren := ⟨fun | 129 => 62 | n => n, fun | 53 => 90 | 3 => 3 | 4 => 4 | 46 => 75 | 5 => 5 | 9 => 9 | n => n, fun | n => n⟩
theorem Try.lays129 : Go.Proofs.Lays.n129 Try.prog Try.lays129_ren := {
  mixed := by kernel_rfl
  f129 := Try.func62.trans (congrArg some (by kernel_rfl))
  t3 := Try.underlying3
  a3 := Try.isAgg3
  z3 := Try.sizeOf3
  v3 := Try.zeroValue3
  t4 := Try.underlying4
  a4 := Try.isAgg4
  z4 := Try.sizeOf4
  v4 := Try.zeroValue4
  t5 := Try.underlying5
  a5 := Try.isAgg5
  z5 := Try.sizeOf5
  v5 := Try.zeroValue5
  t9 := Try.underlying9
  a9 := Try.isAgg9
  z9 := Try.sizeOf9
  v9 := Try.zeroValue9
  t46 := Try.underlying75
  a46 := Try.isAgg75
  z46 := Try.sizeOf75
  v46 := Try.zeroValue75
  t53 := Try.underlying90
  a53 := Try.isAgg90
  z53 := Try.sizeOf90
  v53 := Try.zeroValue90 }
theorem Try.bits_Len64 (x : Int) (w : World) (h0 : 0 ≤ x) (h1 : x ≤ 18446744073709551615) :
    Calls Try.prog 62 #[.int .u64 x] w fun e w' => e = .returned (.int .i64 (Lib.bitLen x.toNat)) ∧ w' = w := Any.bits_Len64 Try.lays129 x w h0 h1
def Try.lays189_ren : Go.Shelf.Ren := ⟨fun | 189 => 38 | 125 => 49 | 257 => 48 | 128 => 61 | 129 => 62 | 294 => 52 | 295 => 53 | 296 => 54 | 297 => 55 | 298 => 56 | 299 => 57 | 216 => 58 | 300 => 59 | 301 => 60 | 328 => 63 | 329 => 64 | 330 => 65 | 331 => 66 | 332 => 67 | 215 => 68 | 343 => 69 | n => n, fun | 28 => 22 | 3 => 3 | 46 => 75 | 0 => 0 | 51 => 88 | 53 => 90 | 4 => 4 | 183 => 81 | 182 => 80 | 131 => 77 | 5 => 5 | 9 => 9 | 218 => 91 | 222 => 95 | 228 => 97 | 229 => 98 | n => n, fun | n => n⟩
theorem Try.lays189 : Go.Proofs.Lays.n189 Try.prog Try.lays189_ren := {
  mixed := by kernel_rfl
  f125 := Try.func49.trans (congrArg some (by kernel_rfl))
  f128 := Try.func61.trans (congrArg some (by kernel_rfl))
  f129 := Try.func62.trans (congrArg some (by kernel_rfl))
  f189 := Try.func38.trans (congrArg some (by kernel_rfl))
  f215 := Try.func68.trans (congrArg some (by kernel_rfl))
  f216 := Try.func58.trans (congrArg some (by kernel_rfl))
  f257 := Try.func48.trans (congrArg some (by kernel_rfl))
  f294 := Try.func52.trans (congrArg some (by kernel_rfl))
  f295 := Try.func53.trans (congrArg some (by kernel_rfl))
  f296 := Try.func54.trans (congrArg some (by kernel_rfl))
  f297 := Try.func55.trans (congrArg some (by kernel_rfl))
  f298 := Try.func56.trans (congrArg some (by kernel_rfl))
  f299 := Try.func57.trans (congrArg some (by kernel_rfl))
  f300 := Try.func59.trans (congrArg some (by kernel_rfl))
  f301 := Try.func60.trans (congrArg some (by kernel_rfl))
  f328 := Try.func63.trans (congrArg some (by kernel_rfl))
  f329 := Try.func64.trans (congrArg some (by kernel_rfl))
  f330 := Try.func65.trans (congrArg some (by kernel_rfl))
  f331 := Try.func66.trans (congrArg some (by kernel_rfl))
  f332 := Try.func67.trans (congrArg some (by kernel_rfl))
  f343 := Try.func69.trans (congrArg some (by kernel_rfl))
  t0 := Try.underlying0
  a0 := Try.isAgg0
  z0 := Try.sizeOf0
  v0 := Try.zeroValue0
  t3 := Try.underlying3
  a3 := Try.isAgg3
  z3 := Try.sizeOf3
  v3 := Try.zeroValue3
  t4 := Try.underlying4
  a4 := Try.isAgg4
  z4 := Try.sizeOf4
  v4 := Try.zeroValue4
  t5 := Try.underlying5
  a5 := Try.isAgg5
  z5 := Try.sizeOf5
  v5 := Try.zeroValue5
  t9 := Try.underlying9
  a9 := Try.isAgg9
  z9 := Try.sizeOf9
  v9 := Try.zeroValue9
  t28 := Try.underlying22
  a28 := Try.isAgg22
  z28 := Try.sizeOf22
  v28 := Try.zeroValue22
  t46 := Try.underlying75
  a46 := Try.isAgg75
  z46 := Try.sizeOf75
  v46 := Try.zeroValue75
  t51 := Try.underlying88
  a51 := Try.isAgg88
  z51 := Try.sizeOf88
  v51 := Try.zeroValue88
  t53 := Try.underlying90
  a53 := Try.isAgg90
  z53 := Try.sizeOf90
  v53 := Try.zeroValue90
  t131 := Try.underlying77
  a131 := Try.isAgg77
  z131 := Try.sizeOf77
  v131 := Try.zeroValue77
  t182 := Try.underlying80
  a182 := Try.isAgg80
  z182 := Try.sizeOf80
  v182 := Try.zeroValue80
  t183 := Try.underlying81
  a183 := Try.isAgg81
  z183 := Try.sizeOf81
  v183 := Try.zeroValue81
  t218 := Try.underlying91
  a218 := Try.isAgg91
  z218 := Try.sizeOf91
  v218 := Try.zeroValue91
  t222 := Try.underlying95
  a222 := Try.isAgg95
  z222 := Try.sizeOf95
  v222 := Try.zeroValue95
  t228 := Try.underlying97
  a228 := Try.isAgg97
  z228 := Try.sizeOf97
  v228 := Try.zeroValue97
  t229 := Try.underlying98
  a229 := Try.isAgg98
  z229 := Try.sizeOf98
  v229 := Try.zeroValue98 }
open Go.Sort Go.RowKit in
theorem Try.slices_Sort_int (blk off cap : Nat) (zs : List Int) (w : World) (hH : Holds (Value.int .i64) w blk off zs.toArray) (hblk : blk < w.heap.size) (hsz : zs.length < 4611686018427387904) :
    Calls Try.prog 38 #[.slice (some ⟨blk, off, none⟩) zs.length cap] w fun e w' =>
      e = .returned (.tuple #[]) ∧ ∃ n os, w' = grow (putRow (Value.int .i64) (Sort.ahead w n) blk off (zs.mergeSort fun x y => decide (x ≤ y)).toArray) os := Any.slices_Sort_int Try.lays189 blk off cap zs w hH hblk hsz
def Try.laysNm215_ren : Go.Shelf.Ren := ⟨fun | 15 => 22 | n => n, fun | 22 => 22 | 3 => 3 | 4 => 4 | n => n, fun | n => n⟩
theorem Try.laysNm215 : Go.Proofs.Lays2.n15 Try.prog Try.laysNm215_ren := {
  mixed := by kernel_rfl
  f15 := Try.func22.trans (congrArg some (by kernel_rfl))
  t3 := Try.underlying3
  a3 := Try.isAgg3
  z3 := Try.sizeOf3
  v3 := Try.zeroValue3
  t4 := Try.underlying4
  a4 := Try.isAgg4
  z4 := Try.sizeOf4
  v4 := Try.zeroValue4
  t22 := Try.underlying22
  a22 := Try.isAgg22
  z22 := Try.sizeOf22
  v22 := Try.zeroValue22
  i3 := by kernel_rfl }
open Go.RowKit Go.Lib in
theorem Try.slices_Clone_int (b off n c : Nat) (zs : List Int) (w : World) (hz : n ≤ zs.length) (hbig : n * 8 ≤ 140737488355328) (hc : ∀ j, j < zs.length → w.cell? ⟨b, off + j, none⟩ = some (.int .i64 (zs.getD j 0))) :
    Calls Try.prog 22 #[.slice (some ⟨b, off, none⟩) n c] w fun e w' => ∃ v', e = .returned v' ∧ w'.ownsRow w.heap.size 3 1 v' n ((zs.take n).map (Value.int .i64)) ∧ v' ≠ .slice none 0 0 ∧ Below w.heap.size w w' := Any.slices_Clone_int Try.laysNm215 b off n c zs w hz hbig hc
open Go.RowKit Go.Lib in
theorem Try.slices_Clone_int_nil (n c : Nat) (w : World) :
    Calls Try.prog 22 #[.slice none n c] w fun e w' => e = .returned (.slice none 0 0) ∧ w' = w := Any.slices_Clone_int_nil Try.laysNm215 n c w
open Go.RowKit Go.Lib in
theorem Try.slices_Clone_int_zero (a : Addr) (c : Nat) (w : World) :
    Calls Try.prog 22 #[.slice (some a) 0 c] w fun e w' => ∃ v', e = .returned v' ∧ w'.ownsRow w.heap.size 3 1 v' 0 [] ∧ v' ≠ .slice none 0 0 ∧ Below w.heap.size w w' := Any.slices_Clone_int_zero Try.laysNm215 a c w
def Try.laysNm237_ren : Go.Shelf.Ren := ⟨fun | 37 => 68 | n => n, fun | 3 => 3 | 4 => 4 | n => n, fun | n => n⟩
theorem Try.laysNm237 : Go.Proofs.Lays2.n37 Try.prog Try.laysNm237_ren := {
  mixed := by kernel_rfl
  f37 := Try.func68.trans (congrArg some (by kernel_rfl))
  t3 := Try.underlying3
  a3 := Try.isAgg3
  z3 := Try.sizeOf3
  v3 := Try.zeroValue3
  t4 := Try.underlying4
  a4 := Try.isAgg4
  z4 := Try.sizeOf4
  v4 := Try.zeroValue4 }
open Go.RowKit Go.Lib in
theorem Try.cmp_isNaN_int2 (x : Int) (w : World) :
    Calls Try.prog 68 #[.int .i64 x] w fun e w' => e = .returned (.bool false) ∧ w' = w := Any.cmp_isNaN_int2 Try.laysNm237 x w
def Try.laysNm231_ren : Go.Shelf.Ren := ⟨fun | 31 => 58 | 37 => 68 | n => n, fun | 3 => 3 | 4 => 4 | n => n, fun | n => n⟩
theorem Try.laysNm231 : Go.Proofs.Lays2.n31 Try.prog Try.laysNm231_ren := {
  mixed := by kernel_rfl
  f31 := Try.func58.trans (congrArg some (by kernel_rfl))
  f37 := Try.func68.trans (congrArg some (by kernel_rfl))
  t3 := Try.underlying3
  a3 := Try.isAgg3
  z3 := Try.sizeOf3
  v3 := Try.zeroValue3
  t4 := Try.underlying4
  a4 := Try.isAgg4
  z4 := Try.sizeOf4
  v4 := Try.zeroValue4 }
open Go.RowKit Go.Lib in
theorem Try.cmp_Less_int2 (x y : Int) (w : World) :
    Calls Try.prog 58 #[.int .i64 x, .int .i64 y] w fun e w' => e = .returned (.bool (decide (x < y))) ∧ w' = w := Any.cmp_Less_int2 Try.laysNm231 x y w
def Try.laysSlE041_f22_ren : Go.Shelf.Ren := ⟨fun | 41 => 22 | n => n, fun | 22 => 22 | 23 => 3 | 4 => 4 | n => n, fun | n => n⟩
theorem Try.laysSlE041_f22 : Go.Proofs.SlLaysE0.n41 Try.prog Try.laysSlE041_f22_ren := {
  mixed := by kernel_rfl
  f41 := ⟨Try.f22.name, by decide, Try.func22.trans (congrArg some (by kernel_rfl))⟩
  t4 := Try.underlying4
  a4 := Try.isAgg4
  z4 := Try.sizeOf4
  v4 := Try.zeroValue4
  t22 := Try.underlying22
  a22 := Try.isAgg22
  z22 := Try.sizeOf22
  v22 := Try.zeroValue22 }
open Go.RowKit Go.Lib in
theorem Try.slices_Clone (i0 : TypeInfo) (z : Value) (size bytes : Nat) (hi : Try.prog.info? 3 = some i0) (hz0 : i0.zero = some z) (hz1 : i0.size = size) (hz2 : i0.bytes = bytes) (hzs : z.cells.size = size) (hsz : 0 < size) (z23 : ∀ w, (Go.sizeOf 3).run Try.prog w = .ok size w) (b off n c : Nat) (news : List Value) (w : World) (hl : news.length = n * size) (hn : n ≤ maxLen) (hbig : n * bytes ≤ 140737488355328) (hc : ∀ j u, news[j]? = some u → w.cell? ⟨b, off + j, none⟩ = some u) (h1 : ∀ u ∈ news, u.oneCell' = true) :
    Calls Try.prog 22 #[.slice (some ⟨b, off, none⟩) n c] w fun e w' => ∃ v', e = .returned v' ∧ w'.ownsRow w.heap.size 3 size v' n news ∧ v' ≠ .slice none 0 0 ∧ Below w.heap.size w w' := AnyE.slices_Clone Try.laysSlE041_f22 i0 z size bytes hi hz0 hz1 hz2 hzs hsz z23 b off n c news w hl hn hbig hc h1
open Go.RowKit Go.Lib in
theorem Try.slices_Clone_nil (n c : Nat) (w : World) :
    Calls Try.prog 22 #[.slice none n c] w fun e w' => e = .returned (.slice none 0 0) ∧ w' = w := AnyE.slices_Clone_nil Try.laysSlE041_f22 n c w
end Go.Proofs

namespace Go.Proofs.Ytikliofkplbdpaa
open Go.ChangeShapes Go.WideShapes Go.ChangeAt Go.RowKit
set_option linter.unusedVariables false

theorem intsIn_len {w : World} {a : Option Addr} {n c : Nat} {xs : List Int} (h : IntsIn w (.slice a n c) xs) : n = xs.length := by
  obtain ⟨-, a', c', h, -⟩ := h
  simp at h
  exact h.2.1
def sumLen (LL : List (List Int)) : Nat → Nat
  | 0 => 0
  | k + 1 => sumLen LL k + (LL.getD k []).length
def catTo (LL : List (List Int)) : Nat → List Int
  | 0 => []
  | k + 1 => catTo LL k ++ LL.getD k []
theorem sumLen_mono (LL : List (List Int)) {a b : Nat} (h : a ≤ b) : sumLen LL a ≤ sumLen LL b := by
  induction b with
  | zero => obtain rfl : a = 0 := by omega
            exact Nat.le_refl _
  | succ b ih =>
    by_cases e : a = b + 1
    · subst e; exact Nat.le_refl _
    · exact Nat.le_trans (ih (by omega)) (Nat.le_add_right _ _)
theorem catTo_len (LL : List (List Int)) (k : Nat) : (catTo LL k).length = sumLen LL k := by
  induction k with
  | zero => rfl
  | succ k ih => show (catTo LL k ++ _).length = sumLen LL k + _; rw [List.length_append, ih]
theorem getD_ll (LL : List (List Int)) (j : Nat) (h : j < LL.length) : LL.getD j [] = LL[j] := by simp [List.getD, h]
theorem clone_in (w : World) (v : Value) (xs : List Int) (hn : xs.length ≤ 4194304) (h : IntsIn w v xs) :
    Calls Try.prog 22 #[v] w fun e w' => ∃ v', e = .returned v' ∧ IntsNew w w' v' xs := by
  obtain ⟨⟨a, c, rfl, h⟩, -⟩ := h
  by_cases h0 : 0 < xs.length
  · rcases h with rfl | ⟨b, off, rfl, hb, hc⟩
    · exact absurd h0 (by simp)
    · refine (Try.slices_Clone_int b off xs.length c xs w (Nat.le_refl _) (by omega) (fun j hj => by rw [hc j hj]; simp [hj])).mono ?_
      rintro e w' ⟨v', rfl, o1, -, b1⟩
      exact ⟨v', rfl, ints_of_owns (n := xs.length) (by simpa using o1) (Nat.le_refl _) b1⟩
  · obtain rfl : xs = [] := List.length_eq_zero_iff.1 (by omega)
    cases a with
    | none =>
      refine (Try.slices_Clone_int_nil _ c w).mono ?_
      rintro e w' ⟨rfl, rfl⟩
      exact ⟨_, rfl, [], ⟨none, 0, rfl, trivial, .inl ⟨rfl, rfl⟩⟩, List.nodup_nil, by simp, Below.refl _ _⟩
    | some ad =>
      refine (Try.slices_Clone_int_zero ad c w).mono ?_
      rintro e w' ⟨v', rfl, o1, -, b1⟩
      exact ⟨v', rfl, ints_of_owns (n := 0) (xs := []) o1 (Nat.le_refl _) b1⟩

end Go.Proofs.Ytikliofkplbdpaa

namespace Go.Proofs.Ytikliofkplbdpaa
open Go.ChangeShapes Go.WideShapes Go.ChangeAt Go.RowKit
set_option linter.unusedVariables false

def WA (lo hi : Nat) (f v : Value) (F V : List Int) (W : World) : Prop := ∃ a1 b1 a3 b3, lo ≤ a1 ∧ b1 ≤ hi ∧ lo ≤ a3 ∧ b3 ≤ hi ∧ (b1 ≤ a3 ∨ b3 ≤ a1) ∧ Row W a1 b1 f (ints F) ∧ Row W a3 b3 v (ints V)
theorem WA.loc (lo hi : Nat) (f v : Value) (F V : List Int) : Loc lo hi (WA lo hi f v F V) := by
  rintro w w' ⟨a1, b1, a3, b3, h1, h2, h3, h4, h5, r1, r2⟩ hk
  exact ⟨a1, b1, a3, b3, h1, h2, h3, h4, h5, Row.loc _ _ _ _ w w' r1 (fun k k1 k2 => hk k (by omega) (by omega)), Row.loc _ _ _ _ w w' r2 (fun k k1 k2 => hk k (by omega) (by omega))⟩
theorem WA.below {w w' : World} {lo hi : Nat} {f v : Value} {F V : List Int} (h : WA lo hi f v F V w) (hb : Below hi w w') : WA lo hi f v F V w' := WA.loc _ _ _ _ _ _ w w' h (fun k _ hk => hb.block k hk)
theorem WA.set {w : World} {lo hi : Nat} {f v : Value} {F V : List Int} (h : WA lo hi f v F V w) {b o : Nat} {x : Value} (hb : b < lo) : WA lo hi f v F V (w.setCell ⟨b, o, none⟩ x) :=
  WA.loc lo hi f v F V w _ h (fun k k1 _ => Below.heap_setCell _ _ _ _ (by show k ≠ b; omega))
theorem WA.wide {w : World} {lo hi lo' hi' : Nat} {f v : Value} {F V : List Int} (h : WA lo hi f v F V w) (h1 : lo' ≤ lo) (h2 : hi ≤ hi') : WA lo' hi' f v F V w := by
  obtain ⟨a1, b1, a3, b3, g1, g2, g3, g4, g5, r⟩ := h
  exact ⟨a1, b1, a3, b3, by omega, by omega, by omega, by omega, g5, r⟩
theorem IntsNew.form {w w' : World} {v : Value} {xs : List Int} (h : IntsNew w w' v xs) : ∃ a c, v = .slice a xs.length c := by
  obtain ⟨fp, ⟨a, c, h, -⟩, -⟩ := h
  exact ⟨a, c, h⟩
theorem wa_fl {W0 W1 wf W2 wl : World} {f v : Value} {F V : List Int} (h1 : W0.heap.size ≤ W1.heap.size) (nf : IntsNew W1 wf f F) (e : Below wf.heap.size wf W2) (nl : IntsNew W2 wl v V) : WA W0.heap.size wl.heap.size f v F V wl := by
  obtain ⟨r1, b1⟩ := nf.row
  obtain ⟨r2, b2⟩ := nl.row
  have := b1.size
  have := b2.size
  have := e.size
  exact ⟨W1.heap.size, wf.heap.size, W2.heap.size, wl.heap.size, by omega, by omega, by omega, by omega, .inl (by omega), (r1.below e).below (b2.mono (by omega)), r2⟩
theorem wa_lf {W0 W1 wf W2 wl : World} {f v : Value} {F V : List Int} (h1 : W0.heap.size ≤ W2.heap.size) (nl : IntsNew W2 wl v V) (e : Below wl.heap.size wl W1) (nf : IntsNew W1 wf f F) : WA W0.heap.size wf.heap.size f v F V wf := by
  obtain ⟨r1, b1⟩ := nl.row
  obtain ⟨r2, b2⟩ := nf.row
  have := b1.size
  have := b2.size
  have := e.size
  exact ⟨W1.heap.size, wf.heap.size, W2.heap.size, wl.heap.size, by omega, by omega, by omega, by omega, .inr (by omega), r2, (r1.below e).below (b2.mono (by omega))⟩
theorem bel_callB {B : Nat} {W0 W Y : World} (hb : B ≤ W0.heap.size) (h : Below B W0 W) (k : Below W.heap.size W Y) : Below B W0 Y := h.trans (k.mono (Nat.le_trans hb h.size))
theorem bel_set5 {B : Nat} {W0 W : World} {b o0 o1 o2 o3 o4 : Nat} {x0 x1 x2 x3 x4 : Value} (h : Below B W0 W) (hb : B ≤ b) : Below B W0 (((((W.setCell ⟨b, o0, none⟩ x0).setCell ⟨b, o1, none⟩ x1).setCell ⟨b, o2, none⟩ x2).setCell ⟨b, o3, none⟩ x3).setCell ⟨b, o4, none⟩ x4) :=
  ((((h.setCell hb _).setCell hb _).setCell hb _).setCell hb _).setCell hb _
theorem WA.pl {w : World} {lo mid hi : Nat} {f v p l : Value} {F V ps : List Int} {L : List (Int × Int)} {a : Int} (h : WA mid hi f v F V w) (ag : AR lo mid p l ps L w) (h1 : lo ≤ mid) (h2 : mid ≤ hi) : PlR lo hi f p l v ⟨F, a, ps, L, V⟩ w := by
  obtain ⟨a1, b1, a3, b3, g1, g2, g3, g4, g5, r1, r3⟩ := h
  exact ⟨a1, b1, lo, mid, a3, b3, ⟨by omega, by omega, Nat.le_refl _, by omega, by omega, by omega, .inr g1, g5, .inl g3⟩, r1, ag, r3⟩
set_option maxHeartbeats 1600000 in
set_option maxRecDepth 100000 in
theorem impl_withages (w : World) (f p l v : Value) (P : Pl) (a2 : Int) (px lx : Option Addr) (pn pk ln lk : Nat) (hf : PlFit P) (h : PlIn w f p l v P) :
    Calls Try.prog 19 #[.agg #[f, .int .i64 P.a, p, l, v], .agg #[.int .i64 a2, .slice px pn pk, .slice lx ln lk]] w fun e w' => ∃ f' v', e = .returned (.agg #[f', .int .i64 a2, (.slice px pn pk), (.slice lx ln lk), v']) ∧ WA w.heap.size w'.heap.size f' v' P.fr P.lv w' ∧ Below w.heap.size w w' := by
  have H := hidIt h
  obtain ⟨fa, fc, pa, pc, la, lc, va, vc, rfl, rfl, rfl, rfl⟩ := h.form
  clear h
  unfold PlFit at hf
  go_enter Try.func19, Try.ntmps19
  go_wp2_with fail
  generalize hW : World.alloc (World.alloc (World.alloc w _) _) _ = W0
  have X := bx3 w #[.slice fa P.fr.length fc, .int .i64 P.a, .slice pa P.ps.length pc, .slice la P.L.length lc, .slice va P.lv.length vc] #[.int .i64 a2, .slice px pn pk, .slice lx ln lk] #[.slice none 0 0, .int .i64 0, .slice none 0 0, .slice none 0 0, .slice none 0 0] 33 31 33
  rw [hW] at X
  clear hW
  obtain ⟨X0, X1, X2, bW, zW⟩ := X
  have H0 := hidIt X0
  have H1 := hidIt X1
  have H2 := hidIt X2
  have BW := hidIt bW
  have q0 := X0.2.1 0
  have q4 := X0.2.1 4
  have c0 := X1.2.1 0
  have c1 := X1.2.1 1
  have c2 := X1.2.1 2
  simp at q0 q4 c0 c1 c2
  have l0 := X0.1
  have l1 := X1.1
  clear X0 X1 X2 bW
  have SO := hidIt (fun W (hb : Below (w.heap.size + 2) W0 W) => (⟨hb, below_cell (b := w.heap.size) hb (by omega) q0, below_cell (b := w.heap.size) hb (by omega) q4, below_cell (b := w.heap.size + 1) hb (by omega) c0, below_cell (b := w.heap.size + 1) hb (by omega) c1, below_cell (b := w.heap.size + 1) hb (by omega) c2⟩ : Below (w.heap.size + 2) W0 W ∧ W.cell? ⟨w.heap.size, 0, none⟩ = some (.slice fa P.fr.length fc) ∧ W.cell? ⟨w.heap.size, 4, none⟩ = some (.slice va P.lv.length vc) ∧ W.cell? ⟨w.heap.size + 1, 0, none⟩ = some (.int .i64 a2) ∧ W.cell? ⟨w.heap.size + 1, 1, none⟩ = some (.slice px pn pk) ∧ W.cell? ⟨w.heap.size + 1, 2, none⟩ = some (.slice lx ln lk)))
  have hz2 : w.heap.size + 2 ≤ W0.heap.size := by omega
  have hS := SO.out W0 (Below.refl _ _)
  clear q0 q4 c0 c1 c2
  go_region_held3 (fun W => Below (w.heap.size + 2) W0 W ∧ W.cell? ⟨w.heap.size, 0, none⟩ = some (.slice fa P.fr.length fc) ∧ W.cell? ⟨w.heap.size, 4, none⟩ = some (.slice va P.lv.length vc) ∧ W.cell? ⟨w.heap.size + 1, 0, none⟩ = some (.int .i64 a2) ∧ W.cell? ⟨w.heap.size + 1, 1, none⟩ = some (.slice px pn pk) ∧ W.cell? ⟨w.heap.size + 1, 2, none⟩ = some (.slice lx ln lk))
    (first | exact SO.out _ (Below.drew (And.left (by assumption))) | exact SO.out _ (bel_callB hz2 (And.left (by assumption)) (IntsNew.row (by assumption)).2) | exact SO.out _ (bel_set5 (And.left (by assumption)) (Nat.le_refl _)) | exact SO.out _ (by assumption))
    (first | (go_at_call 22; refine (clone_in _ _ P.fr (by omega) (H.out.fr.below (BW.out.trans (Below.mono (And.left (by assumption)) (Nat.le_add_right _ 2))))).mono ?_; rintro e wf ⟨vf, rfl, nf⟩; obtain ⟨af, kf, rfl⟩ := nf.form; have xf : Bx wf (w.heap.size + 1 + 1) #[.slice none 0 0, .int .i64 0, .slice none 0 0, .slice none 0 0, .slice none 0 0] := (by first | exact H2.out.drew.below nf.row.2 | exact H2.out.below nf.row.2 | exact Bx.below (by assumption) nf.row.2 | exact (Bx.drew (by assumption)).below nf.row.2); have yf := xf.2.2; have zf0 : wf.cell? ⟨w.heap.size + 1 + 1, 0, none⟩ = some (.slice none 0 0) := xf.2.1 0; have zf1 : wf.cell? ⟨w.heap.size + 1 + 1, 1, none⟩ = some (.int .i64 0) := xf.2.1 1; have zf2 : wf.cell? ⟨w.heap.size + 1 + 1, 2, none⟩ = some (.slice none 0 0) := xf.2.1 2; have zf3 : wf.cell? ⟨w.heap.size + 1 + 1, 3, none⟩ = some (.slice none 0 0) := xf.2.1 3; have zf4 : wf.cell? ⟨w.heap.size + 1 + 1, 4, none⟩ = some (.slice none 0 0) := xf.2.1 4) | (go_at_call 22; refine (clone_in _ _ P.lv (by omega) (H.out.lv.below (BW.out.trans (Below.mono (And.left (by assumption)) (Nat.le_add_right _ 2))))).mono ?_; rintro e wl ⟨vl, rfl, nl⟩; obtain ⟨al, kl, rfl⟩ := nl.form; have xl : Bx wl (w.heap.size + 1 + 1) #[.slice none 0 0, .int .i64 0, .slice none 0 0, .slice none 0 0, .slice none 0 0] := (by first | exact H2.out.drew.below nl.row.2 | exact H2.out.below nl.row.2 | exact Bx.below (by assumption) nl.row.2 | exact (Bx.drew (by assumption)).below nl.row.2); have yl := xl.2.2; have zl0 : wl.cell? ⟨w.heap.size + 1 + 1, 0, none⟩ = some (.slice none 0 0) := xl.2.1 0; have zl1 : wl.cell? ⟨w.heap.size + 1 + 1, 1, none⟩ = some (.int .i64 0) := xl.2.1 1; have zl2 : wl.cell? ⟨w.heap.size + 1 + 1, 2, none⟩ = some (.slice none 0 0) := xl.2.1 2; have zl3 : wl.cell? ⟨w.heap.size + 1 + 1, 3, none⟩ = some (.slice none 0 0) := xl.2.1 3; have zl4 : wl.cell? ⟨w.heap.size + 1 + 1, 4, none⟩ = some (.slice none 0 0) := xl.2.1 4))
  have hl2 := xl.1
  have HA := hidIt (wa_fl (W0 := W0) (W1 := W0.drew) (by simp) nf (Below.refl _ _) nl)
  have HB := hidIt (bel_two BW.out ((show Below W0.heap.size W0 W0.drew from (Below.refl _ _).drew).trans (nf.row.2.trans (nl.row.2.mono nf.row.2.size))))
  have hw1 := nf.row.2.size
  have hw2 := nl.row.2.size
  simp at hw1
  clear nf nl xf xl
  go_wp2
  refine bodyPost_ret (v := .agg #[.slice af P.fr.length kf, .int .i64 a2, .slice px pn pk, .slice lx ln lk, .slice al P.lv.length kl]) (by simp [results, Try.results19, go_sem, zl0, zl1, zl2, zl3, zl4]) rfl ⟨_, _, rfl, ?_, ?_⟩
  · exact (((((HA.out.set (by omega)).set (by omega)).set (by omega)).set (by omega)).set (by omega)).wide (by omega) (by simp)
  · exact bel_set5 HB.out (by omega)

end Go.Proofs.Ytikliofkplbdpaa

namespace Go.Proofs.Ytikliofkplbdpaa
open Go.ChangeShapes Go.WideShapes Go.ChangeAt Go.RowKit
set_option linter.unusedVariables false

theorem nothing_src {w : World} {y : Value} (h : IntsIn w y []) (size : Nat) : Src Try.prog size 22 y 0 [] w := by
  obtain ⟨⟨a, c, rfl, -⟩, -⟩ := h
  cases a with
  | none => exact Src.ofNil w Try.underlying22 c
  | some ad => exact Src.ofSlice w Try.underlying22 ad 0 c [] (by simp) (fun j u h => by simp at h) (fun u h => by cases h)
theorem step_fresh {w : World} {ops : Array Oper} {o : Oper} {a : Act} {K : Act → World → Prop} {Q : Exit → Act → World → Prop} {E : Prop} (hgd : o.guard = none) (s x : Operand)
    (ho : o.op = .call { callee := .builtin .append, args := #[s, x], argTypes := #[22, 22] }) (g : Addr) (hs : a.eval s = .slice (some g) 0 0)
    (y : Value) (ys : List Int) (hy : a.eval x = y) (hx : IntsIn w y ys) (hl : ys.length ≤ 16777216)
    (h : ∀ a' c' w', RowQ w' w.heap.size w'.heap.size (.slice a' ys.length c') ys → Below w.heap.size w w' → K (a.put o.dst (.slice a' ys.length c')) w') : if Region.wanted o (yielded ops a.tmps) = true then Oper.wp Try.prog o a w K Q else E := by
  obtain ⟨i0, hi0, hz0, hz1, hz2⟩ := info_parts info3
  by_cases h0 : 0 < ys.length
  · obtain ⟨⟨a', c', rfl, hx⟩, -⟩ := hx
    rcases hx with rfl | ⟨b, off, rfl, hb, hc⟩
    · exact absurd h0 (by simp)
    refine step_append_new hgd s x 22 ho 3 i0 (.int .i64 0) 1 8 Try.underlying22 hi0 hz0 hz1 hz2 rfl g hs ⟨b, off, none⟩ ys.length c' (ints ys) hy (by simp) (fun j u hj => ?_) h0 (by unfold maxLen; omega) (by omega) ?_
    · obtain ⟨hj1, rfl⟩ := List.getElem?_eq_some_iff.1 hj
      rw [add_none, List.getElem_map]
      exact hc j (by simpa using hj1)
    · intro Zs cap hZ
      have hz := hZ.out
      refine h _ _ _ ⟨_, cap, rfl, .inr ⟨w.heap.size, 0, rfl, Nat.le_refl _, by simp, fun j hj => ?_⟩⟩ ((Below.refl _ _).drew.alloc (by simp) _)
      have e1 := congrArg (fun l => l[j]?) hz.2.2.2
      have hj2 : j < Zs.size := by omega
      simp [hj] at e1
      have e2 : Zs[j]? = some (.int .i64 ys[j]) := by
        rw [← Array.getElem?_toList]
        simpa [List.getElem?_take, hj] using e1
      rw [Nat.zero_add]
      exact ((Bx.new w.drew Zs 3).2.1 j).trans e2
  · obtain rfl : ys = [] := List.length_eq_zero_iff.1 (by omega)
    have hw : Region.wanted o (yielded ops a.tmps) = true := by simp [Region.wanted, hgd]
    rw [if_pos hw]
    have hr := run_append_nothing w 22 22 o.type 3 i0 Try.underlying22 hi0 (some g) 0 0 (Nat.le_refl _) _ (nothing_src hx i0.size)
    unfold Oper.wp execOp
    simp only [ho, resolve, invoke, builtin, Sem.run_bind, Sem.run_pure, Result.andThen_ok, List.map_toArray, List.map_cons, List.map_nil, hs, hy, hr]
    exact h (some g) 0 w ⟨_, 0, rfl, .inl rfl⟩ (Below.refl _ _)
theorem bel_alB {B : Nat} {W0 W : World} (hb : B ≤ W0.heap.size) (h : Below B W0 W) (o : Obj) : Below B W0 (W.alloc o) := h.alloc (Nat.le_trans hb h.size) o
theorem PlQ.set {W : World} {lo hi : Nat} {f p l v : Value} {P : Pl} (h : PlQ lo hi f p l v P W) {b o : Nat} {x : Value} (hb : b < lo) : PlQ lo hi f p l v P (W.setCell ⟨b, o, none⟩ x) :=
  PlQ.loc lo hi f p l v P W _ h (fun k k1 _ => Below.heap_setCell _ _ _ _ (by show k ≠ b; omega))
/- a block of five cells that may be written while the rest stands -/
def RR (B b : Nat) (W0 W : World) : Prop := Below B W0 W ∧ ∃ xs : Array Value, xs.size = 5 ∧ Bx W b xs
theorem RR.drew {B b : Nat} {W0 W : World} (h : RR B b W0 W) : RR B b W0 W.drew := ⟨h.1.drew, by obtain ⟨-, xs, h1, h2⟩ := h; exact ⟨xs, h1, h2.drew⟩⟩
theorem RR.al {B b : Nat} {W0 W : World} (hb : B ≤ W0.heap.size) (h : RR B b W0 W) (o : Obj) : RR B b W0 (W.alloc o) := ⟨bel_alB hb h.1 o, by obtain ⟨-, xs, h1, h2⟩ := h; exact ⟨xs, h1, h2.alloc o⟩⟩
theorem RR.call {B b : Nat} {W0 W Y : World} (hb : B ≤ W0.heap.size) (h : RR B b W0 W) (k : Below W.heap.size W Y) : RR B b W0 Y := ⟨bel_callB hb h.1 k, by obtain ⟨-, xs, h1, h2⟩ := h; exact ⟨xs, h1, h2.below k⟩⟩
theorem RR.set {B b : Nat} {W0 W : World} (h : RR B b W0 W) (hb : B ≤ b) (i : Nat) (x : Value) (hi : i < 5) : RR B b W0 (W.setCell ⟨b, i, none⟩ x) := ⟨h.1.setCell hb _, by
  obtain ⟨-, xs, h1, h2⟩ := h
  exact ⟨_, by simpa using h1, h2.set (i := i) x (by omega)⟩⟩
theorem RR.set5 {B b : Nat} {W0 W : World} {x0 x1 x2 x3 x4 : Value} (h : RR B b W0 W) (hb : B ≤ b) : RR B b W0 (((((W.setCell ⟨b, 0, none⟩ x0).setCell ⟨b, 1, none⟩ x1).setCell ⟨b, 2, none⟩ x2).setCell ⟨b, 3, none⟩ x3).setCell ⟨b, 4, none⟩ x4) :=
  ((((h.set hb 0 _ (by omega)).set hb 1 _ (by omega)).set hb 2 _ (by omega)).set hb 3 _ (by omega)).set hb 4 _ (by omega)
theorem RR.opn {B b : Nat} {W0 W : World} (h : RR B b W0 W) : ∃ v0 v1 v2 v3 v4, W.cell? ⟨b, 0, none⟩ = some v0 ∧ W.cell? ⟨b, 1, none⟩ = some v1 ∧ W.cell? ⟨b, 2, none⟩ = some v2 ∧ W.cell? ⟨b, 3, none⟩ = some v3 ∧ W.cell? ⟨b, 4, none⟩ = some v4 ∧ ∀ o, W.frozen? ⟨b, o, none⟩ = false := by
  obtain ⟨-, xs, h1, h2⟩ := h
  have g : ∀ i, (hi : i < 5) → W.cell? ⟨b, i, none⟩ = some (xs[i]'(by omega)) := fun i hi => (h2.2.1 i).trans (Array.getElem?_eq_getElem (by omega))
  exact ⟨_, _, _, _, _, g 0 (by omega), g 1 (by omega), g 2 (by omega), g 3 (by omega), g 4 (by omega), h2.2.2⟩
set_option maxHeartbeats 25600000 in
set_option maxRecDepth 100000 in
theorem spec_copypool (w : World) (f p l v : Value) (P : Pl) (hf : PlFit P) (hp : 0 < P.ps.length) (h : PlIn w f p l v P) :
    Calls Try.prog 14 #[.agg #[f, .int .i64 P.a, p, l, v]] w fun e w' => ∃ f' p' l' v', e = .returned (.agg #[f', .int .i64 P.a, p', l', v']) ∧ PlQ w.heap.size w'.heap.size f' p' l' v' P w' ∧ Below w.heap.size w w' := by
  have H := hidIt h
  obtain ⟨fa, fc, pa, pc, la, lc, va, vc, rfl, rfl, rfl, rfl⟩ := h.form
  clear h
  unfold PlFit at hf
  go_enter Try.func14, Try.ntmps14
  go_wp2_with fail
  generalize hW : World.alloc (World.alloc w _) _ = W0
  have X := bx2 w #[.slice fa P.fr.length fc, .int .i64 P.a, .slice pa P.ps.length pc, .slice la P.L.length lc, .slice va P.lv.length vc] #[.slice none 0 0, .int .i64 0, .slice none 0 0, .slice none 0 0, .slice none 0 0] 33 33
  rw [hW] at X
  clear hW
  obtain ⟨X0, X1, bW, zW⟩ := X
  have H1 := hidIt X1
  have BW := hidIt bW
  have q0 := X0.2.1 0
  have q1 := X0.2.1 1
  have q2 := X0.2.1 2
  have q3 := X0.2.1 3
  have q4 := X0.2.1 4
  simp at q0 q1 q2 q3 q4
  have l0 := X0.1
  clear X0 X1 bW
  have hz2 : w.heap.size + 1 ≤ W0.heap.size := by omega
  have SO := hidIt (fun W (hb : RR (w.heap.size + 1) (w.heap.size + 1) W0 W) => (⟨hb, below_cell (b := w.heap.size) hb.1 (by omega) q0, below_cell (b := w.heap.size) hb.1 (by omega) q1, below_cell (b := w.heap.size) hb.1 (by omega) q2, below_cell (b := w.heap.size) hb.1 (by omega) q3, below_cell (b := w.heap.size) hb.1 (by omega) q4⟩ : RR (w.heap.size + 1) (w.heap.size + 1) W0 W ∧ W.cell? ⟨w.heap.size, 0, none⟩ = some (.slice fa P.fr.length fc) ∧ W.cell? ⟨w.heap.size, 1, none⟩ = some (.int .i64 P.a) ∧ W.cell? ⟨w.heap.size, 2, none⟩ = some (.slice pa P.ps.length pc) ∧ W.cell? ⟨w.heap.size, 3, none⟩ = some (.slice la P.L.length lc) ∧ W.cell? ⟨w.heap.size, 4, none⟩ = some (.slice va P.lv.length vc)))
  have hS := SO.out W0 ⟨Below.refl _ _, _, by simp, H1.out⟩
  have KD := hidIt (fun W (h : RR (w.heap.size + 1) (w.heap.size + 1) W0 W ∧ W.cell? ⟨w.heap.size, 0, none⟩ = some (.slice fa P.fr.length fc) ∧ W.cell? ⟨w.heap.size, 1, none⟩ = some (.int .i64 P.a) ∧ W.cell? ⟨w.heap.size, 2, none⟩ = some (.slice pa P.ps.length pc) ∧ W.cell? ⟨w.heap.size, 3, none⟩ = some (.slice la P.L.length lc) ∧ W.cell? ⟨w.heap.size, 4, none⟩ = some (.slice va P.lv.length vc)) => SO.out W.drew (RR.drew h.1))
  have KA := hidIt (fun W o (h : RR (w.heap.size + 1) (w.heap.size + 1) W0 W ∧ W.cell? ⟨w.heap.size, 0, none⟩ = some (.slice fa P.fr.length fc) ∧ W.cell? ⟨w.heap.size, 1, none⟩ = some (.int .i64 P.a) ∧ W.cell? ⟨w.heap.size, 2, none⟩ = some (.slice pa P.ps.length pc) ∧ W.cell? ⟨w.heap.size, 3, none⟩ = some (.slice la P.L.length lc) ∧ W.cell? ⟨w.heap.size, 4, none⟩ = some (.slice va P.lv.length vc)) => SO.out (W.alloc o) (RR.al hz2 h.1 o))
  have KC := hidIt (fun W Y (h : RR (w.heap.size + 1) (w.heap.size + 1) W0 W ∧ W.cell? ⟨w.heap.size, 0, none⟩ = some (.slice fa P.fr.length fc) ∧ W.cell? ⟨w.heap.size, 1, none⟩ = some (.int .i64 P.a) ∧ W.cell? ⟨w.heap.size, 2, none⟩ = some (.slice pa P.ps.length pc) ∧ W.cell? ⟨w.heap.size, 3, none⟩ = some (.slice la P.L.length lc) ∧ W.cell? ⟨w.heap.size, 4, none⟩ = some (.slice va P.lv.length vc)) (k : Below W.heap.size W Y) => SO.out Y (RR.call hz2 h.1 k))
  have KO := hidIt (fun W Y (h : RR (w.heap.size + 1) (w.heap.size + 1) W0 W ∧ W.cell? ⟨w.heap.size, 0, none⟩ = some (.slice fa P.fr.length fc) ∧ W.cell? ⟨w.heap.size, 1, none⟩ = some (.int .i64 P.a) ∧ W.cell? ⟨w.heap.size, 2, none⟩ = some (.slice pa P.ps.length pc) ∧ W.cell? ⟨w.heap.size, 3, none⟩ = some (.slice la P.L.length lc) ∧ W.cell? ⟨w.heap.size, 4, none⟩ = some (.slice va P.lv.length vc)) (k : Below W.heap.size W Y) => RR.opn (RR.call hz2 h.1 k))
  have KS := hidIt (fun W x0 x1 x2 x3 x4 (h : RR (w.heap.size + 1) (w.heap.size + 1) W0 W ∧ W.cell? ⟨w.heap.size, 0, none⟩ = some (.slice fa P.fr.length fc) ∧ W.cell? ⟨w.heap.size, 1, none⟩ = some (.int .i64 P.a) ∧ W.cell? ⟨w.heap.size, 2, none⟩ = some (.slice pa P.ps.length pc) ∧ W.cell? ⟨w.heap.size, 3, none⟩ = some (.slice la P.L.length lc) ∧ W.cell? ⟨w.heap.size, 4, none⟩ = some (.slice va P.lv.length vc)) => SO.out _ (RR.set5 (x0 := x0) (x1 := x1) (x2 := x2) (x3 := x3) (x4 := x4) h.1 (Nat.le_refl (w.heap.size + 1))))
  have IF := hidIt (fun W (h : RR (w.heap.size + 1) (w.heap.size + 1) W0 W ∧ W.cell? ⟨w.heap.size, 0, none⟩ = some (.slice fa P.fr.length fc) ∧ W.cell? ⟨w.heap.size, 1, none⟩ = some (.int .i64 P.a) ∧ W.cell? ⟨w.heap.size, 2, none⟩ = some (.slice pa P.ps.length pc) ∧ W.cell? ⟨w.heap.size, 3, none⟩ = some (.slice la P.L.length lc) ∧ W.cell? ⟨w.heap.size, 4, none⟩ = some (.slice va P.lv.length vc)) => (H.out.fr.below (BW.out.trans (h.1.1.mono (Nat.le_add_right _ 1))) : IntsIn W (.slice fa P.fr.length fc) P.fr))
  have IV := hidIt (fun W (h : RR (w.heap.size + 1) (w.heap.size + 1) W0 W ∧ W.cell? ⟨w.heap.size, 0, none⟩ = some (.slice fa P.fr.length fc) ∧ W.cell? ⟨w.heap.size, 1, none⟩ = some (.int .i64 P.a) ∧ W.cell? ⟨w.heap.size, 2, none⟩ = some (.slice pa P.ps.length pc) ∧ W.cell? ⟨w.heap.size, 3, none⟩ = some (.slice la P.L.length lc) ∧ W.cell? ⟨w.heap.size, 4, none⟩ = some (.slice va P.lv.length vc)) => (H.out.lv.below (BW.out.trans (h.1.1.mono (Nat.le_add_right _ 1))) : IntsIn W (.slice va P.lv.length vc) P.lv))
  have IA := hidIt (fun W (h : RR (w.heap.size + 1) (w.heap.size + 1) W0 W ∧ W.cell? ⟨w.heap.size, 0, none⟩ = some (.slice fa P.fr.length fc) ∧ W.cell? ⟨w.heap.size, 1, none⟩ = some (.int .i64 P.a) ∧ W.cell? ⟨w.heap.size, 2, none⟩ = some (.slice pa P.ps.length pc) ∧ W.cell? ⟨w.heap.size, 3, none⟩ = some (.slice la P.L.length lc) ∧ W.cell? ⟨w.heap.size, 4, none⟩ = some (.slice va P.lv.length vc)) => (H.out.ag.below (BW.out.trans (h.1.1.mono (Nat.le_add_right _ 1))) : AIn W (.slice pa P.ps.length pc) (.slice la P.L.length lc) P.ps P.L))
  clear q0 q1 q2 q3 q4
  go_region_held3 (fun W => RR (w.heap.size + 1) (w.heap.size + 1) W0 W ∧ W.cell? ⟨w.heap.size, 0, none⟩ = some (.slice fa P.fr.length fc) ∧ W.cell? ⟨w.heap.size, 1, none⟩ = some (.int .i64 P.a) ∧ W.cell? ⟨w.heap.size, 2, none⟩ = some (.slice pa P.ps.length pc) ∧ W.cell? ⟨w.heap.size, 3, none⟩ = some (.slice la P.L.length lc) ∧ W.cell? ⟨w.heap.size, 4, none⟩ = some (.slice va P.lv.length vc))
    (first | ((repeat (first | (with_reducible assumption) | (with_reducible refine KD.out _ ?_) | (with_reducible refine KA.out _ _ ?_) | (with_reducible refine KC.out _ _ ?_ b13) | (with_reducible refine KC.out _ _ ?_ b9') | (with_reducible refine KC.out _ _ ?_ b6) | (with_reducible refine KS.out _ _ _ _ _ _ ?_))); done))
    (first
    | (refine step_fresh rfl (.tmp 3) (.tmp 5) rfl _ rfl _ P.fr rfl ?_ (by omega) ?_; (focus (exact IF.out _ (by with_reducible assumption))); intro a6 k6 w6 r6 b6)
    | (refine step_fresh rfl (.tmp 10) (.tmp 12) rfl _ rfl _ P.lv rfl ?_ (by omega) ?_; (focus (exact IV.out _ (by with_reducible assumption))); intro a13 k13 w13 r13 b13; obtain ⟨v130, v131, v132, v133, v134, e130, e131, e132, e133, e134, ef13⟩ := KO.out _ _ (by with_reducible assumption) b13)
    | (go_at_call 34; refine (spec_copyages _ P.a _ _ P.ps P.L (by omega) (by omega) hp (IA.out _ (by with_reducible assumption))).mono ?_; rintro e w9 ⟨p9, l9', rfl, ao9, b9'⟩; have r9 := ao9.ar; obtain ⟨b9, l9, c9, m9, rfl, rfl, -⟩ := r9.form))
  all_goals
    have U6 : Below W0.heap.size W0 w6 := by first | exact bel_call (Below.drew (bel_al (Below.refl _ _) _)) b6 | exact bel_call (Below.drew (bel_al (bel_al (Below.refl _ _) _) _)) b6
    have U9 : Below w6.heap.size w6 w9 := by first | exact b9' | exact bel_call (bel_al (Below.refl _ _) _) b9'
    have U13 : Below w9.heap.size w9 w13 := by first | exact b13 | exact bel_call (bel_al (Below.refl _ _) _) b13
    have g6 := U6.size
    have g9 := U9.size
    have g13 := U13.size
    have HQ := hidIt (show PlQ W0.heap.size w13.heap.size (.slice a6 P.fr.length k6) (.slice b9 P.ps.length l9) (.slice c9 P.L.length m9) (.slice a13 P.lv.length k13) P w13 from
      ⟨(RowQ.loc _ _ _ _ w6 w13 r6 (fun k _ hk => (U9.trans (U13.mono g9)).block k hk)).wide (by first | omega | (simp <;> omega)) (by omega), (r9.below U13).wide (by first | omega | (simp <;> omega)) (by omega), r13.wide (by first | omega | (simp <;> omega)) (by omega)⟩)
    have HB := hidIt (bel_two BW.out (U6.trans ((U9.mono g6).trans (U13.mono (by omega)))))
    have hl2 : w.heap.size + 1 < w13.heap.size := by omega
    clear U6 U9 U13 r6 r9 r13 b6 b9' b13 ao9 KD KA KC KO KS IF IV IA SO hS
    go_wp2
    refine bodyPost_ret (v := .agg #[.slice a6 P.fr.length k6, .int .i64 P.a, .slice b9 P.ps.length l9, .slice c9 P.L.length m9, .slice a13 P.lv.length k13]) (by simp [results, Try.results14, go_sem, e130, e131, e132, e133, e134]) rfl ⟨_, _, _, _, rfl, ?_, ?_⟩
    · exact (((((HQ.out.set (by omega)).set (by omega)).set (by omega)).set (by omega)).set (by omega)).wide (by omega) (by simp)
    · exact bel_set5 HB.out (by omega)

end Go.Proofs.Ytikliofkplbdpaa

namespace Go.Proofs.Ytikliofkplbdpaa
open Go.ChangeShapes Go.WideShapes Go.ChangeAt Go.RowKit
set_option linter.unusedVariables false

def wP (P : Pl) (A : Int) (PS : List Int) (LS : List (Int × Int)) (B : Bool) : Pl := if (plOkB P && B) = true then ⟨P.fr, A, PS, LS, P.lv⟩ else plZero
theorem wP_no {P : Pl} {A : Int} {PS : List Int} {LS : List (Int × Int)} {B : Bool} (h : (plOkB P && B) = false) : wP P A PS LS B = plZero := by unfold wP; rw [h]; rfl
theorem wP_yes {P : Pl} {A : Int} {PS : List Int} {LS : List (Int × Int)} {B : Bool} (h : (plOkB P && B) = true) : wP P A PS LS B = ⟨P.fr, A, PS, LS, P.lv⟩ := by unfold wP; rw [h]; rfl
theorem ok_pins {P : Pl} (h : plOkB P = true) : 0 < P.ps.length := by
  obtain ⟨-, -, n1, -⟩ := okB_len (plOk_parts h).1
  omega
theorem bel_al' {B : Nat} {W0 W : World} (h : Below B W0 W) (hz : B ≤ W.heap.size) (o : Obj) : Below B W0 (W.alloc o) := h.alloc hz o
theorem set5_heap {W : World} {b o0 o1 o2 o3 o4 : Nat} {x0 x1 x2 x3 x4 : Value} (k : Nat) (hk : k ≠ b) : (((((W.setCell ⟨b, o0, none⟩ x0).setCell ⟨b, o1, none⟩ x1).setCell ⟨b, o2, none⟩ x2).setCell ⟨b, o3, none⟩ x3).setCell ⟨b, o4, none⟩ x4).heap[k]? = W.heap[k]? :=
  (Below.heap_setCell _ _ _ _ hk).trans ((Below.heap_setCell _ _ _ _ hk).trans ((Below.heap_setCell _ _ _ _ hk).trans ((Below.heap_setCell _ _ _ _ hk).trans (Below.heap_setCell _ _ _ _ hk))))

end Go.Proofs.Ytikliofkplbdpaa
