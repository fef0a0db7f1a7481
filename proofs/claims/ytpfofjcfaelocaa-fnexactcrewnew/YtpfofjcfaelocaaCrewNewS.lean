/- A new crew, by the model: plain lemmas on the three rows that one of its threads is given, call by call. -/
import Derived.Test.YtpfofjcfaelocaaRows
import Derived.WalkKit
import Derived.ProofKit
import Derived.OpenShut
import Derived.ShutString
import Derived.Test.YtpfofjcfaelocaaCrewNewC
import Derived.Test.YtpfofjcfaelocaaAgePlain
import Derived.Test.YtpfofjcfaelocaaCopyPlain
import Derived.Deep.AppendLies
namespace Go.Proofs.Ytpfofjcfaelocaa
open Go.ChangeShapes Go.WideShapes Go.ChangeAt Go.RowKit
set_option linter.unusedVariables false

theorem intsN_snoc (xs : List Int) (y : Int) : ints (xs ++ [y]) = ints xs ++ [.int .i64 y] := by simp
theorem keptN {W W' : World} {lo : Nat} {e : TypeId} {size n : Nat} {u v : Value} {xs : List Value} (h : W.ownsRow lo e size u n xs) (hg : W.grownBy W' v.ownBlock) (ha : ∀ g, u.ownBlock = some g → v.ownBlock = some g → False) : W'.ownsRow lo e size u n xs := by
  refine h.kept hg ?_
  cases hu : u.ownBlock with
  | none => exact .inl rfl
  | some k => exact .inr fun e => ha k hu e.symm
def ten (c : Cl) : List Value := [.int .i64 c.k, .int .i64 c.a, .int .i64 c.x, .int .i64 c.pc, .int .i64 c.p, .int .i64 c.c, .int .i64 c.w, .int .i64 c.r, .int .i64 c.v, .bool c.d]
def tens (cs : List Cl) : List Value := cs.flatMap ten
theorem tens_snoc (cs : List Cl) (c : Cl) : tens (cs ++ [c]) = tens cs ++ ten c := by simp [tens]
theorem tens_len (cs : List Cl) : (tens cs).length = cs.length * 10 := by
  induction cs with
  | nil => rfl
  | cons c cs ih => rw [show tens (c :: cs) = ten c ++ tens cs from by simp [tens], List.length_append, ih, List.length_cons]; simp [ten]; omega
theorem tens_get (cs : List Cl) : ∀ (j i : Nat) (hj : j < cs.length), i < 10 → (tens cs)[j * 10 + i]? = (ten cs[j])[i]? := by
  induction cs with
  | nil => intro j i hj; simp at hj
  | cons c cs ih =>
    intro j i hj hi
    rw [show tens (c :: cs) = ten c ++ tens cs from by simp [tens]]
    cases j with
    | zero => rw [List.getElem?_append_left (by simp [ten]; omega)]; simp
    | succ j =>
      rw [List.getElem?_append_right (by simp [ten]; omega)]
      rw [show (j + 1) * 10 + i - (ten c).length = j * 10 + i from by simp [ten]; omega]
      simpa using ih j i (by simpa using hj) hi
theorem ints_fp {W : World} {lo : Nat} {v : Value} {xs : List Int} (h : W.ownsRow lo 3 1 v xs.length (ints xs)) : IntsO W v xs v.ownBlock.toList ∧ ∀ g ∈ v.ownBlock.toList, lo ≤ g := by
  rcases own_cells2 h with ⟨rfl, h0, -⟩ | ⟨g, cap, rfl, h1, h2, h3, h4, h5, h6, h7⟩
  · have := List.length_eq_zero_iff.1 h0
    subst this
    exact ⟨⟨none, 0, rfl, trivial, .inl ⟨rfl, rfl⟩⟩, by simp [Value.ownBlock]⟩
  · refine ⟨⟨_, cap, rfl, trivial, .inr ⟨g, rfl, rfl, h2, fun j hj => ?_, h7⟩⟩, by simp [Value.ownBlock]; exact h1⟩
    have := h6 j (by simpa using hj)
    simpa using this
theorem calls_fp {W : World} {lo : Nat} {v : Value} {cs : List Cl} (h : W.ownsRow lo 48 10 v cs.length (tens cs)) : CallsO W v cs v.ownBlock.toList ∧ ∀ g ∈ v.ownBlock.toList, lo ≤ g := by
  rcases own_cells2 h with ⟨rfl, h0, -⟩ | ⟨g, cap, rfl, h1, h2, h3, h4, h5, h6, h7⟩
  · have := List.length_eq_zero_iff.1 h0
    subst this
    exact ⟨⟨none, 0, rfl, Nat.le_refl _, .inl ⟨rfl, rfl⟩⟩, by simp [Value.ownBlock]⟩
  · refine ⟨⟨_, cap, rfl, h3, .inr ⟨g, rfl, rfl, h2, fun j hj => ?_, h7⟩⟩, by simp [Value.ownBlock]; exact h1⟩
    have k := fun i (hi : i < 10) => (h6 (j * 10 + i) (by rw [tens_len]; omega)).trans ((List.getElem?_eq_getElem (by rw [tens_len]; omega)).symm.trans (tens_get cs j i hj hi))
    exact ⟨k 0 (by omega), k 1 (by omega), k 2 (by omega), k 3 (by omega), k 4 (by omega), k 5 (by omega), k 6 (by omega), k 7 (by omega), k 8 (by omega), k 9 (by omega)⟩
structure TI (lo : Nat) (W : World) (b : Nat) (v0 v2 v3 : Value) (cs : List Cl) (R S : List Int) : Prop where
  hb : lo ≤ b ∧ b < W.heap.size
  c : W.ownsRow lo 48 10 v0 cs.length (tens cs)
  r : W.ownsRow lo 3 1 v2 R.length (ints R)
  s : W.ownsRow lo 3 1 v3 S.length (ints S)
  nb : v0.ownBlock ≠ some b ∧ v2.ownBlock ≠ some b ∧ v3.ownBlock ≠ some b
  cr : ∀ g, v0.ownBlock = some g → v2.ownBlock = some g → False
  cs' : ∀ g, v0.ownBlock = some g → v3.ownBlock = some g → False
  rs : ∀ g, v2.ownBlock = some g → v3.ownBlock = some g → False
theorem TI.below {lo : Nat} {W W' : World} {b : Nat} {v0 v2 v3 : Value} {cs : List Cl} {R S : List Int} (h : TI lo W b v0 v2 v3 cs R S) (hb : Below W.heap.size W W') : TI lo W' b v0 v2 v3 cs R S :=
  ⟨⟨h.hb.1, Nat.lt_of_lt_of_le h.hb.2 hb.size⟩, own_below h.c hb, own_below h.r hb, own_below h.s hb, h.nb, h.cr, h.cs', h.rs⟩
theorem TI.set {lo : Nat} {W : World} {b : Nat} {v0 v2 v3 : Value} {cs : List Cl} {R S : List Int} (h : TI lo W b v0 v2 v3 cs R S) (o : Nat) (v : Value) : TI lo (W.setCell ⟨b, o, none⟩ v) b v0 v2 v3 cs R S := by
  have hg : W.grownBy (W.setCell ⟨b, o, none⟩ v) (some b) := ⟨rfl, rfl, rfl, by simp, fun k _ hk => Below.heap_setCell _ _ _ _ (fun e => hk (by rw [e]))⟩
  exact ⟨⟨h.hb.1, by simpa using h.hb.2⟩, h.c.kept hg (.inr h.nb.1), h.r.kept hg (.inr h.nb.2.1), h.s.kept hg (.inr h.nb.2.2), h.nb, h.cr, h.cs', h.rs⟩
theorem own_new {W : World} {v : Value} {g n cap : Nat} (hat : v.ownBlock = some g ∨ g = W.heap.size) : ∀ k, (Value.slice (some ⟨g, 0, none⟩) n cap).ownBlock = some k → v.ownBlock = some k ∨ k = W.heap.size := fun k hk => by
  simp [Value.ownBlock] at hk
  subst hk
  exact hat
theorem TI.appC {lo : Nat} {W W' : World} {b : Nat} {v0 v2 v3 : Value} {cs : List Cl} {R S : List Int} {q : Cl} {g cap : Nat} (h : TI lo W b v0 v2 v3 cs R S)
    (ho : W'.ownsRow lo 48 10 (.slice (some ⟨g, 0, none⟩) (cs.length + 1) cap) (cs.length + 1) (tens cs ++ ten q)) (hg : W.grownBy W' v0.ownBlock) (hat : v0.ownBlock = some g ∨ g = W.heap.size) : TI lo W' b (.slice (some ⟨g, 0, none⟩) (cs.length + 1) cap) v2 v3 (cs ++ [q]) R S := by
  have new := own_new (n := cs.length + 1) (cap := cap) hat
  refine ⟨⟨h.hb.1, Nat.lt_of_lt_of_le h.hb.2 hg.size⟩, by rw [tens_snoc]; simpa using ho, keptN h.r hg (fun k h1 h2 => h.cr k h2 h1), keptN h.s hg (fun k h1 h2 => h.cs' k h2 h1), ⟨fun e => ?_, h.nb.2.1, h.nb.2.2⟩, fun k h1 h2 => ?_, fun k h1 h2 => ?_, h.rs⟩
  · rcases new b e with e1 | e1
    · exact h.nb.1 e1
    · have := h.hb.2; omega
  · rcases new k h1 with e1 | e1
    · exact h.cr k e1 h2
    · have := (h.r.lt k h2).2; omega
  · rcases new k h1 with e1 | e1
    · exact h.cs' k e1 h2
    · have := (h.s.lt k h2).2; omega
theorem TI.appR {lo : Nat} {W W' : World} {b : Nat} {v0 v2 v3 : Value} {cs : List Cl} {R S : List Int} {q : Int} {g cap : Nat} (h : TI lo W b v0 v2 v3 cs R S)
    (ho : W'.ownsRow lo 3 1 (.slice (some ⟨g, 0, none⟩) (R.length + 1) cap) (R.length + 1) (ints R ++ [.int .i64 q])) (hg : W.grownBy W' v2.ownBlock) (hat : v2.ownBlock = some g ∨ g = W.heap.size) : TI lo W' b v0 (.slice (some ⟨g, 0, none⟩) (R.length + 1) cap) v3 cs (R ++ [q]) S := by
  have new := own_new (n := R.length + 1) (cap := cap) hat
  refine ⟨⟨h.hb.1, Nat.lt_of_lt_of_le h.hb.2 hg.size⟩, keptN h.c hg h.cr, by rw [intsN_snoc]; simpa using ho, keptN h.s hg (fun k h1 h2 => h.rs k h2 h1), ⟨h.nb.1, fun e => ?_, h.nb.2.2⟩, fun k h1 h2 => ?_, h.cs', fun k h1 h2 => ?_⟩
  · rcases new b e with e1 | e1
    · exact h.nb.2.1 e1
    · have := h.hb.2; omega
  · rcases new k h2 with e1 | e1
    · exact h.cr k h1 e1
    · have := (h.c.lt k h1).2; omega
  · rcases new k h1 with e1 | e1
    · exact h.rs k e1 h2
    · have := (h.s.lt k h2).2; omega
theorem TI.appS {lo : Nat} {W W' : World} {b : Nat} {v0 v2 v3 : Value} {cs : List Cl} {R S : List Int} {q : Int} {g cap : Nat} (h : TI lo W b v0 v2 v3 cs R S)
    (ho : W'.ownsRow lo 3 1 (.slice (some ⟨g, 0, none⟩) (S.length + 1) cap) (S.length + 1) (ints S ++ [.int .i64 q])) (hg : W.grownBy W' v3.ownBlock) (hat : v3.ownBlock = some g ∨ g = W.heap.size) : TI lo W' b v0 v2 (.slice (some ⟨g, 0, none⟩) (S.length + 1) cap) cs R (S ++ [q]) := by
  have new := own_new (n := S.length + 1) (cap := cap) hat
  refine ⟨⟨h.hb.1, Nat.lt_of_lt_of_le h.hb.2 hg.size⟩, keptN h.c hg h.cs', keptN h.r hg h.rs, by rw [intsN_snoc]; simpa using ho, ⟨h.nb.1, h.nb.2.1, fun e => ?_⟩, h.cr, fun k h1 h2 => ?_, fun k h1 h2 => ?_⟩
  · rcases new b e with e1 | e1
    · exact h.nb.2.2 e1
    · have := h.hb.2; omega
  · rcases new k h2 with e1 | e1
    · exact h.cs' k h1 e1
    · have := (h.c.lt k h1).2; omega
  · rcases new k h2 with e1 | e1
    · exact h.rs k h1 e1
    · have := (h.r.lt k h1).2; omega
theorem TI.owns {lo : Nat} {W : World} {b : Nat} {v0 v2 v3 : Value} {cs : List Cl} {R S : List Int} {a : Int} (h : TI lo W b v0 v2 v3 cs R S) : ∃ fp, ThO W v0 v2 v3 ⟨cs, a, R, S⟩ fp ∧ fp.Nodup ∧ (∀ g ∈ fp, lo ≤ g) ∧ ¬ b ∈ fp := by
  obtain ⟨o0, l0⟩ := calls_fp h.c
  obtain ⟨o2, l2⟩ := ints_fp h.r
  obtain ⟨o3, l3⟩ := ints_fp h.s
  have nd : ∀ v : Value, v.ownBlock.toList.Nodup := fun v => by cases v.ownBlock <;> simp
  have mem : ∀ (v : Value) g, g ∈ v.ownBlock.toList → v.ownBlock = some g := fun v g hg => by simpa using hg
  refine ⟨_, ⟨_, _, _, rfl, o0, o2, o3⟩, ?_, ?_, ?_⟩
  · rw [List.nodup_append, List.nodup_append]
    refine ⟨nd _, ⟨nd _, nd _, fun x hx y hy e => ?_⟩, fun x hx y hy e => ?_⟩
    · subst e; exact h.rs x (mem _ _ hx) (mem _ _ hy)
    · subst e
      rcases List.mem_append.1 hy with hy | hy
      · exact h.cr x (mem _ _ hx) (mem _ _ hy)
      · exact h.cs' x (mem _ _ hx) (mem _ _ hy)
  · intro g hg
    rcases List.mem_append.1 hg with hg | hg
    · exact l0 g hg
    · rcases List.mem_append.1 hg with hg | hg
      · exact l2 g hg
      · exact l3 g hg
  · intro hg
    rcases List.mem_append.1 hg with hg | hg
    · exact h.nb.1 (mem _ _ hg)
    · rcases List.mem_append.1 hg with hg | hg
      · exact h.nb.2.1 (mem _ _ hg)
      · exact h.nb.2.2 (mem _ _ hg)
structure OL (what size : Int) (vm : Value) (ts : List Th) (m k : Nat) (vt : Value) (xs : List Value) (fps : Nat → List Nat) (W1 W : World) : Prop where
  below : Below W1.heap.size W1 W
  box : Bx W m #[.int .i64 what, .int .i64 size, vm, vt, .int .i64 0]
  own : W.ownsRow W1.heap.size 46 4 vt k xs
  made : ∀ j (hj : j < ts.length), j < k → ∃ v0 v2 v3, xs[j * 4]? = some v0 ∧ xs[j * 4 + 1]? = some (.int .i64 0) ∧ xs[j * 4 + 2]? = some v2 ∧ xs[j * 4 + 3]? = some v3 ∧ ThO W v0 v2 v3 (thNewT what ts[j]) (fps j)
  nodup : ((List.range k).flatMap fps).Nodup
  far : ∀ x ∈ (List.range k).flatMap fps, W1.heap.size ≤ x ∧ x < W.heap.size ∧ x ≠ m ∧ vt.ownBlock ≠ some x
  nb : vt.ownBlock ≠ some m
  low : W1.heap.size ≤ m
theorem OL.grow {what size : Int} {vm : Value} {ts : List Th} {m k : Nat} {vt : Value} {xs : List Value} {fps : Nat → List Nat} {W1 W W' : World} (h : OL what size vm ts m k vt xs fps W1 W) (b : Below W.heap.size W W') : OL what size vm ts m k vt xs fps W1 W' := by
  have z := b.size
  refine ⟨below_step h.below b, h.box.below b, own_below h.own b, fun j hj hk => ?_, h.nodup, fun x hx => ?_, h.nb, h.low⟩
  · obtain ⟨v0, v2, v3, e0, e1, e2, e3, h5⟩ := h.made j hj hk
    exact ⟨v0, v2, v3, e0, e1, e2, e3, h5.below b⟩
  · obtain ⟨p1, p2, p3, p4⟩ := h.far x hx; exact ⟨p1, by omega, p3, p4⟩
structure IL (b : Nat) (v0 v2 v3 : Value) (cs : List Cl) (R S : List Int) (W3 W : World) : Prop where
  ti : TI b W b v0 v2 v3 cs R S
  below : Below b W3 W
  box : Bx W b #[v0, .int .i64 0, v2, v3]
theorem IL.grow {b : Nat} {v0 v2 v3 : Value} {cs : List Cl} {R S : List Int} {W3 W W' : World} (h : IL b v0 v2 v3 cs R S W3 W) (e : Below W.heap.size W W') : IL b v0 v2 v3 cs R S W3 W' :=
  ⟨h.ti.below e, h.below.trans (e.mono (Nat.le_of_lt h.ti.hb.2)), h.box.below e⟩
theorem box_far {W W' : World} {b : Nat} {xs : Array Value} {v : Value} (h : Bx W b xs) (hg : W.grownBy W' v.ownBlock) (hn : v.ownBlock ≠ some b) : Bx W' b xs :=
  h.block hg.size (hg.block b h.1 (fun e => hn e.symm))
theorem IL.appC {b : Nat} {v0 v2 v3 : Value} {cs : List Cl} {R S : List Int} {W3 W W' : World} {q : Cl} {g cap : Nat} (h : IL b v0 v2 v3 cs R S W3 W)
    (ho : W'.ownsRow b 48 10 (.slice (some ⟨g, 0, none⟩) (cs.length + 1) cap) (cs.length + 1) (tens cs ++ ten q)) (hg : W.grownBy W' v0.ownBlock) (hat : v0.ownBlock = some g ∨ g = W.heap.size) : IL b (.slice (some ⟨g, 0, none⟩) (cs.length + 1) cap) v2 v3 (cs ++ [q]) R S W3 (W'.setCell ⟨b, 0, none⟩ (.slice (some ⟨g, 0, none⟩) (cs.length + 1) cap)) :=
  ⟨(h.ti.appC ho hg hat).set 0 _, (h.below.grown hg (Nat.le_of_lt h.ti.hb.2) (fun k hk => (h.ti.c.lt k hk).1)).setCell (Nat.le_refl _) _, (box_far h.box hg h.ti.nb.1).set _ (by simp)⟩
theorem IL.appR {b : Nat} {v0 v2 v3 : Value} {cs : List Cl} {R S : List Int} {W3 W W' : World} {q : Int} {g cap : Nat} (h : IL b v0 v2 v3 cs R S W3 W)
    (ho : W'.ownsRow b 3 1 (.slice (some ⟨g, 0, none⟩) (R.length + 1) cap) (R.length + 1) (ints R ++ [.int .i64 q])) (hg : W.grownBy W' v2.ownBlock) (hat : v2.ownBlock = some g ∨ g = W.heap.size) : IL b v0 (.slice (some ⟨g, 0, none⟩) (R.length + 1) cap) v3 cs (R ++ [q]) S W3 (W'.setCell ⟨b, 2, none⟩ (.slice (some ⟨g, 0, none⟩) (R.length + 1) cap)) :=
  ⟨(h.ti.appR ho hg hat).set 2 _, (h.below.grown hg (Nat.le_of_lt h.ti.hb.2) (fun k hk => (h.ti.r.lt k hk).1)).setCell (Nat.le_refl _) _, (box_far h.box hg h.ti.nb.2.1).set _ (by simp)⟩
theorem IL.appS {b : Nat} {v0 v2 v3 : Value} {cs : List Cl} {R S : List Int} {W3 W W' : World} {q : Int} {g cap : Nat} (h : IL b v0 v2 v3 cs R S W3 W)
    (ho : W'.ownsRow b 3 1 (.slice (some ⟨g, 0, none⟩) (S.length + 1) cap) (S.length + 1) (ints S ++ [.int .i64 q])) (hg : W.grownBy W' v3.ownBlock) (hat : v3.ownBlock = some g ∨ g = W.heap.size) : IL b v0 v2 (.slice (some ⟨g, 0, none⟩) (S.length + 1) cap) cs R (S ++ [q]) W3 (W'.setCell ⟨b, 3, none⟩ (.slice (some ⟨g, 0, none⟩) (S.length + 1) cap)) :=
  ⟨(h.ti.appS ho hg hat).set 3 _, (h.below.grown hg (Nat.le_of_lt h.ti.hb.2) (fun k hk => (h.ti.s.lt k hk).1)).setCell (Nat.le_refl _) _, (box_far h.box hg h.ti.nb.2.2).set _ (by simp)⟩
theorem at_newN {W : World} {o : Obj} {k : Nat} (hk : k = W.heap.size) : (W.alloc o).heap[k]? = some o := by subst hk; exact heap_alloc_new _ _
theorem ten_one (c : Cl) : ∀ u ∈ ten c, u.oneCell' = true := by intro u hu; simp [ten] at hu; rcases hu with rfl | rfl | rfl | rfl | rfl | rfl | rfl | rfl | rfl | rfl <;> rfl
theorem OL.owns {what size : Int} {full : Bool} {vm : Value} {ts : List Th} {m s : Nat} {vt : Value} {xs : List Value} {fps : Nat → List Nat} {f1 : List Nat} {W1 W : World} (h : OL what size vm ts m ts.length vt xs fps W1 W) (o : IntsO W1 vm (objL what size full) f1) (nd : f1.Nodup) (l1 : ∀ x ∈ f1, s < x ∧ x < W1.heap.size) (hs : s < W1.heap.size) :
    ∃ fp, CwO W vm vt (cwMade what size full ts) fp ∧ fp.Nodup ∧ ∀ x ∈ fp, s < x := by
  rcases own_cells2 h.own with ⟨rfl, h0, -⟩ | ⟨g, cap, rfl, h1, h2, h3, h4, h5, h6, h7⟩
  · have := List.length_eq_zero_iff.1 h0
    subst this
    exact ⟨f1, ⟨f1, [], by simp, o.below h.below, ⟨none, 0, rfl, Nat.le_refl _, .inl ⟨rfl, rfl⟩⟩⟩, nd, fun x hx => (l1 x hx).1⟩
  · have hc : ∀ x ∈ g :: (List.range ts.length).flatMap fps, W1.heap.size ≤ x := fun x hx => by
      rcases List.mem_cons.1 hx with rfl | hx
      · exact h1
      · exact (h.far x hx).1
    refine ⟨f1 ++ (g :: (List.range ts.length).flatMap fps), ⟨f1, _, rfl, o.below h.below, ⟨_, cap, by simp [cwMade], by simpa [cwMade] using h3, .inr ⟨g, fps, rfl, by simp [cwMade], h2, fun j hj => ?_, h7⟩⟩⟩, ?_, ?_⟩
    · have hj' : j < ts.length := by simpa [cwMade] using hj
      obtain ⟨v0, v2, v3, e0, e1, e2, e3, h8⟩ := h.made j hj' hj'
      have e : (cwMade what size full ts).ts[j] = thNewT what ts[j] := by simp [cwMade]
      have k := fun i (hi : i < 4) => (h6 (j * 4 + i) (by omega)).trans (List.getElem?_eq_getElem (by omega)).symm
      rw [e, thNewT_at]
      exact ⟨v0, v2, v3, ⟨(k 0 (by omega)).trans e0, (k 1 (by omega)).trans e1, (k 2 (by omega)).trans e2, (k 3 (by omega)).trans e3⟩, h8⟩
    · refine nodup_app (s := W1.heap.size) nd (List.nodup_cons.2 ⟨fun hg => ?_, h.nodup⟩) (fun x hx => (l1 x hx).2) hc
      exact (h.far g hg).2.2.2 rfl
    · intro x hx
      rcases List.mem_append.1 hx with hx | hx
      · exact (l1 x hx).1
      · have := hc x hx; omega
theorem OL.app {what size : Int} {vm : Value} {ts : List Th} {m k : Nat} {vt : Value} {xs : List Value} {fps : Nat → List Nat} {W1 wr W W' : World} {v0 v2 v3 : Value} {T : Th} {fp : List Nat} {g cap : Nat} (h0 : OL what size vm ts m k vt xs fps W1 wr) (b : Below wr.heap.size wr W) (hk : k < ts.length) (hT : thNewT what ts[k] = T) (o : ThO W v0 v2 v3 T fp) (nd : fp.Nodup) (gg : ∀ x ∈ fp, wr.heap.size ≤ x)
    (ho : W'.ownsRow W1.heap.size 46 4 (.slice (some ⟨g, 0, none⟩) (k + 1) cap) (k + 1) (xs ++ [v0, .int .i64 0, v2, v3])) (hg : W.grownBy W' vt.ownBlock) (hat : vt.ownBlock = some g ∨ g = W.heap.size) :
    OL what size vm ts m (k + 1) (.slice (some ⟨g, 0, none⟩) (k + 1) cap) (xs ++ [v0, .int .i64 0, v2, v3]) (fun j => if j = k then fp else fps j) W1 (W'.setCell ⟨m, 3, none⟩ (.slice (some ⟨g, 0, none⟩) (k + 1) cap)) := by
  have h := h0.grow b
  have zb := b.size
  have zg := hg.size
  have lm := h0.box.1
  have lx : xs.length = k * 4 := h0.own.1
  have hat' := hat
  have new := own_new (n := k + 1) (cap := cap) hat
  have vlt : ∀ x, vt.ownBlock = some x → x < wr.heap.size := fun x e => (h0.own.lt x e).2
  have same : ∀ x, x < W.heap.size → x ≠ m → vt.ownBlock ≠ some x → (W'.setCell ⟨m, 3, none⟩ (.slice (some ⟨g, 0, none⟩) (k + 1) cap)).heap[x]? = W.heap[x]? := fun x h1 h2 h3 => (Below.heap_setCell _ _ _ _ h2).trans (hg.block x h1 (fun e => h3 e.symm))
  have nbm : (Value.slice (some ⟨g, 0, none⟩) (k + 1) cap).ownBlock ≠ some m := fun e => by
    rcases new m e with e1 | e1
    · exact h.nb e1
    · omega
  have olt := o.lt
  refine ⟨(h.below.grown hg h.below.size (fun x e => (h0.own.lt x e).1)).setCell h.low _, (box_far h.box hg h.nb).set _ (by simp), ?_, fun j hj hjk => ?_, ?_, ?_, nbm, h.low⟩
  · have hs : W'.grownBy (W'.setCell ⟨m, 3, none⟩ (.slice (some ⟨g, 0, none⟩) (k + 1) cap)) (some m) := ⟨rfl, rfl, rfl, by simp, fun q _ hq => Below.heap_setCell _ _ _ _ (fun e => hq (by rw [e]))⟩
    exact ho.kept hs (.inr nbm)
  · by_cases ej : j = k
    · subst ej
      refine ⟨v0, v2, v3, ?_, ?_, ?_, ?_, ?_⟩
      · rw [List.getElem?_append_right (by omega), show j * 4 - xs.length = 0 from by omega]; rfl
      · rw [List.getElem?_append_right (by omega), show j * 4 + 1 - xs.length = 1 from by omega]; rfl
      · rw [List.getElem?_append_right (by omega), show j * 4 + 2 - xs.length = 2 from by omega]; rfl
      · rw [List.getElem?_append_right (by omega), show j * 4 + 3 - xs.length = 3 from by omega]; rfl
      · show ThO _ _ _ _ _ (if j = j then fp else fps j)
        rw [if_pos rfl, hT]
        exact o.loc' (fun x hx => same x (olt x hx) (by have := gg x hx; omega) (fun e => by have := vlt x e; have := gg x hx; omega))
    · obtain ⟨u0, u2, u3, e0, e1, e2, e3, h5⟩ := h.made j hj (by omega)
      refine ⟨u0, u2, u3, ?_, ?_, ?_, ?_, ?_⟩
      · rw [List.getElem?_append_left (by omega)]; exact e0
      · rw [List.getElem?_append_left (by omega)]; exact e1
      · rw [List.getElem?_append_left (by omega)]; exact e2
      · rw [List.getElem?_append_left (by omega)]; exact e3
      · show ThO _ _ _ _ _ (if j = k then fp else fps j)
        rw [if_neg ej]
        exact h5.loc' (fun x hx => by
          obtain ⟨p1, p2, p3, p4⟩ := h.far x (List.mem_flatMap.2 ⟨j, List.mem_range.2 (by omega), hx⟩)
          exact same x p2 p3 p4)
  · rw [flat_succ]
    exact nodup_app (s := wr.heap.size) h0.nodup nd (fun x hx => (h0.far x hx).2.1) gg
  · rw [flat_succ]
    intro x hx
    have out : x < W.heap.size → vt.ownBlock ≠ some x → (Value.slice (some ⟨g, 0, none⟩) (k + 1) cap).ownBlock ≠ some x := fun h1 h2 e => by
      rcases new x e with e1 | e1
      · exact h2 e1
      · omega
    have hz : (W'.setCell ⟨m, 3, none⟩ (.slice (some ⟨g, 0, none⟩) (k + 1) cap)).heap.size = W'.heap.size := by simp
    rw [hz]
    rcases List.mem_append.1 hx with hx | hx
    · obtain ⟨p1, p2, p3, p4⟩ := h.far x hx
      exact ⟨p1, by omega, p3, out p2 p4⟩
    · have h1 := gg x hx
      have h2 := olt x hx
      have h3 := h0.below.size
      exact ⟨by omega, by omega, by omega, out h2 (fun e => by have := vlt x e; omega)⟩

end Go.Proofs.Ytpfofjcfaelocaa
