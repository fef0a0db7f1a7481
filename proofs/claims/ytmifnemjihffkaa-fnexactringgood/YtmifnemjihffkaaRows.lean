/-
  No cell of these rows narrows 'for every input' (looked for: loops, veiled, ifaces, maps, wideKeys, modest, calm, conditions, laid).
  DERIVED. THE GIVEN ROWS OF THIS SEAT. 5 by the template 'for every input the law returns true; each argument reads behind the call as it read before'; 0 by the template 'total and deterministic' (their statements: YtmifnemjihffkaaTotals.lean).
  GIVEN WITH THE SEED: the statements are not yours to turn. If you find one false, say at which input.
  Laid BY PROGRAM, IN A SANDBOX (cutbox-rows.mjs): the forced cells as the released guide's own fill.sh prints them over the translation 66808e2322b4d3d4… (all of the seat's roots in one cut). By AI agents, Wed Nov 11 2026. No macro, syntax, notation, axiom, sorry.
-/
import Derived.Test.YtmifnemjihffkaaChecked
import GoSem.Claim
import GoSem.ClaimJoined
import GoSem.ClaimMapViews
import Derived.JoinedTies
import Derived.KernelRfl
namespace Go.Proofs.Ytmifnemjihffkaa
/- THE CELL 'sum', in the pinned program and in every row, IS THE sha256 OF THE DUMP (.gsa) THAT YtmifnemjihffkaaProg.lean LOADS. Nothing in Lean hashes anything: it is a label: what it is worth is what the hold of that sum in a sandbox is worth. -/
noncomputable def Try.pinned : Pinned := { name := "ytmifnemjihffkaa", sum := "66808e2322b4d3d46aa9e5ada117f2010522b2011e2eef3f3c943a9dbdacf696", checked := Try.checked }
namespace Rows
def none {H : Type} : Left H := { results := [], args := [] }

/-- 'laws.FnExactFacts': WHATEVER THE INPUT: true; the input reads as it did. -/
def fnExactFactsSpec : ChangeSpec := { name := "fnExactFacts", fn := fun _ => fun
  | [d] => { results := [.lit (.bool true)], args := [d] }
  | _ => none }
def fnExactFactsRow : OpenClaim := { program := "ytmifnemjihffkaa", sum := "66808e2322b4d3d46aa9e5ada117f2010522b2011e2eef3f3c943a9dbdacf696", func := "loop.example/g00724/laws.FnExactFacts", spec := "fnExactFacts", apart := false }
def FnExactFactsSaid : Prop := fnExactFactsRow.holds Try.pinned (OpenSpec.ofChange fnExactFactsSpec)

/-- ITS FALSE NEIGHBOUR: 'it returns false'. Refute it at one input. -/
def fnExactFactsWrong : ChangeSpec := { name := "fnExactFacts", fn := fun _ => fun
  | [d] => { results := [.lit (.bool false)], args := [d] }
  | _ => none }
def FnExactFactsWrongFalsely : Prop := fnExactFactsRow.holds Try.pinned (OpenSpec.ofChange fnExactFactsWrong)

/-- 'laws.FnExactStApply': WHATEVER THE INPUT: true; the input reads as it did. -/
def fnExactStApplySpec : ChangeSpec := { name := "fnExactStApply", fn := fun _ => fun
  | [d1, d2] => { results := [.lit (.bool true)], args := [d1, d2] }
  | _ => none }
def fnExactStApplyRow : OpenClaim := { program := "ytmifnemjihffkaa", sum := "66808e2322b4d3d46aa9e5ada117f2010522b2011e2eef3f3c943a9dbdacf696", func := "loop.example/g00724/laws.FnExactStApply", spec := "fnExactStApply", apart := false }
def FnExactStApplySaid : Prop := fnExactStApplyRow.holds Try.pinned (OpenSpec.ofChange fnExactStApplySpec)

/-- ITS FALSE NEIGHBOUR: 'it returns false'. Refute it at one input. -/
def fnExactStApplyWrong : ChangeSpec := { name := "fnExactStApply", fn := fun _ => fun
  | [d1, d2] => { results := [.lit (.bool false)], args := [d1, d2] }
  | _ => none }
def FnExactStApplyWrongFalsely : Prop := fnExactStApplyRow.holds Try.pinned (OpenSpec.ofChange fnExactStApplyWrong)

/-- 'laws.FnExactLinear': WHATEVER THE INPUT: true; the input reads as it did. -/
def fnExactLinearSpec : ChangeSpec := { name := "fnExactLinear", fn := fun _ => fun
  | [d1, d2, d3] => { results := [.lit (.bool true)], args := [d1, d2, d3] }
  | _ => none }
def fnExactLinearRow : OpenClaim := { program := "ytmifnemjihffkaa", sum := "66808e2322b4d3d46aa9e5ada117f2010522b2011e2eef3f3c943a9dbdacf696", func := "loop.example/g00724/laws.FnExactLinear", spec := "fnExactLinear", unfollowed := true, recurses := true, apart := false }
def FnExactLinearSaid : Prop := fnExactLinearRow.holds Try.pinned (OpenSpec.ofChange fnExactLinearSpec)

/-- ITS FALSE NEIGHBOUR: 'it returns false'. Refute it at one input. -/
def fnExactLinearWrong : ChangeSpec := { name := "fnExactLinear", fn := fun _ => fun
  | [d1, d2, d3] => { results := [.lit (.bool false)], args := [d1, d2, d3] }
  | _ => none }
def FnExactLinearWrongFalsely : Prop := fnExactLinearRow.holds Try.pinned (OpenSpec.ofChange fnExactLinearWrong)

/-- 'laws.FnExactRingGood': WHATEVER THE INPUT: true; the input reads as it did. -/
def fnExactRingGoodSpec : ChangeSpec := { name := "fnExactRingGood", fn := fun _ => fun
  | [d1, d2] => { results := [.lit (.bool true)], args := [d1, d2] }
  | _ => none }
def fnExactRingGoodRow : OpenClaim := { program := "ytmifnemjihffkaa", sum := "66808e2322b4d3d46aa9e5ada117f2010522b2011e2eef3f3c943a9dbdacf696", func := "loop.example/g00724/laws.FnExactRingGood", spec := "fnExactRingGood", unfollowed := true, recurses := true, apart := false }
def FnExactRingGoodSaid : Prop := fnExactRingGoodRow.holds Try.pinned (OpenSpec.ofChange fnExactRingGoodSpec)

/-- ITS FALSE NEIGHBOUR: 'it returns false'. Refute it at one input. -/
def fnExactRingGoodWrong : ChangeSpec := { name := "fnExactRingGood", fn := fun _ => fun
  | [d1, d2] => { results := [.lit (.bool false)], args := [d1, d2] }
  | _ => none }
def FnExactRingGoodWrongFalsely : Prop := fnExactRingGoodRow.holds Try.pinned (OpenSpec.ofChange fnExactRingGoodWrong)

/-- 'laws.FnExactInTime': WHATEVER THE INPUT: true; the input reads as it did. -/
def fnExactInTimeSpec : ChangeSpec := { name := "fnExactInTime", fn := fun _ => fun
  | [d] => { results := [.lit (.bool true)], args := [d] }
  | _ => none }
def fnExactInTimeRow : OpenClaim := { program := "ytmifnemjihffkaa", sum := "66808e2322b4d3d46aa9e5ada117f2010522b2011e2eef3f3c943a9dbdacf696", func := "loop.example/g00724/laws.FnExactInTime", spec := "fnExactInTime", unfollowed := true, recurses := true, apart := false }
def FnExactInTimeSaid : Prop := fnExactInTimeRow.holds Try.pinned (OpenSpec.ofChange fnExactInTimeSpec)

/-- ITS FALSE NEIGHBOUR: 'it returns false'. Refute it at one input. -/
def fnExactInTimeWrong : ChangeSpec := { name := "fnExactInTime", fn := fun _ => fun
  | [d] => { results := [.lit (.bool false)], args := [d] }
  | _ => none }
def FnExactInTimeWrongFalsely : Prop := fnExactInTimeRow.holds Try.pinned (OpenSpec.ofChange fnExactInTimeWrong)

/- THE SECOND FORM. 'bulk': how many values and letters a reading holds, each counted each time it is reached (what is shared counts as often as it is met; a slice's spare places count too). A statement '..UptoSaid' is the law's where the arguments, and the package variables that the reading takes, are together of bulk at most 1048576: NARROWER than '..Said'. Prove '..Said' where nothing that the law and all that it calls make is longer than what came in: it says more and counts as full. Else prove '..UptoSaid'. A law counts once. -/
mutual
def uptoBulk {H : Type} : DataW H → Nat
  | .lit (.string bytes) => bytes.length + 1
  | .lit _ => 1
  | .nil => 1
  | .ptr d => uptoBulk d + 1
  | .slice elems spare => uptoBulkAll elems + uptoBulkAll spare + 1
  | .agg parts => uptoBulkAll parts + 1
  | .iface _ d => uptoBulk d + 1
  | .map entries => uptoBulkEntries entries + 1
  | .held _ => 1
def uptoBulkAll {H : Type} : List (DataW H) → Nat
  | [] => 0
  | d :: r => uptoBulk d + uptoBulkAll r
def uptoBulkEntries {H : Type} : List (Lit × DataW H) → Nat
  | [] => 0
  | x :: r => uptoBulkEntry x + uptoBulkEntries r
def uptoBulkEntry {H : Type} : Lit × DataW H → Nat
  | (.string bytes, d) => bytes.length + uptoBulk d + 1
  | (_, d) => uptoBulk d + 1
 end
def uptoSmall : (H : Type) → List (DataW H) → Bool := fun _ ds => decide (uptoBulkAll ds ≤ 1048576)
def OpenSpec.upto (s : _root_.Go.ChangeSpec) : _root_.Go.OpenSpec := { _root_.Go.OpenSpec.ofChange s with cond := some uptoSmall }

/-- 'laws.FnExactFacts', WHERE WHAT IT READS IS OF BULK AT MOST 1048576: true; the input reads as it did. -/
def fnExactFactsUptoRow : OpenClaim := { program := "ytmifnemjihffkaa", sum := "66808e2322b4d3d46aa9e5ada117f2010522b2011e2eef3f3c943a9dbdacf696", func := "loop.example/g00724/laws.FnExactFacts", spec := "fnExactFacts", apart := false, narrowed := true }
def FnExactFactsUptoSaid : Prop := fnExactFactsUptoRow.holds Try.pinned (OpenSpec.upto fnExactFactsSpec)

/-- 'laws.FnExactStApply', WHERE WHAT IT READS IS OF BULK AT MOST 1048576: true; the input reads as it did. -/
def fnExactStApplyUptoRow : OpenClaim := { program := "ytmifnemjihffkaa", sum := "66808e2322b4d3d46aa9e5ada117f2010522b2011e2eef3f3c943a9dbdacf696", func := "loop.example/g00724/laws.FnExactStApply", spec := "fnExactStApply", apart := false, narrowed := true }
def FnExactStApplyUptoSaid : Prop := fnExactStApplyUptoRow.holds Try.pinned (OpenSpec.upto fnExactStApplySpec)

/-- 'laws.FnExactLinear', WHERE WHAT IT READS IS OF BULK AT MOST 1048576: true; the input reads as it did. -/
def fnExactLinearUptoRow : OpenClaim := { program := "ytmifnemjihffkaa", sum := "66808e2322b4d3d46aa9e5ada117f2010522b2011e2eef3f3c943a9dbdacf696", func := "loop.example/g00724/laws.FnExactLinear", spec := "fnExactLinear", unfollowed := true, recurses := true, apart := false, narrowed := true }
def FnExactLinearUptoSaid : Prop := fnExactLinearUptoRow.holds Try.pinned (OpenSpec.upto fnExactLinearSpec)

/-- 'laws.FnExactRingGood', WHERE WHAT IT READS IS OF BULK AT MOST 1048576: true; the input reads as it did. -/
def fnExactRingGoodUptoRow : OpenClaim := { program := "ytmifnemjihffkaa", sum := "66808e2322b4d3d46aa9e5ada117f2010522b2011e2eef3f3c943a9dbdacf696", func := "loop.example/g00724/laws.FnExactRingGood", spec := "fnExactRingGood", unfollowed := true, recurses := true, apart := false, narrowed := true }
def FnExactRingGoodUptoSaid : Prop := fnExactRingGoodUptoRow.holds Try.pinned (OpenSpec.upto fnExactRingGoodSpec)

/-- 'laws.FnExactInTime', WHERE WHAT IT READS IS OF BULK AT MOST 1048576: true; the input reads as it did. -/
def fnExactInTimeUptoRow : OpenClaim := { program := "ytmifnemjihffkaa", sum := "66808e2322b4d3d46aa9e5ada117f2010522b2011e2eef3f3c943a9dbdacf696", func := "loop.example/g00724/laws.FnExactInTime", spec := "fnExactInTime", unfollowed := true, recurses := true, apart := false, narrowed := true }
def FnExactInTimeUptoSaid : Prop := fnExactInTimeUptoRow.holds Try.pinned (OpenSpec.upto fnExactInTimeSpec)

end Rows
end Go.Proofs.Ytmifnemjihffkaa
