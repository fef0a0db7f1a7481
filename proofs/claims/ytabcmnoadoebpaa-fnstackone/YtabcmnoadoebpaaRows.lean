/-
  No cell of these rows narrows 'for every input' (looked for: loops, veiled, ifaces, maps, wideKeys, modest, calm, conditions, laid).
  DERIVED. THE GIVEN ROWS OF THIS SEAT. 6 by the template 'for every input the law returns true; each argument reads behind the call as it read before'; 0 by the template 'total and deterministic' (their statements: YtabcmnoadoebpaaTotals.lean).
  GIVEN WITH THE SEED: the statements are not yours to turn. If you find one false, say at which input.
  Laid BY PROGRAM, IN A SANDBOX (cutbox-rows.mjs): the forced cells as the released guide's own fill.sh prints them over the translation f8d9d1a28cc112a5… (all of the seat's roots in one cut). By AI agents, Wed Nov 11 2026. No macro, syntax, notation, axiom, sorry.
-/
import Derived.Test.YtabcmnoadoebpaaChecked
import GoSem.Claim
import GoSem.ClaimJoined
import GoSem.ClaimMapViews
import Derived.JoinedTies
import Derived.KernelRfl
namespace Go.Proofs.Ytabcmnoadoebpaa
/- THE CELL 'sum', in the pinned program and in every row, IS THE sha256 OF THE DUMP (.gsa) THAT YtabcmnoadoebpaaProg.lean LOADS. Nothing in Lean hashes anything: it is a label: what it is worth is what the hold of that sum in a sandbox is worth. -/
noncomputable def Try.pinned : Pinned := { name := "ytabcmnoadoebpaa", sum := "f8d9d1a28cc112a52f9f25d850f7e704e149b10599449a46fd226292a3c8cf21", checked := Try.checked }
namespace Rows
def none {H : Type} : Left H := { results := [], args := [] }

/-- 'laws.FnStackOne': WHATEVER THE INPUT: true; the input reads as it did. -/
def fnStackOneSpec : ChangeSpec := { name := "fnStackOne", fn := fun _ => fun
  | [d] => { results := [.lit (.bool true)], args := [d] }
  | _ => none }
def fnStackOneRow : OpenClaim := { program := "ytabcmnoadoebpaa", sum := "f8d9d1a28cc112a52f9f25d850f7e704e149b10599449a46fd226292a3c8cf21", func := "loop.example/g00724/laws.FnStackOne", spec := "fnStackOne", unfollowed := true, recurses := true, apart := false }
def FnStackOneSaid : Prop := fnStackOneRow.holds Try.pinned (OpenSpec.ofChange fnStackOneSpec)

/-- ITS FALSE NEIGHBOUR: 'it returns false'. Refute it at one input. -/
def fnStackOneWrong : ChangeSpec := { name := "fnStackOne", fn := fun _ => fun
  | [d] => { results := [.lit (.bool false)], args := [d] }
  | _ => none }
def FnStackOneWrongFalsely : Prop := fnStackOneRow.holds Try.pinned (OpenSpec.ofChange fnStackOneWrong)

/-- 'laws.FnExactStNew': WHATEVER THE INPUT: true; the input reads as it did. -/
def fnExactStNewSpec : ChangeSpec := { name := "fnExactStNew", fn := fun _ => fun
  | [d1, d2] => { results := [.lit (.bool true)], args := [d1, d2] }
  | _ => none }
def fnExactStNewRow : OpenClaim := { program := "ytabcmnoadoebpaa", sum := "f8d9d1a28cc112a52f9f25d850f7e704e149b10599449a46fd226292a3c8cf21", func := "loop.example/g00724/laws.FnExactStNew", spec := "fnExactStNew", apart := false }
def FnExactStNewSaid : Prop := fnExactStNewRow.holds Try.pinned (OpenSpec.ofChange fnExactStNewSpec)

/-- ITS FALSE NEIGHBOUR: 'it returns false'. Refute it at one input. -/
def fnExactStNewWrong : ChangeSpec := { name := "fnExactStNew", fn := fun _ => fun
  | [d1, d2] => { results := [.lit (.bool false)], args := [d1, d2] }
  | _ => none }
def FnExactStNewWrongFalsely : Prop := fnExactStNewRow.holds Try.pinned (OpenSpec.ofChange fnExactStNewWrong)

/-- 'laws.FnExactStCall': WHATEVER THE INPUT: true; the input reads as it did. -/
def fnExactStCallSpec : ChangeSpec := { name := "fnExactStCall", fn := fun _ => fun
  | [d1, d2] => { results := [.lit (.bool true)], args := [d1, d2] }
  | _ => none }
def fnExactStCallRow : OpenClaim := { program := "ytabcmnoadoebpaa", sum := "f8d9d1a28cc112a52f9f25d850f7e704e149b10599449a46fd226292a3c8cf21", func := "loop.example/g00724/laws.FnExactStCall", spec := "fnExactStCall", apart := false }
def FnExactStCallSaid : Prop := fnExactStCallRow.holds Try.pinned (OpenSpec.ofChange fnExactStCallSpec)

/-- ITS FALSE NEIGHBOUR: 'it returns false'. Refute it at one input. -/
def fnExactStCallWrong : ChangeSpec := { name := "fnExactStCall", fn := fun _ => fun
  | [d1, d2] => { results := [.lit (.bool false)], args := [d1, d2] }
  | _ => none }
def FnExactStCallWrongFalsely : Prop := fnExactStCallRow.holds Try.pinned (OpenSpec.ofChange fnExactStCallWrong)

/-- 'laws.FnExactStAct': WHATEVER THE INPUT: true; the input reads as it did. -/
def fnExactStActSpec : ChangeSpec := { name := "fnExactStAct", fn := fun _ => fun
  | [d1, d2] => { results := [.lit (.bool true)], args := [d1, d2] }
  | _ => none }
def fnExactStActRow : OpenClaim := { program := "ytabcmnoadoebpaa", sum := "f8d9d1a28cc112a52f9f25d850f7e704e149b10599449a46fd226292a3c8cf21", func := "loop.example/g00724/laws.FnExactStAct", spec := "fnExactStAct", apart := false }
def FnExactStActSaid : Prop := fnExactStActRow.holds Try.pinned (OpenSpec.ofChange fnExactStActSpec)

/-- ITS FALSE NEIGHBOUR: 'it returns false'. Refute it at one input. -/
def fnExactStActWrong : ChangeSpec := { name := "fnExactStAct", fn := fun _ => fun
  | [d1, d2] => { results := [.lit (.bool false)], args := [d1, d2] }
  | _ => none }
def FnExactStActWrongFalsely : Prop := fnExactStActRow.holds Try.pinned (OpenSpec.ofChange fnExactStActWrong)

/-- 'laws.FnExactStStep': WHATEVER THE INPUT: true; the input reads as it did. -/
def fnExactStStepSpec : ChangeSpec := { name := "fnExactStStep", fn := fun _ => fun
  | [d1, d2, d3] => { results := [.lit (.bool true)], args := [d1, d2, d3] }
  | _ => none }
def fnExactStStepRow : OpenClaim := { program := "ytabcmnoadoebpaa", sum := "f8d9d1a28cc112a52f9f25d850f7e704e149b10599449a46fd226292a3c8cf21", func := "loop.example/g00724/laws.FnExactStStep", spec := "fnExactStStep", unfollowed := true, recurses := true, apart := false }
def FnExactStStepSaid : Prop := fnExactStStepRow.holds Try.pinned (OpenSpec.ofChange fnExactStStepSpec)

/-- ITS FALSE NEIGHBOUR: 'it returns false'. Refute it at one input. -/
def fnExactStStepWrong : ChangeSpec := { name := "fnExactStStep", fn := fun _ => fun
  | [d1, d2, d3] => { results := [.lit (.bool false)], args := [d1, d2, d3] }
  | _ => none }
def FnExactStStepWrongFalsely : Prop := fnExactStStepRow.holds Try.pinned (OpenSpec.ofChange fnExactStStepWrong)

/-- 'laws.FnExactStItems': WHATEVER THE INPUT: true; the input reads as it did. -/
def fnExactStItemsSpec : ChangeSpec := { name := "fnExactStItems", fn := fun _ => fun
  | [d1, d2] => { results := [.lit (.bool true)], args := [d1, d2] }
  | _ => none }
def fnExactStItemsRow : OpenClaim := { program := "ytabcmnoadoebpaa", sum := "f8d9d1a28cc112a52f9f25d850f7e704e149b10599449a46fd226292a3c8cf21", func := "loop.example/g00724/laws.FnExactStItems", spec := "fnExactStItems", unfollowed := true, recurses := true, apart := false }
def FnExactStItemsSaid : Prop := fnExactStItemsRow.holds Try.pinned (OpenSpec.ofChange fnExactStItemsSpec)

/-- ITS FALSE NEIGHBOUR: 'it returns false'. Refute it at one input. -/
def fnExactStItemsWrong : ChangeSpec := { name := "fnExactStItems", fn := fun _ => fun
  | [d1, d2] => { results := [.lit (.bool false)], args := [d1, d2] }
  | _ => none }
def FnExactStItemsWrongFalsely : Prop := fnExactStItemsRow.holds Try.pinned (OpenSpec.ofChange fnExactStItemsWrong)

/- THE SECOND FORM. 'bulk': how many values and letters a reading holds, each counted each time it is reached (what is shared counts as often as it is met; a slice's spare places count too). A statement '..UptoSaid' is the law's where the arguments, and the package variables that the reading takes, are together of bulk at most 1048576: NARROWER than '..Said'. Prove '..Said' where nothing that the law and all that it calls make is longer than what came in: it says more and counts as full. Else prove '..UptoSaid'. A law counts once. -/
mutual
def uptoBulk {H : Type} : DataW H → Nat
  | .lit (.string bytes) => bytes.length + 1
  | .lit _ => 1
  | .nil => 1
  | .ptr d => uptoBulk d + 1
  | .slice elems spare => uptoBulkAll elems + uptoBulkAll spare + 1
  | .agg parts => uptoBulkAll parts + 1
  | .iface _ d => uptoBulk d + 1
  | .map entries => uptoBulkEntries entries + 1
  | .held _ => 1
def uptoBulkAll {H : Type} : List (DataW H) → Nat
  | [] => 0
  | d :: r => uptoBulk d + uptoBulkAll r
def uptoBulkEntries {H : Type} : List (Lit × DataW H) → Nat
  | [] => 0
  | x :: r => uptoBulkEntry x + uptoBulkEntries r
def uptoBulkEntry {H : Type} : Lit × DataW H → Nat
  | (.string bytes, d) => bytes.length + uptoBulk d + 1
  | (_, d) => uptoBulk d + 1
 end
def uptoSmall : (H : Type) → List (DataW H) → Bool := fun _ ds => decide (uptoBulkAll ds ≤ 1048576)
def OpenSpec.upto (s : _root_.Go.ChangeSpec) : _root_.Go.OpenSpec := { _root_.Go.OpenSpec.ofChange s with cond := some uptoSmall }

/-- 'laws.FnStackOne', WHERE WHAT IT READS IS OF BULK AT MOST 1048576: true; the input reads as it did. -/
def fnStackOneUptoRow : OpenClaim := { program := "ytabcmnoadoebpaa", sum := "f8d9d1a28cc112a52f9f25d850f7e704e149b10599449a46fd226292a3c8cf21", func := "loop.example/g00724/laws.FnStackOne", spec := "fnStackOne", unfollowed := true, recurses := true, apart := false, narrowed := true }
def FnStackOneUptoSaid : Prop := fnStackOneUptoRow.holds Try.pinned (OpenSpec.upto fnStackOneSpec)

/-- 'laws.FnExactStNew', WHERE WHAT IT READS IS OF BULK AT MOST 1048576: true; the input reads as it did. -/
def fnExactStNewUptoRow : OpenClaim := { program := "ytabcmnoadoebpaa", sum := "f8d9d1a28cc112a52f9f25d850f7e704e149b10599449a46fd226292a3c8cf21", func := "loop.example/g00724/laws.FnExactStNew", spec := "fnExactStNew", apart := false, narrowed := true }
def FnExactStNewUptoSaid : Prop := fnExactStNewUptoRow.holds Try.pinned (OpenSpec.upto fnExactStNewSpec)

/-- 'laws.FnExactStCall', WHERE WHAT IT READS IS OF BULK AT MOST 1048576: true; the input reads as it did. -/
def fnExactStCallUptoRow : OpenClaim := { program := "ytabcmnoadoebpaa", sum := "f8d9d1a28cc112a52f9f25d850f7e704e149b10599449a46fd226292a3c8cf21", func := "loop.example/g00724/laws.FnExactStCall", spec := "fnExactStCall", apart := false, narrowed := true }
def FnExactStCallUptoSaid : Prop := fnExactStCallUptoRow.holds Try.pinned (OpenSpec.upto fnExactStCallSpec)

/-- 'laws.FnExactStAct', WHERE WHAT IT READS IS OF BULK AT MOST 1048576: true; the input reads as it did. -/
def fnExactStActUptoRow : OpenClaim := { program := "ytabcmnoadoebpaa", sum := "f8d9d1a28cc112a52f9f25d850f7e704e149b10599449a46fd226292a3c8cf21", func := "loop.example/g00724/laws.FnExactStAct", spec := "fnExactStAct", apart := false, narrowed := true }
def FnExactStActUptoSaid : Prop := fnExactStActUptoRow.holds Try.pinned (OpenSpec.upto fnExactStActSpec)

/-- 'laws.FnExactStStep', WHERE WHAT IT READS IS OF BULK AT MOST 1048576: true; the input reads as it did. -/
def fnExactStStepUptoRow : OpenClaim := { program := "ytabcmnoadoebpaa", sum := "f8d9d1a28cc112a52f9f25d850f7e704e149b10599449a46fd226292a3c8cf21", func := "loop.example/g00724/laws.FnExactStStep", spec := "fnExactStStep", unfollowed := true, recurses := true, apart := false, narrowed := true }
def FnExactStStepUptoSaid : Prop := fnExactStStepUptoRow.holds Try.pinned (OpenSpec.upto fnExactStStepSpec)

/-- 'laws.FnExactStItems', WHERE WHAT IT READS IS OF BULK AT MOST 1048576: true; the input reads as it did. -/
def fnExactStItemsUptoRow : OpenClaim := { program := "ytabcmnoadoebpaa", sum := "f8d9d1a28cc112a52f9f25d850f7e704e149b10599449a46fd226292a3c8cf21", func := "loop.example/g00724/laws.FnExactStItems", spec := "fnExactStItems", unfollowed := true, recurses := true, apart := false, narrowed := true }
def FnExactStItemsUptoSaid : Prop := fnExactStItemsUptoRow.holds Try.pinned (OpenSpec.upto fnExactStItemsSpec)

end Rows
end Go.Proofs.Ytabcmnoadoebpaa
