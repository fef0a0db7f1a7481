/-
  No cell of these rows narrows 'for every input' (looked for: loops, veiled, ifaces, maps, wideKeys, modest, calm, conditions, laid).
  DERIVED. THE GIVEN ROWS OF THIS SEAT. 6 by the template 'for every input the law returns true; each argument reads behind the call as it read before'; 0 by the template 'total and deterministic' (their statements: YtijmjpjclhgaoaaTotals.lean).
  GIVEN WITH THE SEED: the statements are not yours to turn. If you find one false, say at which input.
  Laid BY PROGRAM, IN A SANDBOX (cutbox-rows.mjs): the forced cells as the released guide's own fill.sh prints them over the translation 2a089e9dff3b7455… (all of the seat's roots in one cut). By AI agents, Wed Nov 11 2026. No macro, syntax, notation, axiom, sorry.
-/
import Derived.Test.YtijmjpjclhgaoaaChecked
import GoSem.Claim
import GoSem.ClaimJoined
import GoSem.ClaimMapViews
import Derived.JoinedTies
import Derived.KernelRfl
namespace Go.Proofs.Ytijmjpjclhgaoaa
/- THE CELL 'sum', in the pinned program and in every row, IS THE sha256 OF THE DUMP (.gsa) THAT YtijmjpjclhgaoaaProg.lean LOADS. Nothing in Lean hashes anything: it is a label: what it is worth is what the hold of that sum in a sandbox is worth. -/
noncomputable def Try.pinned : Pinned := { name := "ytijmjpjclhgaoaa", sum := "2a089e9dff3b7455836e13df5602c40b431d507351cda95bd8367f423b34ba03", checked := Try.checked }
namespace Rows
def none {H : Type} : Left H := { results := [], args := [] }

/-- 'laws.FnExactItemOk': WHATEVER THE INPUT: true; the input reads as it did. -/
def fnExactItemOkSpec : ChangeSpec := { name := "fnExactItemOk", fn := fun _ => fun
  | [d] => { results := [.lit (.bool true)], args := [d] }
  | _ => none }
def fnExactItemOkRow : OpenClaim := { program := "ytijmjpjclhgaoaa", sum := "2a089e9dff3b7455836e13df5602c40b431d507351cda95bd8367f423b34ba03", func := "loop.example/g00724/laws.FnExactItemOk", spec := "fnExactItemOk", inPlace := ["internal/bytealg.IndexByteString", "internal/bytealg.IndexString"], named := ["internal/bytealg.MaxLen"], apart := false }
def FnExactItemOkSaid : Prop := fnExactItemOkRow.holds Try.pinned (OpenSpec.ofChange fnExactItemOkSpec)

/-- ITS FALSE NEIGHBOUR: 'it returns false'. Refute it at one input. -/
def fnExactItemOkWrong : ChangeSpec := { name := "fnExactItemOk", fn := fun _ => fun
  | [d] => { results := [.lit (.bool false)], args := [d] }
  | _ => none }
def FnExactItemOkWrongFalsely : Prop := fnExactItemOkRow.holds Try.pinned (OpenSpec.ofChange fnExactItemOkWrong)

/-- 'laws.FnExactThreeOk': WHATEVER THE INPUT: true; the input reads as it did. -/
def fnExactThreeOkSpec : ChangeSpec := { name := "fnExactThreeOk", fn := fun _ => fun
  | [d] => { results := [.lit (.bool true)], args := [d] }
  | _ => none }
def fnExactThreeOkRow : OpenClaim := { program := "ytijmjpjclhgaoaa", sum := "2a089e9dff3b7455836e13df5602c40b431d507351cda95bd8367f423b34ba03", func := "loop.example/g00724/laws.FnExactThreeOk", spec := "fnExactThreeOk", inPlace := ["internal/bytealg.IndexByteString", "internal/bytealg.IndexString"], named := ["internal/bytealg.MaxLen"], apart := false }
def FnExactThreeOkSaid : Prop := fnExactThreeOkRow.holds Try.pinned (OpenSpec.ofChange fnExactThreeOkSpec)

/-- ITS FALSE NEIGHBOUR: 'it returns false'. Refute it at one input. -/
def fnExactThreeOkWrong : ChangeSpec := { name := "fnExactThreeOk", fn := fun _ => fun
  | [d] => { results := [.lit (.bool false)], args := [d] }
  | _ => none }
def FnExactThreeOkWrongFalsely : Prop := fnExactThreeOkRow.holds Try.pinned (OpenSpec.ofChange fnExactThreeOkWrong)

/-- 'laws.FnExactThreeNew': WHATEVER THE INPUT: true; the input reads as it did. -/
def fnExactThreeNewSpec : ChangeSpec := { name := "fnExactThreeNew", fn := fun _ => fun
  | [d1, d2] => { results := [.lit (.bool true)], args := [d1, d2] }
  | _ => none }
def fnExactThreeNewRow : OpenClaim := { program := "ytijmjpjclhgaoaa", sum := "2a089e9dff3b7455836e13df5602c40b431d507351cda95bd8367f423b34ba03", func := "loop.example/g00724/laws.FnExactThreeNew", spec := "fnExactThreeNew", inPlace := ["internal/bytealg.IndexByteString", "internal/bytealg.IndexString"], named := ["internal/bytealg.MaxLen"], apart := false }
def FnExactThreeNewSaid : Prop := fnExactThreeNewRow.holds Try.pinned (OpenSpec.ofChange fnExactThreeNewSpec)

/-- ITS FALSE NEIGHBOUR: 'it returns false'. Refute it at one input. -/
def fnExactThreeNewWrong : ChangeSpec := { name := "fnExactThreeNew", fn := fun _ => fun
  | [d1, d2] => { results := [.lit (.bool false)], args := [d1, d2] }
  | _ => none }
def FnExactThreeNewWrongFalsely : Prop := fnExactThreeNewRow.holds Try.pinned (OpenSpec.ofChange fnExactThreeNewWrong)

/-- 'laws.FnExactGet': WHATEVER THE INPUT: true; the input reads as it did. -/
def fnExactGetSpec : ChangeSpec := { name := "fnExactGet", fn := fun _ => fun
  | [d1, d2] => { results := [.lit (.bool true)], args := [d1, d2] }
  | _ => none }
def fnExactGetRow : OpenClaim := { program := "ytijmjpjclhgaoaa", sum := "2a089e9dff3b7455836e13df5602c40b431d507351cda95bd8367f423b34ba03", func := "loop.example/g00724/laws.FnExactGet", spec := "fnExactGet", inPlace := ["internal/bytealg.IndexByteString", "internal/bytealg.IndexString"], unfollowed := true, recurses := true, named := ["internal/bytealg.MaxLen"], apart := false }
def FnExactGetSaid : Prop := fnExactGetRow.holds Try.pinned (OpenSpec.ofChange fnExactGetSpec)

/-- ITS FALSE NEIGHBOUR: 'it returns false'. Refute it at one input. -/
def fnExactGetWrong : ChangeSpec := { name := "fnExactGet", fn := fun _ => fun
  | [d1, d2] => { results := [.lit (.bool false)], args := [d1, d2] }
  | _ => none }
def FnExactGetWrongFalsely : Prop := fnExactGetRow.holds Try.pinned (OpenSpec.ofChange fnExactGetWrong)

/-- 'laws.FnExactEvictMain': WHATEVER THE INPUT: true; the input reads as it did. -/
def fnExactEvictMainSpec : ChangeSpec := { name := "fnExactEvictMain", fn := fun _ => fun
  | [d] => { results := [.lit (.bool true)], args := [d] }
  | _ => none }
def fnExactEvictMainRow : OpenClaim := { program := "ytijmjpjclhgaoaa", sum := "2a089e9dff3b7455836e13df5602c40b431d507351cda95bd8367f423b34ba03", func := "loop.example/g00724/laws.FnExactEvictMain", spec := "fnExactEvictMain", inPlace := ["internal/bytealg.IndexByteString", "internal/bytealg.IndexString"], unfollowed := true, recurses := true, named := ["internal/bytealg.MaxLen"], apart := false }
def FnExactEvictMainSaid : Prop := fnExactEvictMainRow.holds Try.pinned (OpenSpec.ofChange fnExactEvictMainSpec)

/-- ITS FALSE NEIGHBOUR: 'it returns false'. Refute it at one input. -/
def fnExactEvictMainWrong : ChangeSpec := { name := "fnExactEvictMain", fn := fun _ => fun
  | [d] => { results := [.lit (.bool false)], args := [d] }
  | _ => none }
def FnExactEvictMainWrongFalsely : Prop := fnExactEvictMainRow.holds Try.pinned (OpenSpec.ofChange fnExactEvictMainWrong)

/-- 'laws.FnExactDrop': WHATEVER THE INPUT: true; the input reads as it did. -/
def fnExactDropSpec : ChangeSpec := { name := "fnExactDrop", fn := fun _ => fun
  | [d1, d2] => { results := [.lit (.bool true)], args := [d1, d2] }
  | _ => none }
def fnExactDropRow : OpenClaim := { program := "ytijmjpjclhgaoaa", sum := "2a089e9dff3b7455836e13df5602c40b431d507351cda95bd8367f423b34ba03", func := "loop.example/g00724/laws.FnExactDrop", spec := "fnExactDrop", inPlace := ["internal/bytealg.IndexByteString", "internal/bytealg.IndexString"], unfollowed := true, recurses := true, named := ["internal/bytealg.MaxLen"], apart := false }
def FnExactDropSaid : Prop := fnExactDropRow.holds Try.pinned (OpenSpec.ofChange fnExactDropSpec)

/-- ITS FALSE NEIGHBOUR: 'it returns false'. Refute it at one input. -/
def fnExactDropWrong : ChangeSpec := { name := "fnExactDrop", fn := fun _ => fun
  | [d1, d2] => { results := [.lit (.bool false)], args := [d1, d2] }
  | _ => none }
def FnExactDropWrongFalsely : Prop := fnExactDropRow.holds Try.pinned (OpenSpec.ofChange fnExactDropWrong)

/- THE SECOND FORM. 'bulk': how many values and letters a reading holds, each counted each time it is reached (what is shared counts as often as it is met; a slice's spare places count too). A statement '..UptoSaid' is the law's where the arguments, and the package variables that the reading takes, are together of bulk at most 1048576: NARROWER than '..Said'. Prove '..Said' where nothing that the law and all that it calls make is longer than what came in: it says more and counts as full. Else prove '..UptoSaid'. A law counts once. -/
mutual
def uptoBulk {H : Type} : DataW H → Nat
  | .lit (.string bytes) => bytes.length + 1
  | .lit _ => 1
  | .nil => 1
  | .ptr d => uptoBulk d + 1
  | .slice elems spare => uptoBulkAll elems + uptoBulkAll spare + 1
  | .agg parts => uptoBulkAll parts + 1
  | .iface _ d => uptoBulk d + 1
  | .map entries => uptoBulkEntries entries + 1
  | .held _ => 1
def uptoBulkAll {H : Type} : List (DataW H) → Nat
  | [] => 0
  | d :: r => uptoBulk d + uptoBulkAll r
def uptoBulkEntries {H : Type} : List (Lit × DataW H) → Nat
  | [] => 0
  | x :: r => uptoBulkEntry x + uptoBulkEntries r
def uptoBulkEntry {H : Type} : Lit × DataW H → Nat
  | (.string bytes, d) => bytes.length + uptoBulk d + 1
  | (_, d) => uptoBulk d + 1
 end
def uptoSmall : (H : Type) → List (DataW H) → Bool := fun _ ds => decide (uptoBulkAll ds ≤ 1048576)
def OpenSpec.upto (s : _root_.Go.ChangeSpec) : _root_.Go.OpenSpec := { _root_.Go.OpenSpec.ofChange s with cond := some uptoSmall }

/-- 'laws.FnExactItemOk', WHERE WHAT IT READS IS OF BULK AT MOST 1048576: true; the input reads as it did. -/
def fnExactItemOkUptoRow : OpenClaim := { program := "ytijmjpjclhgaoaa", sum := "2a089e9dff3b7455836e13df5602c40b431d507351cda95bd8367f423b34ba03", func := "loop.example/g00724/laws.FnExactItemOk", spec := "fnExactItemOk", inPlace := ["internal/bytealg.IndexByteString", "internal/bytealg.IndexString"], named := ["internal/bytealg.MaxLen"], apart := false, narrowed := true }
def FnExactItemOkUptoSaid : Prop := fnExactItemOkUptoRow.holds Try.pinned (OpenSpec.upto fnExactItemOkSpec)

/-- 'laws.FnExactThreeOk', WHERE WHAT IT READS IS OF BULK AT MOST 1048576: true; the input reads as it did. -/
def fnExactThreeOkUptoRow : OpenClaim := { program := "ytijmjpjclhgaoaa", sum := "2a089e9dff3b7455836e13df5602c40b431d507351cda95bd8367f423b34ba03", func := "loop.example/g00724/laws.FnExactThreeOk", spec := "fnExactThreeOk", inPlace := ["internal/bytealg.IndexByteString", "internal/bytealg.IndexString"], named := ["internal/bytealg.MaxLen"], apart := false, narrowed := true }
def FnExactThreeOkUptoSaid : Prop := fnExactThreeOkUptoRow.holds Try.pinned (OpenSpec.upto fnExactThreeOkSpec)

/-- 'laws.FnExactThreeNew', WHERE WHAT IT READS IS OF BULK AT MOST 1048576: true; the input reads as it did. -/
def fnExactThreeNewUptoRow : OpenClaim := { program := "ytijmjpjclhgaoaa", sum := "2a089e9dff3b7455836e13df5602c40b431d507351cda95bd8367f423b34ba03", func := "loop.example/g00724/laws.FnExactThreeNew", spec := "fnExactThreeNew", inPlace := ["internal/bytealg.IndexByteString", "internal/bytealg.IndexString"], named := ["internal/bytealg.MaxLen"], apart := false, narrowed := true }
def FnExactThreeNewUptoSaid : Prop := fnExactThreeNewUptoRow.holds Try.pinned (OpenSpec.upto fnExactThreeNewSpec)

/-- 'laws.FnExactGet', WHERE WHAT IT READS IS OF BULK AT MOST 1048576: true; the input reads as it did. -/
def fnExactGetUptoRow : OpenClaim := { program := "ytijmjpjclhgaoaa", sum := "2a089e9dff3b7455836e13df5602c40b431d507351cda95bd8367f423b34ba03", func := "loop.example/g00724/laws.FnExactGet", spec := "fnExactGet", inPlace := ["internal/bytealg.IndexByteString", "internal/bytealg.IndexString"], unfollowed := true, recurses := true, named := ["internal/bytealg.MaxLen"], apart := false, narrowed := true }
def FnExactGetUptoSaid : Prop := fnExactGetUptoRow.holds Try.pinned (OpenSpec.upto fnExactGetSpec)

/-- 'laws.FnExactEvictMain', WHERE WHAT IT READS IS OF BULK AT MOST 1048576: true; the input reads as it did. -/
def fnExactEvictMainUptoRow : OpenClaim := { program := "ytijmjpjclhgaoaa", sum := "2a089e9dff3b7455836e13df5602c40b431d507351cda95bd8367f423b34ba03", func := "loop.example/g00724/laws.FnExactEvictMain", spec := "fnExactEvictMain", inPlace := ["internal/bytealg.IndexByteString", "internal/bytealg.IndexString"], unfollowed := true, recurses := true, named := ["internal/bytealg.MaxLen"], apart := false, narrowed := true }
def FnExactEvictMainUptoSaid : Prop := fnExactEvictMainUptoRow.holds Try.pinned (OpenSpec.upto fnExactEvictMainSpec)

/-- 'laws.FnExactDrop', WHERE WHAT IT READS IS OF BULK AT MOST 1048576: true; the input reads as it did. -/
def fnExactDropUptoRow : OpenClaim := { program := "ytijmjpjclhgaoaa", sum := "2a089e9dff3b7455836e13df5602c40b431d507351cda95bd8367f423b34ba03", func := "loop.example/g00724/laws.FnExactDrop", spec := "fnExactDrop", inPlace := ["internal/bytealg.IndexByteString", "internal/bytealg.IndexString"], unfollowed := true, recurses := true, named := ["internal/bytealg.MaxLen"], apart := false, narrowed := true }
def FnExactDropUptoSaid : Prop := fnExactDropUptoRow.holds Try.pinned (OpenSpec.upto fnExactDropSpec)

end Rows
end Go.Proofs.Ytijmjpjclhgaoaa
