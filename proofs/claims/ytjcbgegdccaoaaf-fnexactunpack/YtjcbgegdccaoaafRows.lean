/-
  No cell of these rows narrows 'for every input' (looked for: loops, veiled, ifaces, maps, wideKeys, modest, calm, conditions, laid).
  DERIVED. THE GIVEN ROWS OF THIS SEAT. 6 by the template 'for every input the law returns true; each argument reads behind the call as it read before'; 0 by the template 'total and deterministic' (their statements: YtjcbgegdccaoaafTotals.lean).
  GIVEN WITH THE SEED: the statements are not yours to turn. If you find one false, say at which input.
  Laid BY PROGRAM, IN A SANDBOX (cutbox-rows.mjs): the forced cells as the released guide's own fill.sh prints them over the translation 9ee1d7d729ef6f46… (all of the seat's roots in one cut). By AI agents, Wed Nov 11 2026. No macro, syntax, notation, axiom, sorry.
-/
import Derived.Test.YtjcbgegdccaoaafChecked
import GoSem.Claim
import GoSem.ClaimJoined
import GoSem.ClaimMapViews
import Derived.JoinedTies
import Derived.KernelRfl
namespace Go.Proofs.Ytjcbgegdccaoaaf
/- THE CELL 'sum', in the pinned program and in every row, IS THE sha256 OF THE DUMP (.gsa) THAT YtjcbgegdccaoaafProg.lean LOADS. Nothing in Lean hashes anything: it is a label: what it is worth is what the hold of that sum in a sandbox is worth. -/
noncomputable def Try.pinned : Pinned := { name := "ytjcbgegdccaoaaf", sum := "9ee1d7d729ef6f46cd488e80e9621ff14bba3b96c52dcf517b5a961d7a995860", checked := Try.checked }
namespace Rows
def none {H : Type} : Left H := { results := [], args := [] }

/-- 'laws.FnExactUnpack': WHATEVER THE INPUT: true; the input reads as it did. -/
def fnExactUnpackSpec : ChangeSpec := { name := "fnExactUnpack", fn := fun _ => fun
  | [d] => { results := [.lit (.bool true)], args := [d] }
  | _ => none }
def fnExactUnpackRow : OpenClaim := { program := "ytjcbgegdccaoaaf", sum := "9ee1d7d729ef6f46cd488e80e9621ff14bba3b96c52dcf517b5a961d7a995860", func := "loop.example/g00724/laws.FnExactUnpack", spec := "fnExactUnpack", apart := false }
def FnExactUnpackSaid : Prop := fnExactUnpackRow.holds Try.pinned (OpenSpec.ofChange fnExactUnpackSpec)

/-- ITS FALSE NEIGHBOUR: 'it returns false'. Refute it at one input. -/
def fnExactUnpackWrong : ChangeSpec := { name := "fnExactUnpack", fn := fun _ => fun
  | [d] => { results := [.lit (.bool false)], args := [d] }
  | _ => none }
def FnExactUnpackWrongFalsely : Prop := fnExactUnpackRow.holds Try.pinned (OpenSpec.ofChange fnExactUnpackWrong)

/-- 'laws.FnExactNextTag': WHATEVER THE INPUT: true; the input reads as it did. -/
def fnExactNextTagSpec : ChangeSpec := { name := "fnExactNextTag", fn := fun _ => fun
  | [d] => { results := [.lit (.bool true)], args := [d] }
  | _ => none }
def fnExactNextTagRow : OpenClaim := { program := "ytjcbgegdccaoaaf", sum := "9ee1d7d729ef6f46cd488e80e9621ff14bba3b96c52dcf517b5a961d7a995860", func := "loop.example/g00724/laws.FnExactNextTag", spec := "fnExactNextTag", apart := false }
def FnExactNextTagSaid : Prop := fnExactNextTagRow.holds Try.pinned (OpenSpec.ofChange fnExactNextTagSpec)

/-- ITS FALSE NEIGHBOUR: 'it returns false'. Refute it at one input. -/
def fnExactNextTagWrong : ChangeSpec := { name := "fnExactNextTag", fn := fun _ => fun
  | [d] => { results := [.lit (.bool false)], args := [d] }
  | _ => none }
def FnExactNextTagWrongFalsely : Prop := fnExactNextTagRow.holds Try.pinned (OpenSpec.ofChange fnExactNextTagWrong)

/-- 'laws.FnExactHash': WHATEVER THE INPUT: true; the input reads as it did. -/
def fnExactHashSpec : ChangeSpec := { name := "fnExactHash", fn := fun _ => fun
  | [d] => { results := [.lit (.bool true)], args := [d] }
  | _ => none }
def fnExactHashRow : OpenClaim := { program := "ytjcbgegdccaoaaf", sum := "9ee1d7d729ef6f46cd488e80e9621ff14bba3b96c52dcf517b5a961d7a995860", func := "loop.example/g00724/laws.FnExactHash", spec := "fnExactHash", apart := false }
def FnExactHashSaid : Prop := fnExactHashRow.holds Try.pinned (OpenSpec.ofChange fnExactHashSpec)

/-- ITS FALSE NEIGHBOUR: 'it returns false'. Refute it at one input. -/
def fnExactHashWrong : ChangeSpec := { name := "fnExactHash", fn := fun _ => fun
  | [d] => { results := [.lit (.bool false)], args := [d] }
  | _ => none }
def FnExactHashWrongFalsely : Prop := fnExactHashRow.holds Try.pinned (OpenSpec.ofChange fnExactHashWrong)

/-- 'laws.FnExactFlip': WHATEVER THE INPUT: true; the input reads as it did. -/
def fnExactFlipSpec : ChangeSpec := { name := "fnExactFlip", fn := fun _ => fun
  | [d] => { results := [.lit (.bool true)], args := [d] }
  | _ => none }
def fnExactFlipRow : OpenClaim := { program := "ytjcbgegdccaoaaf", sum := "9ee1d7d729ef6f46cd488e80e9621ff14bba3b96c52dcf517b5a961d7a995860", func := "loop.example/g00724/laws.FnExactFlip", spec := "fnExactFlip", apart := false }
def FnExactFlipSaid : Prop := fnExactFlipRow.holds Try.pinned (OpenSpec.ofChange fnExactFlipSpec)

/-- ITS FALSE NEIGHBOUR: 'it returns false'. Refute it at one input. -/
def fnExactFlipWrong : ChangeSpec := { name := "fnExactFlip", fn := fun _ => fun
  | [d] => { results := [.lit (.bool false)], args := [d] }
  | _ => none }
def FnExactFlipWrongFalsely : Prop := fnExactFlipRow.holds Try.pinned (OpenSpec.ofChange fnExactFlipWrong)

/-- 'laws.FnExactOrderKey': WHATEVER THE INPUT: true; the input reads as it did. -/
def fnExactOrderKeySpec : ChangeSpec := { name := "fnExactOrderKey", fn := fun _ => fun
  | [d] => { results := [.lit (.bool true)], args := [d] }
  | _ => none }
def fnExactOrderKeyRow : OpenClaim := { program := "ytjcbgegdccaoaaf", sum := "9ee1d7d729ef6f46cd488e80e9621ff14bba3b96c52dcf517b5a961d7a995860", func := "loop.example/g00724/laws.FnExactOrderKey", spec := "fnExactOrderKey", apart := false }
def FnExactOrderKeySaid : Prop := fnExactOrderKeyRow.holds Try.pinned (OpenSpec.ofChange fnExactOrderKeySpec)

/-- ITS FALSE NEIGHBOUR: 'it returns false'. Refute it at one input. -/
def fnExactOrderKeyWrong : ChangeSpec := { name := "fnExactOrderKey", fn := fun _ => fun
  | [d] => { results := [.lit (.bool false)], args := [d] }
  | _ => none }
def FnExactOrderKeyWrongFalsely : Prop := fnExactOrderKeyRow.holds Try.pinned (OpenSpec.ofChange fnExactOrderKeyWrong)

/-- 'laws.FnExactDummyKey': WHATEVER THE INPUT: true; the input reads as it did. -/
def fnExactDummyKeySpec : ChangeSpec := { name := "fnExactDummyKey", fn := fun _ => fun
  | [d] => { results := [.lit (.bool true)], args := [d] }
  | _ => none }
def fnExactDummyKeyRow : OpenClaim := { program := "ytjcbgegdccaoaaf", sum := "9ee1d7d729ef6f46cd488e80e9621ff14bba3b96c52dcf517b5a961d7a995860", func := "loop.example/g00724/laws.FnExactDummyKey", spec := "fnExactDummyKey", apart := false }
def FnExactDummyKeySaid : Prop := fnExactDummyKeyRow.holds Try.pinned (OpenSpec.ofChange fnExactDummyKeySpec)

/-- ITS FALSE NEIGHBOUR: 'it returns false'. Refute it at one input. -/
def fnExactDummyKeyWrong : ChangeSpec := { name := "fnExactDummyKey", fn := fun _ => fun
  | [d] => { results := [.lit (.bool false)], args := [d] }
  | _ => none }
def FnExactDummyKeyWrongFalsely : Prop := fnExactDummyKeyRow.holds Try.pinned (OpenSpec.ofChange fnExactDummyKeyWrong)

/- THE SECOND FORM. 'bulk': how many values and letters a reading holds, each counted each time it is reached (what is shared counts as often as it is met; a slice's spare places count too). A statement '..UptoSaid' is the law's where the arguments, and the package variables that the reading takes, are together of bulk at most 1048576: NARROWER than '..Said'. Prove '..Said' where nothing that the law and all that it calls make is longer than what came in: it says more and counts as full. Else prove '..UptoSaid'. A law counts once. -/
mutual
def uptoBulk {H : Type} : DataW H → Nat
  | .lit (.string bytes) => bytes.length + 1
  | .lit _ => 1
  | .nil => 1
  | .ptr d => uptoBulk d + 1
  | .slice elems spare => uptoBulkAll elems + uptoBulkAll spare + 1
  | .agg parts => uptoBulkAll parts + 1
  | .iface _ d => uptoBulk d + 1
  | .map entries => uptoBulkEntries entries + 1
  | .held _ => 1
def uptoBulkAll {H : Type} : List (DataW H) → Nat
  | [] => 0
  | d :: r => uptoBulk d + uptoBulkAll r
def uptoBulkEntries {H : Type} : List (Lit × DataW H) → Nat
  | [] => 0
  | x :: r => uptoBulkEntry x + uptoBulkEntries r
def uptoBulkEntry {H : Type} : Lit × DataW H → Nat
  | (.string bytes, d) => bytes.length + uptoBulk d + 1
  | (_, d) => uptoBulk d + 1
 end
def uptoSmall : (H : Type) → List (DataW H) → Bool := fun _ ds => decide (uptoBulkAll ds ≤ 1048576)
def OpenSpec.upto (s : _root_.Go.ChangeSpec) : _root_.Go.OpenSpec := { _root_.Go.OpenSpec.ofChange s with cond := some uptoSmall }

/-- 'laws.FnExactUnpack', WHERE WHAT IT READS IS OF BULK AT MOST 1048576: true; the input reads as it did. -/
def fnExactUnpackUptoRow : OpenClaim := { program := "ytjcbgegdccaoaaf", sum := "9ee1d7d729ef6f46cd488e80e9621ff14bba3b96c52dcf517b5a961d7a995860", func := "loop.example/g00724/laws.FnExactUnpack", spec := "fnExactUnpack", apart := false, narrowed := true }
def FnExactUnpackUptoSaid : Prop := fnExactUnpackUptoRow.holds Try.pinned (OpenSpec.upto fnExactUnpackSpec)

/-- 'laws.FnExactNextTag', WHERE WHAT IT READS IS OF BULK AT MOST 1048576: true; the input reads as it did. -/
def fnExactNextTagUptoRow : OpenClaim := { program := "ytjcbgegdccaoaaf", sum := "9ee1d7d729ef6f46cd488e80e9621ff14bba3b96c52dcf517b5a961d7a995860", func := "loop.example/g00724/laws.FnExactNextTag", spec := "fnExactNextTag", apart := false, narrowed := true }
def FnExactNextTagUptoSaid : Prop := fnExactNextTagUptoRow.holds Try.pinned (OpenSpec.upto fnExactNextTagSpec)

/-- 'laws.FnExactHash', WHERE WHAT IT READS IS OF BULK AT MOST 1048576: true; the input reads as it did. -/
def fnExactHashUptoRow : OpenClaim := { program := "ytjcbgegdccaoaaf", sum := "9ee1d7d729ef6f46cd488e80e9621ff14bba3b96c52dcf517b5a961d7a995860", func := "loop.example/g00724/laws.FnExactHash", spec := "fnExactHash", apart := false, narrowed := true }
def FnExactHashUptoSaid : Prop := fnExactHashUptoRow.holds Try.pinned (OpenSpec.upto fnExactHashSpec)

/-- 'laws.FnExactFlip', WHERE WHAT IT READS IS OF BULK AT MOST 1048576: true; the input reads as it did. -/
def fnExactFlipUptoRow : OpenClaim := { program := "ytjcbgegdccaoaaf", sum := "9ee1d7d729ef6f46cd488e80e9621ff14bba3b96c52dcf517b5a961d7a995860", func := "loop.example/g00724/laws.FnExactFlip", spec := "fnExactFlip", apart := false, narrowed := true }
def FnExactFlipUptoSaid : Prop := fnExactFlipUptoRow.holds Try.pinned (OpenSpec.upto fnExactFlipSpec)

/-- 'laws.FnExactOrderKey', WHERE WHAT IT READS IS OF BULK AT MOST 1048576: true; the input reads as it did. -/
def fnExactOrderKeyUptoRow : OpenClaim := { program := "ytjcbgegdccaoaaf", sum := "9ee1d7d729ef6f46cd488e80e9621ff14bba3b96c52dcf517b5a961d7a995860", func := "loop.example/g00724/laws.FnExactOrderKey", spec := "fnExactOrderKey", apart := false, narrowed := true }
def FnExactOrderKeyUptoSaid : Prop := fnExactOrderKeyUptoRow.holds Try.pinned (OpenSpec.upto fnExactOrderKeySpec)

/-- 'laws.FnExactDummyKey', WHERE WHAT IT READS IS OF BULK AT MOST 1048576: true; the input reads as it did. -/
def fnExactDummyKeyUptoRow : OpenClaim := { program := "ytjcbgegdccaoaaf", sum := "9ee1d7d729ef6f46cd488e80e9621ff14bba3b96c52dcf517b5a961d7a995860", func := "loop.example/g00724/laws.FnExactDummyKey", spec := "fnExactDummyKey", apart := false, narrowed := true }
def FnExactDummyKeyUptoSaid : Prop := fnExactDummyKeyUptoRow.holds Try.pinned (OpenSpec.upto fnExactDummyKeySpec)

end Rows
end Go.Proofs.Ytjcbgegdccaoaaf
