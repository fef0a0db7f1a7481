/- A step of a stack's call, plainly. -/
import Derived.Test.YtabcmnoadoebpaaRows
import Derived.WalkKit
import Derived.ProofKit
import Derived.OpenShut
import Derived.ShutString
import Derived.Test.YtabcmnoadoebpaaStackPlain
namespace Go.Proofs.Ytabcmnoadoebpaa
open Go.ChangeShapes Go.WideShapes Go.ChangeAt Go.RowKit
set_option linter.unusedVariables false

def stHead (t : Int) : Int := if unB t = true then t else 0
def inIx (t : Int) : Int := if 0 ≤ t ∧ t ≤ 1048575 then t else 0
def stAfter (c : Cl) (told : Int) : Cl :=
  if c.pc = 0 then (if c.k = 2 ∧ unI (stHead told) = 0 then { c with pc := 1, w := stHead told, r := 2, d := true } else { c with pc := 1, w := stHead told })
  else if c.pc = 1 then (if c.k = 2 then { c with pc := 2, c := inIx told } else { c with pc := 2 })
  else if told = 0 then { c with pc := 0 }
  else if c.k = 2 then { c with pc := 3, v := stPlace c, r := 1, d := true } else { c with pc := 3, r := 1, d := true }
def stepB (n : Int) (xs : List Int) (c : Cl) (a : Ac) : Bool := actB xs.length a.k a.t a.a a.b && decide ((xs.length : Int) = 1 + n)

end Go.Proofs.Ytabcmnoadoebpaa
