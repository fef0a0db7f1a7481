/- A block looked up in a chain of worlds: plain lemmas. -/
import Derived.Test.YtikliofkplbdpaaRows
import Derived.WalkKit
import Derived.ProofKit
import Derived.OpenShut
import Derived.ShutString
import Derived.Test.YtikliofkplbdpaaBasePlain
namespace Go.Proofs.Ytikliofkplbdpaa
open Go.ChangeShapes Go.WideShapes Go.ChangeAt Go.RowKit
set_option linter.unusedVariables false

theorem at_new {W : World} {o : Obj} {k : Nat} (hk : k = W.heap.size) : (W.alloc o).heap[k]? = some o := by subst hk; exact heap_alloc_new _ _
theorem at_old {W : World} {o : Obj} {k : Nat} {x : Option Obj} (hk : k < W.heap.size) (h : W.heap[k]? = x) : (W.alloc o).heap[k]? = x := (Below.heap_alloc _ _ _ hk).trans h
theorem at_set {W : World} {p : Addr} {v : Value} {k : Nat} {x : Option Obj} (hk : k ≠ p.block) (h : W.heap[k]? = x) : (W.setCell p v).heap[k]? = x := (Below.heap_setCell _ _ _ _ hk).trans h
theorem at_drew {W : World} {k : Nat} {x : Option Obj} (h : W.heap[k]? = x) : W.drew.heap[k]? = x := h

end Go.Proofs.Ytikliofkplbdpaa
