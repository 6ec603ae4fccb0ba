/- A warm-up's rule: its marks and its rate. -/
import Derived.Test.YtcmklahbophclaaWrmP
import Derived.Test.YtcmklahbophclaaNumC
import Derived.Test.YtcmklahbophclaaPlu
import Derived.Deep.RegionHeld3
import Derived.BigQuiet
namespace Go.Proofs.Ytcmklahbophclaa.WrmA
set_option linter.unusedVariables false
open Go.ChangeShapes Go.WideShapes Go.ChangeAt Go.RowKit Base WrmP NumM NumC NumA

theorem bl {w w1 w2 : World} (h : Below w.heap.size w w1) (h2 : Below w1.heap.size w1 w2) : Below w.heap.size w w2 := h.trans (h2.mono h.size)
theorem kc {w1 w2 : World} {p o : Nat} {v : Value} (h2 : Below w1.heap.size w1 w2) (h : w1.cell? ⟨p, o, none⟩ = some v) : w2.cell? ⟨p, o, none⟩ = some v :=
  (h2.cell (p := ⟨p, o, none⟩) (World.block_lt_of_cell? _ _ h)).trans h

def inW (n a b : Int) : Bool := decide (a ≤ n) && decide (n ≤ b)

end Go.Proofs.Ytcmklahbophclaa.WrmA
