/- Contracts of Add and NewLoad of one sample. -/
import Derived.Test.YtbihelpnojjacaaGreatWldB
namespace Go.Proofs.YtbihelpnojjacaaGreat.WldC
open Go.ChangeShapes Go.WideShapes Go.ChangeAt Go.RowKit Base ClkM Clk WldB

theorem new_at (W : World) (cs : Array Value) (t : TypeId) (n i : Nat) (v : Value) (hn : n = W.heap.size) (hv : cs[i]? = some v) : (W.alloc (.cells cs t)).drew.cell? ⟨n, i, none⟩ = some v := by
  subst hn
  exact (World.cell?_alloc_new _ cs t i).trans hv

end Go.Proofs.YtbihelpnojjacaaGreat.WldC
