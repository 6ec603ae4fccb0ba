/- Contracts of a load of one sample. -/
import Derived.Test.YtbihelpnojjacaaGreatClk
import Derived.OwnWalk
import Derived.BigQuiet
import Derived.Deep.QuietTactic
import Derived.WalkSmall
namespace Go.Proofs.YtbihelpnojjacaaGreat.WldB
open Go.ChangeShapes Go.WideShapes Go.ChangeAt Go.RowKit Base ClkM Clk

/-- a load of one sample lies in block b -/
def One (b : Nat) (x y z : Int) (w : World) : Prop :=
  ∃ g cap, w.cell? ⟨b, 0, none⟩ = some (.slice (some ⟨g, 0, none⟩) 1 cap) ∧ w.cell? ⟨g, 0, none⟩ = some (.int .i64 x) ∧ w.cell? ⟨g, 1, none⟩ = some (.int .i64 y) ∧ w.cell? ⟨g, 2, none⟩ = some (.int .i64 z)

theorem One.step {b : Nat} {x y z : Int} {w w' : World} (h : One b x y z w) (hb : Below w.heap.size w w') : One b x y z w' := by
  obtain ⟨g, cap, h1, h2, h3, h4⟩ := h
  have l1 := World.block_lt_of_cell? _ _ h1
  have l2 := World.block_lt_of_cell? _ _ h2
  exact ⟨g, cap, (hb.cell l1).trans h1, (hb.cell l2).trans h2, (hb.cell (p := ⟨g, 1, none⟩) l2).trans h3, (hb.cell (p := ⟨g, 2, none⟩) l2).trans h4⟩

end Go.Proofs.YtbihelpnojjacaaGreat.WldB
