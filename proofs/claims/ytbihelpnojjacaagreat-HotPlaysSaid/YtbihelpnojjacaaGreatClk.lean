/- Contracts of a clock: isTime, NewClock, Now, Tick, for every time and ticks. -/
import Derived.Test.YtbihelpnojjacaaGreatBase
import Derived.Test.YtbihelpnojjacaaGreatClkM
namespace Go.Proofs.YtbihelpnojjacaaGreat.Clk
open Go.ChangeShapes Go.WideShapes Go.ChangeAt Go.RowKit Base ClkM

/-- what a Tick of a clock in block b comes to -/
def TickPost (b : Nat) (r : Option Int) (w : World) (e : Ending) (w' : World) : Prop :=
  match r with
  | some t => e = .returned (.tuple #[.int .i64 t, .int .i64 0]) ∧ w.setCell ⟨b, 0, none⟩ (.int .i64 t) = w'
  | none => e = .returned (.tuple #[.int .i64 0, .int .i64 2]) ∧ w = w'

theorem TickPost.some' {b : Nat} {r : Option Int} {w : World} {e : Ending} {w' : World} {t : Int} (hr : r = some t) (h : e = .returned (.tuple #[.int .i64 t, .int .i64 0]) ∧ w.setCell ⟨b, 0, none⟩ (.int .i64 t) = w') : TickPost b r w e w' := by subst hr; exact h
theorem TickPost.none' {b : Nat} {r : Option Int} {w : World} {e : Ending} {w' : World} (hr : r = none) (h : e = .returned (.tuple #[.int .i64 0, .int .i64 2]) ∧ w = w') : TickPost b r w e w' := by subst hr; exact h

end Go.Proofs.YtbihelpnojjacaaGreat.Clk
