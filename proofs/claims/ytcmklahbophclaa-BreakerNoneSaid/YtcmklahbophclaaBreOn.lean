/- Breakers: a law from what comes in. -/
import Derived.Test.YtcmklahbophclaaBreO
namespace Go.Proofs.Ytcmklahbophclaa.BreOn
set_option linter.unusedVariables false
open Go.ChangeShapes Go.WideShapes Go.ChangeAt Go.RowKit Base BreP BreA

theorem main {W : World} (a0 : Int) (w0 : (Lit.int .i64 a0).wf = true) (a1 : Int) (w1 : (Lit.int .i64 a1).wf = true) :
    Calls Try.prog 7 #[.int .i64 a0, .int .i64 a1] W fun e w' => e = .returned (.bool true) ∧ Below W.heap.size W w' := by
  exact BreL.core_none BreO.nils a0 a1 W
end Go.Proofs.Ytcmklahbophclaa.BreOn
