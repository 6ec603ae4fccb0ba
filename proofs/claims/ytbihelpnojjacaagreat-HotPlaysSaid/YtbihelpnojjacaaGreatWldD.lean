/- The walk of live. -/
import Derived.Test.YtbihelpnojjacaaGreatWldA
import Derived.Test.YtbihelpnojjacaaGreatWldC
namespace Go.Proofs.YtbihelpnojjacaaGreat.WldD
open Go.ChangeShapes Go.WideShapes Go.ChangeAt Go.RowKit Base ClkM Clk WldA WldB WldC

theorem mix1 : mixN (stepN 0) = 16294208416658607535 := by decide +kernel
theorem mix2 : mixN (stepN (stepN 0)) = 7960286522194355700 := by decide +kernel

end Go.Proofs.YtbihelpnojjacaaGreat.WldD
