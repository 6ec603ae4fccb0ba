/- Contract of the document's Shuffle. -/
import Derived.Test.YthkpfjjcpifkcaaWldI
namespace Go.Proofs.Ythkpfjjcpifkcaa.WldJ
open Go.ChangeShapes Go.WideShapes Go.ChangeAt Go.RowKit Base ClkM Clk WldA WldF WldG WldH WldI

end Go.Proofs.Ythkpfjjcpifkcaa.WldJ
