/- The walk of StatNone. -/
import Derived.Test.YtnloedhcginopaaStaF
import Derived.Laws.StructEq
namespace Go.Proofs.Ytnloedhcginopaa.StaG
open Go.ChangeShapes Go.WideShapes Go.ChangeAt Go.RowKit Base WinM WinA WinB WinC WinD WinE WinF WinG WinH WinI WinJ WinK WinL StaA StaB StaC StaD StaE StaF WldF WldG

end Go.Proofs.Ytnloedhcginopaa.StaG
