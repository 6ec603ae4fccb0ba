/- The walk of live (stat). -/
import Derived.Test.YtnloedhcginopaaStaD
namespace Go.Proofs.Ytnloedhcginopaa.StaE
open Go.ChangeShapes Go.WideShapes Go.ChangeAt Go.RowKit Base WinM WinA WinB WinC WinD WinE WinF WinG WinH WinI WinJ WinK WinL StaA StaB StaC StaD WldF WldG

end Go.Proofs.Ytnloedhcginopaa.StaE
