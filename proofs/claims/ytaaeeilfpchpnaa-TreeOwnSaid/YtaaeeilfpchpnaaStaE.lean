/- The walk of live (stat). -/
import Derived.Test.YtaaeeilfpchpnaaStaD
namespace Go.Proofs.Ytaaeeilfpchpnaa.StaE
open Go.ChangeShapes Go.WideShapes Go.ChangeAt Go.RowKit Base WinM WinA WinB WinC WinD WinE WinF WinG WinH WinI WinJ WinK WinL StaA StaB StaC StaD WldF WldG

end Go.Proofs.Ytaaeeilfpchpnaa.StaE
