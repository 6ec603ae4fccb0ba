/- Nothing of the shelf is wanted here. -/
import Derived.Test.YtaaeeilfpchpnaaProg
namespace Go.Proofs.Ytaaeeilfpchpnaa

end Go.Proofs.Ytaaeeilfpchpnaa
