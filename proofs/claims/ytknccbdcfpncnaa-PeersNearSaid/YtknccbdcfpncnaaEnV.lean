/- Entries as values. -/
import Derived.Test.YtknccbdcfpncnaaLbM
import Derived.Test.YtknccbdcfpncnaaStr
import Derived.Test.YtknccbdcfpncnaaGenS
import Derived.Test.YtknccbdcfpncnaaGenT
import Derived.Test.YtknccbdcfpncnaaRecEn
namespace Go.Proofs.Ytknccbdcfpncnaa
set_option maxRecDepth 100000
open Go.RowKit

def entW (a b : Ent) : Bool := decide (a.name = b.name) && decide (a.id = b.id)

end Go.Proofs.Ytknccbdcfpncnaa
