/- Entries as values. -/
import Derived.Test.YtjohlnpalcmhbaaLbM
import Derived.Test.YtjohlnpalcmhbaaStr
import Derived.Test.YtjohlnpalcmhbaaGenS
import Derived.Test.YtjohlnpalcmhbaaGenT
import Derived.Test.YtjohlnpalcmhbaaRecEn
namespace Go.Proofs.Ytjohlnpalcmhbaa
set_option maxRecDepth 100000
open Go.RowKit

def entW (a b : Ent) : Bool := decide (a.name = b.name) && decide (a.id = b.id)

end Go.Proofs.Ytjohlnpalcmhbaa
