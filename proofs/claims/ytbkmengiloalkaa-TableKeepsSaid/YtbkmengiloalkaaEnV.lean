/- Entries as values. -/
import Derived.Test.YtbkmengiloalkaaLbM
import Derived.Test.YtbkmengiloalkaaStr
import Derived.Test.YtbkmengiloalkaaGenS
import Derived.Test.YtbkmengiloalkaaGenT
import Derived.Test.YtbkmengiloalkaaRecEn
namespace Go.Proofs.Ytbkmengiloalkaa
set_option maxRecDepth 100000
open Go.RowKit

def entW (a b : Ent) : Bool := decide (a.name = b.name) && decide (a.id = b.id)

end Go.Proofs.Ytbkmengiloalkaa
