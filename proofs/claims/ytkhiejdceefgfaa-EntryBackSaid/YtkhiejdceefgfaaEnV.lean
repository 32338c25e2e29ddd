/- Entries as values. -/
import Derived.Test.YtkhiejdceefgfaaLbM
import Derived.Test.YtkhiejdceefgfaaStr
import Derived.Test.YtkhiejdceefgfaaGenS
import Derived.Test.YtkhiejdceefgfaaGenT
import Derived.Test.YtkhiejdceefgfaaRecEn
namespace Go.Proofs.Ytkhiejdceefgfaa
open Go.RowKit

def entW (a b : Ent) : Bool := decide (a.name = b.name) && decide (a.id = b.id)

end Go.Proofs.Ytkhiejdceefgfaa
