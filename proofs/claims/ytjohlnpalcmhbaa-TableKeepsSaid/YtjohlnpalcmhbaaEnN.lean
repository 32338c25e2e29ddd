/- The document's Find. -/
import Derived.Test.YtjohlnpalcmhbaaEnO
import Derived.Deep.LoopGhost
namespace Go.Proofs.Ytjohlnpalcmhbaa
set_option maxRecDepth 100000
open Go.RowKit

def findE (n : List UInt8) : List Ent → Nat → Int
  | [], _ => -1
  | e :: l, k => if e.name = n then (k : Int) else findE n l (k + 1)

end Go.Proofs.Ytjohlnpalcmhbaa
