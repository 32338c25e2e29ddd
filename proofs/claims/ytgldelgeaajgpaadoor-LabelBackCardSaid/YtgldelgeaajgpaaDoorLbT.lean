/- Package label, as landed: what LabelReads and LabelBack lean on besides. -/
import Derived.Test.YtgldelgeaajgpaaDoorLbC
import Derived.Test.YtgldelgeaajgpaaDoorLbZ
import Derived.Test.YtgldelgeaajgpaaDoorLbU
namespace Go.Proofs.YtgldelgeaajgpaaDoor
open Go.RowKit

theorem label_read : LabelReadIs where
  readBytes l w h := labelReadBytes_any l h w
  readNumber l w h T T2 := labelReadNumber_any l h w T T2
end Go.Proofs.YtgldelgeaajgpaaDoor
