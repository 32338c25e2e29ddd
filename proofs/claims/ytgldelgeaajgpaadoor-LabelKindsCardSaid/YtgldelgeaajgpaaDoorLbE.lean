/- Package label, as landed, answers what layer 10's texts lean on. -/
import Derived.Test.YtgldelgeaajgpaaDoorLbA
import Derived.Test.YtgldelgeaajgpaaDoorLbW
import Derived.Test.YtgldelgeaajgpaaDoorLbO
import Derived.Test.YtgldelgeaajgpaaDoorLbU
namespace Go.Proofs.YtgldelgeaajgpaaDoor
open Go.RowKit

theorem label_is : LabelIs where
  name l w _ := labelName_any l w
  key l w _ := labelKey_any l w
  hex n w h := labelHex_any n h w
  number i w h1 h2 T := labelNumber_any i h1 h2 w T
  bytes A n cap b w hn h := labelBytes_any A n cap b hn w h
  readHex l w _ := labelReadHex_any l w
end Go.Proofs.YtgldelgeaajgpaaDoor
