/- Package entry, as landed, answers as EntryIs says. -/
import Derived.Test.YtkhiejdceefgfaaEnA
import Derived.Test.YtkhiejdceefgfaaEnP
import Derived.Test.YtkhiejdceefgfaaEnQ
import Derived.Test.YtkhiejdceefgfaaEnS
import Derived.Test.YtkhiejdceefgfaaEnT
namespace Go.Proofs.Ytkhiejdceefgfaa
open Go.RowKit

theorem entry_is : EntryIs where
  right := right_any
  body a w hn _ := (body_any a hn w).mono fun _ _ ⟨v, h1, h2, h3⟩ => ⟨v, h1, BytesAt.of_own h2, h3⟩
  bytes a w hn ht _ := bytes_any a hn ht w
  read A n cap b w _ h := read_any A n cap b w h
  who := who_any
  find A m cap l n w hm h := find_any A m cap l n w hm h
end Go.Proofs.Ytkhiejdceefgfaa
