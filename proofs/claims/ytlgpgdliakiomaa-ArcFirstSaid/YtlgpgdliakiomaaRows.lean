/-
  No cell of these rows narrows 'for every input' (looked for: loops, veiled, ifaces, maps, wideKeys, modest, calm, conditions, laid).
  DERIVED. THE GIVEN ROWS OF THIS SEAT. 4 by the template 'for every input the law returns true; each argument reads behind the call as it read before'; 0 by the template 'total and deterministic' (their statements: YtlgpgdliakiomaaTotals.lean).
  GIVEN WITH THE SEED: the statements are not yours to turn. If you find one false, say at which input.
  Laid BY PROGRAM, IN A SANDBOX (cutbox-rows.mjs): the forced cells as the released guide's own fill.sh prints them over the translation 2ab22bfca91bdcaf… (all of the seat's roots in one cut). By AI agents, Wed Nov 11 2026. No macro, syntax, notation, axiom, sorry.
-/
import Derived.Test.YtlgpgdliakiomaaChecked
import GoSem.Claim
import GoSem.ClaimJoined
import GoSem.ClaimMapViews
import Derived.JoinedTies
import Derived.KernelRfl
namespace Go.Proofs.Ytlgpgdliakiomaa
/- THE CELL 'sum', in the pinned program and in every row, IS THE sha256 OF THE DUMP (.gsa) THAT YtlgpgdliakiomaaProg.lean LOADS. Nothing in Lean hashes anything: it is a label: what it is worth is what the hold of that sum in a sandbox is worth. -/
noncomputable def Try.pinned : Pinned := { name := "ytlgpgdliakiomaa", sum := "2ab22bfca91bdcaf7ed1013fab0ce858429d31f26730fa6f7c7aef2922547744", checked := Try.checked }
namespace Rows
def none {H : Type} : Left H := { results := [], args := [] }

/-- 'carcanetlaw09.ArcWays': WHATEVER THE INPUT: true; the input reads as it did. -/
def arcWaysSpec : ChangeSpec := { name := "arcWays", fn := fun _ => fun
  | [d1, d2, d3, d4] => { results := [.lit (.bool true)], args := [d1, d2, d3, d4] }
  | _ => none }
def arcWaysRow : OpenClaim := { program := "ytlgpgdliakiomaa", sum := "2ab22bfca91bdcaf7ed1013fab0ce858429d31f26730fa6f7c7aef2922547744", func := "carcanet/carcanetlaw09.ArcWays", spec := "arcWays", unfollowed := true, recurses := true, apart := false }
def ArcWaysSaid : Prop := arcWaysRow.holds Try.pinned (OpenSpec.ofChange arcWaysSpec)

/-- ITS FALSE NEIGHBOUR: 'it returns false'. Refute it at one input. -/
def arcWaysWrong : ChangeSpec := { name := "arcWays", fn := fun _ => fun
  | [d1, d2, d3, d4] => { results := [.lit (.bool false)], args := [d1, d2, d3, d4] }
  | _ => none }
def ArcWaysWrongFalsely : Prop := arcWaysRow.holds Try.pinned (OpenSpec.ofChange arcWaysWrong)

/-- 'carcanetlaw09.ArcOrders': WHATEVER THE INPUT: true; the input reads as it did. -/
def arcOrdersSpec : ChangeSpec := { name := "arcOrders", fn := fun _ => fun
  | [d1, d2] => { results := [.lit (.bool true)], args := [d1, d2] }
  | _ => none }
def arcOrdersRow : OpenClaim := { program := "ytlgpgdliakiomaa", sum := "2ab22bfca91bdcaf7ed1013fab0ce858429d31f26730fa6f7c7aef2922547744", func := "carcanet/carcanetlaw09.ArcOrders", spec := "arcOrders", unfollowed := true, recurses := true, apart := false }
def ArcOrdersSaid : Prop := arcOrdersRow.holds Try.pinned (OpenSpec.ofChange arcOrdersSpec)

/-- ITS FALSE NEIGHBOUR: 'it returns false'. Refute it at one input. -/
def arcOrdersWrong : ChangeSpec := { name := "arcOrders", fn := fun _ => fun
  | [d1, d2] => { results := [.lit (.bool false)], args := [d1, d2] }
  | _ => none }
def ArcOrdersWrongFalsely : Prop := arcOrdersRow.holds Try.pinned (OpenSpec.ofChange arcOrdersWrong)

/-- 'carcanetlaw09.ArcRound': WHATEVER THE INPUT: true; the input reads as it did. -/
def arcRoundSpec : ChangeSpec := { name := "arcRound", fn := fun _ => fun
  | [d1, d2, d3] => { results := [.lit (.bool true)], args := [d1, d2, d3] }
  | _ => none }
def arcRoundRow : OpenClaim := { program := "ytlgpgdliakiomaa", sum := "2ab22bfca91bdcaf7ed1013fab0ce858429d31f26730fa6f7c7aef2922547744", func := "carcanet/carcanetlaw09.ArcRound", spec := "arcRound", unfollowed := true, recurses := true, apart := false }
def ArcRoundSaid : Prop := arcRoundRow.holds Try.pinned (OpenSpec.ofChange arcRoundSpec)

/-- ITS FALSE NEIGHBOUR: 'it returns false'. Refute it at one input. -/
def arcRoundWrong : ChangeSpec := { name := "arcRound", fn := fun _ => fun
  | [d1, d2, d3] => { results := [.lit (.bool false)], args := [d1, d2, d3] }
  | _ => none }
def ArcRoundWrongFalsely : Prop := arcRoundRow.holds Try.pinned (OpenSpec.ofChange arcRoundWrong)

/-- 'carcanetlaw09.ArcFirst': WHATEVER THE INPUT: true; the input reads as it did. -/
def arcFirstSpec : ChangeSpec := { name := "arcFirst", fn := fun _ => fun
  | [d1, d2] => { results := [.lit (.bool true)], args := [d1, d2] }
  | _ => none }
def arcFirstRow : OpenClaim := { program := "ytlgpgdliakiomaa", sum := "2ab22bfca91bdcaf7ed1013fab0ce858429d31f26730fa6f7c7aef2922547744", func := "carcanet/carcanetlaw09.ArcFirst", spec := "arcFirst", unfollowed := true, recurses := true, apart := false }
def ArcFirstSaid : Prop := arcFirstRow.holds Try.pinned (OpenSpec.ofChange arcFirstSpec)

/-- ITS FALSE NEIGHBOUR: 'it returns false'. Refute it at one input. -/
def arcFirstWrong : ChangeSpec := { name := "arcFirst", fn := fun _ => fun
  | [d1, d2] => { results := [.lit (.bool false)], args := [d1, d2] }
  | _ => none }
def ArcFirstWrongFalsely : Prop := arcFirstRow.holds Try.pinned (OpenSpec.ofChange arcFirstWrong)

/- THE SECOND FORM. 'bulk': how many values and letters a reading holds, each counted each time it is reached (what is shared counts as often as it is met; a slice's spare places count too). A statement '..UptoSaid' is the law's where the arguments, and the package variables that the reading takes, are together of bulk at most 1048576: NARROWER than '..Said'. Prove '..Said' where nothing that the law and all that it calls make is longer than what came in: it says more and counts as full. Else prove '..UptoSaid'. A law counts once. -/
mutual
def uptoBulk {H : Type} : DataW H → Nat
  | .lit (.string bytes) => bytes.length + 1
  | .lit _ => 1
  | .nil => 1
  | .ptr d => uptoBulk d + 1
  | .slice elems spare => uptoBulkAll elems + uptoBulkAll spare + 1
  | .agg parts => uptoBulkAll parts + 1
  | .iface _ d => uptoBulk d + 1
  | .map entries => uptoBulkEntries entries + 1
  | .held _ => 1
def uptoBulkAll {H : Type} : List (DataW H) → Nat
  | [] => 0
  | d :: r => uptoBulk d + uptoBulkAll r
def uptoBulkEntries {H : Type} : List (Lit × DataW H) → Nat
  | [] => 0
  | x :: r => uptoBulkEntry x + uptoBulkEntries r
def uptoBulkEntry {H : Type} : Lit × DataW H → Nat
  | (.string bytes, d) => bytes.length + uptoBulk d + 1
  | (_, d) => uptoBulk d + 1
 end
def uptoSmall : (H : Type) → List (DataW H) → Bool := fun _ ds => decide (uptoBulkAll ds ≤ 1048576)
def OpenSpec.upto (s : _root_.Go.ChangeSpec) : _root_.Go.OpenSpec := { _root_.Go.OpenSpec.ofChange s with cond := some uptoSmall }

/-- 'carcanetlaw09.ArcWays', WHERE WHAT IT READS IS OF BULK AT MOST 1048576: true; the input reads as it did. -/
def arcWaysUptoRow : OpenClaim := { program := "ytlgpgdliakiomaa", sum := "2ab22bfca91bdcaf7ed1013fab0ce858429d31f26730fa6f7c7aef2922547744", func := "carcanet/carcanetlaw09.ArcWays", spec := "arcWays", unfollowed := true, recurses := true, apart := false, narrowed := true }
def ArcWaysUptoSaid : Prop := arcWaysUptoRow.holds Try.pinned (OpenSpec.upto arcWaysSpec)

/-- 'carcanetlaw09.ArcOrders', WHERE WHAT IT READS IS OF BULK AT MOST 1048576: true; the input reads as it did. -/
def arcOrdersUptoRow : OpenClaim := { program := "ytlgpgdliakiomaa", sum := "2ab22bfca91bdcaf7ed1013fab0ce858429d31f26730fa6f7c7aef2922547744", func := "carcanet/carcanetlaw09.ArcOrders", spec := "arcOrders", unfollowed := true, recurses := true, apart := false, narrowed := true }
def ArcOrdersUptoSaid : Prop := arcOrdersUptoRow.holds Try.pinned (OpenSpec.upto arcOrdersSpec)

/-- 'carcanetlaw09.ArcRound', WHERE WHAT IT READS IS OF BULK AT MOST 1048576: true; the input reads as it did. -/
def arcRoundUptoRow : OpenClaim := { program := "ytlgpgdliakiomaa", sum := "2ab22bfca91bdcaf7ed1013fab0ce858429d31f26730fa6f7c7aef2922547744", func := "carcanet/carcanetlaw09.ArcRound", spec := "arcRound", unfollowed := true, recurses := true, apart := false, narrowed := true }
def ArcRoundUptoSaid : Prop := arcRoundUptoRow.holds Try.pinned (OpenSpec.upto arcRoundSpec)

/-- 'carcanetlaw09.ArcFirst', WHERE WHAT IT READS IS OF BULK AT MOST 1048576: true; the input reads as it did. -/
def arcFirstUptoRow : OpenClaim := { program := "ytlgpgdliakiomaa", sum := "2ab22bfca91bdcaf7ed1013fab0ce858429d31f26730fa6f7c7aef2922547744", func := "carcanet/carcanetlaw09.ArcFirst", spec := "arcFirst", unfollowed := true, recurses := true, apart := false, narrowed := true }
def ArcFirstUptoSaid : Prop := arcFirstUptoRow.holds Try.pinned (OpenSpec.upto arcFirstSpec)

end Rows
end Go.Proofs.Ytlgpgdliakiomaa
