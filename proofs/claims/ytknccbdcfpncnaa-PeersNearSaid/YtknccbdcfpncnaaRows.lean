/-
  No cell of these rows narrows 'for every input' (looked for: loops, veiled, ifaces, maps, wideKeys, modest, calm, conditions, laid).
  DERIVED. THE GIVEN ROWS OF THIS SEAT. 4 by the template 'for every input the law returns true; each argument reads behind the call as it read before'; 0 by the template 'total and deterministic' (their statements: YtknccbdcfpncnaaTotals.lean).
  GIVEN WITH THE SEED: the statements are not yours to turn. If you find one false, say at which input.
  Laid BY PROGRAM, IN A SANDBOX (cutbox-rows.mjs): the forced cells as the released guide's own fill.sh prints them over the translation 93e1a9ff8749a9f9… (all of the seat's roots in one cut). By AI agents, Wed Nov 11 2026. No macro, syntax, notation, axiom, sorry.
-/
import Derived.Test.YtknccbdcfpncnaaChecked
import GoSem.Claim
import GoSem.ClaimJoined
import GoSem.ClaimMapViews
import Derived.JoinedTies
import Derived.KernelRfl
namespace Go.Proofs.Ytknccbdcfpncnaa
/- THE CELL 'sum', in the pinned program and in every row, IS THE sha256 OF THE DUMP (.gsa) THAT YtknccbdcfpncnaaProg.lean LOADS. Nothing in Lean hashes anything: it is a label: what it is worth is what the hold of that sum in a sandbox is worth. -/
noncomputable def Try.pinned : Pinned := { name := "ytknccbdcfpncnaa", sum := "93e1a9ff8749a9f932b3ad9ddeb820687bb3abbab8db947888dfbe1f0e27a527", checked := Try.checked }
namespace Rows
def none {H : Type} : Left H := { results := [], args := [] }

/-- 'carcanetlaw24.PeersAdds': WHATEVER THE INPUT: true; the input reads as it did. -/
def peersAddsSpec : ChangeSpec := { name := "peersAdds", fn := fun _ => fun
  | [d1, d2, d3, d4] => { results := [.lit (.bool true)], args := [d1, d2, d3, d4] }
  | _ => none }
def peersAddsRow : OpenClaim := { program := "ytknccbdcfpncnaa", sum := "93e1a9ff8749a9f932b3ad9ddeb820687bb3abbab8db947888dfbe1f0e27a527", func := "carcanet/carcanetlaw24.PeersAdds", spec := "peersAdds", unfollowed := true, recurses := true, apart := false }
def PeersAddsSaid : Prop := peersAddsRow.holds Try.pinned (OpenSpec.ofChange peersAddsSpec)

/-- ITS FALSE NEIGHBOUR: 'it returns false'. Refute it at one input. -/
def peersAddsWrong : ChangeSpec := { name := "peersAdds", fn := fun _ => fun
  | [d1, d2, d3, d4] => { results := [.lit (.bool false)], args := [d1, d2, d3, d4] }
  | _ => none }
def PeersAddsWrongFalsely : Prop := peersAddsRow.holds Try.pinned (OpenSpec.ofChange peersAddsWrong)

/-- 'carcanetlaw24.PeersOwns': WHATEVER THE INPUT: true; the input reads as it did. -/
def peersOwnsSpec : ChangeSpec := { name := "peersOwns", fn := fun _ => fun
  | [d1, d2, d3, d4] => { results := [.lit (.bool true)], args := [d1, d2, d3, d4] }
  | _ => none }
def peersOwnsRow : OpenClaim := { program := "ytknccbdcfpncnaa", sum := "93e1a9ff8749a9f932b3ad9ddeb820687bb3abbab8db947888dfbe1f0e27a527", func := "carcanet/carcanetlaw24.PeersOwns", spec := "peersOwns", unfollowed := true, recurses := true, apart := false }
def PeersOwnsSaid : Prop := peersOwnsRow.holds Try.pinned (OpenSpec.ofChange peersOwnsSpec)

/-- ITS FALSE NEIGHBOUR: 'it returns false'. Refute it at one input. -/
def peersOwnsWrong : ChangeSpec := { name := "peersOwns", fn := fun _ => fun
  | [d1, d2, d3, d4] => { results := [.lit (.bool false)], args := [d1, d2, d3, d4] }
  | _ => none }
def PeersOwnsWrongFalsely : Prop := peersOwnsRow.holds Try.pinned (OpenSpec.ofChange peersOwnsWrong)

/-- 'carcanetlaw24.PeersRight': WHATEVER THE INPUT: true; the input reads as it did. -/
def peersRightSpec : ChangeSpec := { name := "peersRight", fn := fun _ => fun
  | [d1, d2, d3] => { results := [.lit (.bool true)], args := [d1, d2, d3] }
  | _ => none }
def peersRightRow : OpenClaim := { program := "ytknccbdcfpncnaa", sum := "93e1a9ff8749a9f932b3ad9ddeb820687bb3abbab8db947888dfbe1f0e27a527", func := "carcanet/carcanetlaw24.PeersRight", spec := "peersRight", unfollowed := true, recurses := true, apart := false }
def PeersRightSaid : Prop := peersRightRow.holds Try.pinned (OpenSpec.ofChange peersRightSpec)

/-- ITS FALSE NEIGHBOUR: 'it returns false'. Refute it at one input. -/
def peersRightWrong : ChangeSpec := { name := "peersRight", fn := fun _ => fun
  | [d1, d2, d3] => { results := [.lit (.bool false)], args := [d1, d2, d3] }
  | _ => none }
def PeersRightWrongFalsely : Prop := peersRightRow.holds Try.pinned (OpenSpec.ofChange peersRightWrong)

/-- 'carcanetlaw24.PeersNear': WHATEVER THE INPUT: true; the input reads as it did. -/
def peersNearSpec : ChangeSpec := { name := "peersNear", fn := fun _ => fun
  | [d1, d2, d3] => { results := [.lit (.bool true)], args := [d1, d2, d3] }
  | _ => none }
def peersNearRow : OpenClaim := { program := "ytknccbdcfpncnaa", sum := "93e1a9ff8749a9f932b3ad9ddeb820687bb3abbab8db947888dfbe1f0e27a527", func := "carcanet/carcanetlaw24.PeersNear", spec := "peersNear", unfollowed := true, recurses := true, apart := false }
def PeersNearSaid : Prop := peersNearRow.holds Try.pinned (OpenSpec.ofChange peersNearSpec)

/-- ITS FALSE NEIGHBOUR: 'it returns false'. Refute it at one input. -/
def peersNearWrong : ChangeSpec := { name := "peersNear", fn := fun _ => fun
  | [d1, d2, d3] => { results := [.lit (.bool false)], args := [d1, d2, d3] }
  | _ => none }
def PeersNearWrongFalsely : Prop := peersNearRow.holds Try.pinned (OpenSpec.ofChange peersNearWrong)

/- THE SECOND FORM. 'bulk': how many values and letters a reading holds, each counted each time it is reached (what is shared counts as often as it is met; a slice's spare places count too). A statement '..UptoSaid' is the law's where the arguments, and the package variables that the reading takes, are together of bulk at most 1048576: NARROWER than '..Said'. Prove '..Said' where nothing that the law and all that it calls make is longer than what came in: it says more and counts as full. Else prove '..UptoSaid'. A law counts once. -/
mutual
def uptoBulk {H : Type} : DataW H → Nat
  | .lit (.string bytes) => bytes.length + 1
  | .lit _ => 1
  | .nil => 1
  | .ptr d => uptoBulk d + 1
  | .slice elems spare => uptoBulkAll elems + uptoBulkAll spare + 1
  | .agg parts => uptoBulkAll parts + 1
  | .iface _ d => uptoBulk d + 1
  | .map entries => uptoBulkEntries entries + 1
  | .held _ => 1
def uptoBulkAll {H : Type} : List (DataW H) → Nat
  | [] => 0
  | d :: r => uptoBulk d + uptoBulkAll r
def uptoBulkEntries {H : Type} : List (Lit × DataW H) → Nat
  | [] => 0
  | x :: r => uptoBulkEntry x + uptoBulkEntries r
def uptoBulkEntry {H : Type} : Lit × DataW H → Nat
  | (.string bytes, d) => bytes.length + uptoBulk d + 1
  | (_, d) => uptoBulk d + 1
 end
def uptoSmall : (H : Type) → List (DataW H) → Bool := fun _ ds => decide (uptoBulkAll ds ≤ 1048576)
def OpenSpec.upto (s : _root_.Go.ChangeSpec) : _root_.Go.OpenSpec := { _root_.Go.OpenSpec.ofChange s with cond := some uptoSmall }

/-- 'carcanetlaw24.PeersAdds', WHERE WHAT IT READS IS OF BULK AT MOST 1048576: true; the input reads as it did. -/
def peersAddsUptoRow : OpenClaim := { program := "ytknccbdcfpncnaa", sum := "93e1a9ff8749a9f932b3ad9ddeb820687bb3abbab8db947888dfbe1f0e27a527", func := "carcanet/carcanetlaw24.PeersAdds", spec := "peersAdds", unfollowed := true, recurses := true, apart := false, narrowed := true }
def PeersAddsUptoSaid : Prop := peersAddsUptoRow.holds Try.pinned (OpenSpec.upto peersAddsSpec)

/-- 'carcanetlaw24.PeersOwns', WHERE WHAT IT READS IS OF BULK AT MOST 1048576: true; the input reads as it did. -/
def peersOwnsUptoRow : OpenClaim := { program := "ytknccbdcfpncnaa", sum := "93e1a9ff8749a9f932b3ad9ddeb820687bb3abbab8db947888dfbe1f0e27a527", func := "carcanet/carcanetlaw24.PeersOwns", spec := "peersOwns", unfollowed := true, recurses := true, apart := false, narrowed := true }
def PeersOwnsUptoSaid : Prop := peersOwnsUptoRow.holds Try.pinned (OpenSpec.upto peersOwnsSpec)

/-- 'carcanetlaw24.PeersRight', WHERE WHAT IT READS IS OF BULK AT MOST 1048576: true; the input reads as it did. -/
def peersRightUptoRow : OpenClaim := { program := "ytknccbdcfpncnaa", sum := "93e1a9ff8749a9f932b3ad9ddeb820687bb3abbab8db947888dfbe1f0e27a527", func := "carcanet/carcanetlaw24.PeersRight", spec := "peersRight", unfollowed := true, recurses := true, apart := false, narrowed := true }
def PeersRightUptoSaid : Prop := peersRightUptoRow.holds Try.pinned (OpenSpec.upto peersRightSpec)

/-- 'carcanetlaw24.PeersNear', WHERE WHAT IT READS IS OF BULK AT MOST 1048576: true; the input reads as it did. -/
def peersNearUptoRow : OpenClaim := { program := "ytknccbdcfpncnaa", sum := "93e1a9ff8749a9f932b3ad9ddeb820687bb3abbab8db947888dfbe1f0e27a527", func := "carcanet/carcanetlaw24.PeersNear", spec := "peersNear", unfollowed := true, recurses := true, apart := false, narrowed := true }
def PeersNearUptoSaid : Prop := peersNearUptoRow.holds Try.pinned (OpenSpec.upto peersNearSpec)

end Rows
end Go.Proofs.Ytknccbdcfpncnaa
