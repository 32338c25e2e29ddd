/-
  No cell of these rows narrows 'for every input' (looked for: loops, veiled, ifaces, maps, wideKeys, modest, calm, conditions, laid).
  DERIVED. THE GIVEN ROWS OF THIS SEAT. 3 by the template 'for every input the law returns true; each argument reads behind the call as it read before'; 0 by the template 'total and deterministic' (their statements: YtafhdclbmbnmmaaTotals.lean).
  GIVEN WITH THE SEED: the statements are not yours to turn. If you find one false, say at which input.
  Laid BY PROGRAM, IN A SANDBOX (cutbox-rows.mjs): the forced cells as the released guide's own fill.sh prints them over the translation 8fafc81c061f1371… (all of the seat's roots in one cut). By AI agents, Wed Nov 11 2026. No macro, syntax, notation, axiom, sorry.
-/
import Derived.Test.YtafhdclbmbnmmaaChecked
import GoSem.Claim
import GoSem.ClaimJoined
import GoSem.ClaimMapViews
import Derived.JoinedTies
import Derived.KernelRfl
namespace Go.Proofs.Ytafhdclbmbnmmaa
/- THE CELL 'sum', in the pinned program and in every row, IS THE sha256 OF THE DUMP (.gsa) THAT YtafhdclbmbnmmaaProg.lean LOADS. Nothing in Lean hashes anything: it is a label: what it is worth is what the hold of that sum in a sandbox is worth. -/
noncomputable def Try.pinned : Pinned := { name := "ytafhdclbmbnmmaa", sum := "8fafc81c061f137149722d0e34b4016a006aed2e06359076c26bbb43ba1423b2", checked := Try.checked }
namespace Rows
def none {H : Type} : Left H := { results := [], args := [] }

/-- 'carcanetlaw02.EqualTells': WHATEVER THE INPUT: true; the input reads as it did. -/
def equalTellsSpec : ChangeSpec := { name := "equalTells", fn := fun _ => fun
  | [d1, d2, d3] => { results := [.lit (.bool true)], args := [d1, d2, d3] }
  | _ => none }
def equalTellsRow : OpenClaim := { program := "ytafhdclbmbnmmaa", sum := "8fafc81c061f137149722d0e34b4016a006aed2e06359076c26bbb43ba1423b2", func := "carcanet/carcanetlaw02.EqualTells", spec := "equalTells", apart := false }
def EqualTellsSaid : Prop := equalTellsRow.holds Try.pinned (OpenSpec.ofChange equalTellsSpec)

/-- ITS FALSE NEIGHBOUR: 'it returns false'. Refute it at one input. -/
def equalTellsWrong : ChangeSpec := { name := "equalTells", fn := fun _ => fun
  | [d1, d2, d3] => { results := [.lit (.bool false)], args := [d1, d2, d3] }
  | _ => none }
def EqualTellsWrongFalsely : Prop := equalTellsRow.holds Try.pinned (OpenSpec.ofChange equalTellsWrong)

/-- 'carcanetlaw02.EqualBack': WHATEVER THE INPUT: true; the input reads as it did. -/
def equalBackSpec : ChangeSpec := { name := "equalBack", fn := fun _ => fun
  | [d1, d2] => { results := [.lit (.bool true)], args := [d1, d2] }
  | _ => none }
def equalBackRow : OpenClaim := { program := "ytafhdclbmbnmmaa", sum := "8fafc81c061f137149722d0e34b4016a006aed2e06359076c26bbb43ba1423b2", func := "carcanet/carcanetlaw02.EqualBack", spec := "equalBack", apart := false }
def EqualBackSaid : Prop := equalBackRow.holds Try.pinned (OpenSpec.ofChange equalBackSpec)

/-- ITS FALSE NEIGHBOUR: 'it returns false'. Refute it at one input. -/
def equalBackWrong : ChangeSpec := { name := "equalBack", fn := fun _ => fun
  | [d1, d2] => { results := [.lit (.bool false)], args := [d1, d2] }
  | _ => none }
def EqualBackWrongFalsely : Prop := equalBackRow.holds Try.pinned (OpenSpec.ofChange equalBackWrong)

/-- 'carcanetlaw02.EqualOne': WHATEVER THE INPUT: true; the input reads as it did. -/
def equalOneSpec : ChangeSpec := { name := "equalOne", fn := fun _ => fun
  | [d1, d2, d3] => { results := [.lit (.bool true)], args := [d1, d2, d3] }
  | _ => none }
def equalOneRow : OpenClaim := { program := "ytafhdclbmbnmmaa", sum := "8fafc81c061f137149722d0e34b4016a006aed2e06359076c26bbb43ba1423b2", func := "carcanet/carcanetlaw02.EqualOne", spec := "equalOne", apart := false }
def EqualOneSaid : Prop := equalOneRow.holds Try.pinned (OpenSpec.ofChange equalOneSpec)

/-- ITS FALSE NEIGHBOUR: 'it returns false'. Refute it at one input. -/
def equalOneWrong : ChangeSpec := { name := "equalOne", fn := fun _ => fun
  | [d1, d2, d3] => { results := [.lit (.bool false)], args := [d1, d2, d3] }
  | _ => none }
def EqualOneWrongFalsely : Prop := equalOneRow.holds Try.pinned (OpenSpec.ofChange equalOneWrong)

/- THE SECOND FORM. 'bulk': how many values and letters a reading holds, each counted each time it is reached (what is shared counts as often as it is met; a slice's spare places count too). A statement '..UptoSaid' is the law's where the arguments, and the package variables that the reading takes, are together of bulk at most 1048576: NARROWER than '..Said'. Prove '..Said' where nothing that the law and all that it calls make is longer than what came in: it says more and counts as full. Else prove '..UptoSaid'. A law counts once. -/
mutual
def uptoBulk {H : Type} : DataW H → Nat
  | .lit (.string bytes) => bytes.length + 1
  | .lit _ => 1
  | .nil => 1
  | .ptr d => uptoBulk d + 1
  | .slice elems spare => uptoBulkAll elems + uptoBulkAll spare + 1
  | .agg parts => uptoBulkAll parts + 1
  | .iface _ d => uptoBulk d + 1
  | .map entries => uptoBulkEntries entries + 1
  | .held _ => 1
def uptoBulkAll {H : Type} : List (DataW H) → Nat
  | [] => 0
  | d :: r => uptoBulk d + uptoBulkAll r
def uptoBulkEntries {H : Type} : List (Lit × DataW H) → Nat
  | [] => 0
  | x :: r => uptoBulkEntry x + uptoBulkEntries r
def uptoBulkEntry {H : Type} : Lit × DataW H → Nat
  | (.string bytes, d) => bytes.length + uptoBulk d + 1
  | (_, d) => uptoBulk d + 1
 end
def uptoSmall : (H : Type) → List (DataW H) → Bool := fun _ ds => decide (uptoBulkAll ds ≤ 1048576)
def OpenSpec.upto (s : _root_.Go.ChangeSpec) : _root_.Go.OpenSpec := { _root_.Go.OpenSpec.ofChange s with cond := some uptoSmall }

/-- 'carcanetlaw02.EqualTells', WHERE WHAT IT READS IS OF BULK AT MOST 1048576: true; the input reads as it did. -/
def equalTellsUptoRow : OpenClaim := { program := "ytafhdclbmbnmmaa", sum := "8fafc81c061f137149722d0e34b4016a006aed2e06359076c26bbb43ba1423b2", func := "carcanet/carcanetlaw02.EqualTells", spec := "equalTells", apart := false, narrowed := true }
def EqualTellsUptoSaid : Prop := equalTellsUptoRow.holds Try.pinned (OpenSpec.upto equalTellsSpec)

/-- 'carcanetlaw02.EqualBack', WHERE WHAT IT READS IS OF BULK AT MOST 1048576: true; the input reads as it did. -/
def equalBackUptoRow : OpenClaim := { program := "ytafhdclbmbnmmaa", sum := "8fafc81c061f137149722d0e34b4016a006aed2e06359076c26bbb43ba1423b2", func := "carcanet/carcanetlaw02.EqualBack", spec := "equalBack", apart := false, narrowed := true }
def EqualBackUptoSaid : Prop := equalBackUptoRow.holds Try.pinned (OpenSpec.upto equalBackSpec)

/-- 'carcanetlaw02.EqualOne', WHERE WHAT IT READS IS OF BULK AT MOST 1048576: true; the input reads as it did. -/
def equalOneUptoRow : OpenClaim := { program := "ytafhdclbmbnmmaa", sum := "8fafc81c061f137149722d0e34b4016a006aed2e06359076c26bbb43ba1423b2", func := "carcanet/carcanetlaw02.EqualOne", spec := "equalOne", apart := false, narrowed := true }
def EqualOneUptoSaid : Prop := equalOneUptoRow.holds Try.pinned (OpenSpec.upto equalOneSpec)

end Rows
end Go.Proofs.Ytafhdclbmbnmmaa
