/-
  DERIVED. GIVEN WITH THE SEED: THE CARDS: each row of YtkaeiahenpimbaaDoorRows.lean that lists a variable, with what it lists TIED to the program's text (the seventh form; the later family's looks); each row that meets fmt, with fmt's text TOLD by the authors' own Lean function (tested against real Go, not proved from fmt's source: count such statements apart). THE CARD IS WHAT COUNTS. Prove the row's statement (the work); the ties are given (YtkaeiahenpimbaaDoorTie.lean); close each card by the builder's one call (the guide's Derived/Test/ToyasCard.lean, 'card_holds'). Laid BY PROGRAM, IN A SANDBOX (cutbox-door.mjs). By AI agents, Wed Nov 11 2026. No macro, syntax, notation, axiom, sorry.
-/
import Derived.Test.YtkaeiahenpimbaaDoorRows
import GoSem.ClaimSeven
namespace Go.Proofs.YtkaeiahenpimbaaDoor
namespace Rows

/-- THE TIED CARD OF 'carcanetlaw04.MacSums'. -/
def macSumsCard : Claim7 := { stood := { row := macSumsRow, standIns := [], harness := (true, "c2792173907cb4263b58ea06a600f4b1a288a632bb4782c3dbf3a395fe556097"), looks := false }, kinds := [], alts := [], laidByText := true, laidKinds := [.data], laidTests := true, laidLooks := .later }
def MacSumsCardSaid : Prop := Claim7.holds Tryd.pinned (.plain (OpenSpec.ofChange macSumsSpec)) macSumsCard

/-- THE TIED CARD OF 'carcanetlaw04.MacTagged'. -/
def macTaggedCard : Claim7 := { stood := { row := macTaggedRow, standIns := [], harness := (true, "c2792173907cb4263b58ea06a600f4b1a288a632bb4782c3dbf3a395fe556097"), looks := false }, kinds := [], alts := [], laidByText := true, laidKinds := [.data], laidTests := true, laidLooks := .later }
def MacTaggedCardSaid : Prop := Claim7.holds Tryd.pinned (.plain (OpenSpec.ofChange macTaggedSpec)) macTaggedCard

/-- THE TIED CARD OF 'carcanetlaw04.MacKeys'. -/
def macKeysCard : Claim7 := { stood := { row := macKeysRow, standIns := [], harness := (true, "c2792173907cb4263b58ea06a600f4b1a288a632bb4782c3dbf3a395fe556097"), looks := false }, kinds := [], alts := [], laidByText := true, laidKinds := [.data], laidTests := true, laidLooks := .later }
def MacKeysCardSaid : Prop := Claim7.holds Tryd.pinned (.plain (OpenSpec.ofChange macKeysSpec)) macKeysCard

/-- THE SECOND FORM's CARD OF 'carcanetlaw04.MacSums'. -/
def macSumsUptoCard : Claim7 := { stood := { row := macSumsUptoRow, standIns := [], harness := (true, "c2792173907cb4263b58ea06a600f4b1a288a632bb4782c3dbf3a395fe556097"), looks := false }, kinds := [], alts := [], laidByText := true, laidKinds := [.data], laidTests := true, laidLooks := .later }
def MacSumsUptoCardSaid : Prop := Claim7.holds Tryd.pinned (.plain (OpenSpec.upto macSumsSpec)) macSumsUptoCard

/-- THE SECOND FORM's CARD OF 'carcanetlaw04.MacTagged'. -/
def macTaggedUptoCard : Claim7 := { stood := { row := macTaggedUptoRow, standIns := [], harness := (true, "c2792173907cb4263b58ea06a600f4b1a288a632bb4782c3dbf3a395fe556097"), looks := false }, kinds := [], alts := [], laidByText := true, laidKinds := [.data], laidTests := true, laidLooks := .later }
def MacTaggedUptoCardSaid : Prop := Claim7.holds Tryd.pinned (.plain (OpenSpec.upto macTaggedSpec)) macTaggedUptoCard

/-- THE SECOND FORM's CARD OF 'carcanetlaw04.MacKeys'. -/
def macKeysUptoCard : Claim7 := { stood := { row := macKeysUptoRow, standIns := [], harness := (true, "c2792173907cb4263b58ea06a600f4b1a288a632bb4782c3dbf3a395fe556097"), looks := false }, kinds := [], alts := [], laidByText := true, laidKinds := [.data], laidTests := true, laidLooks := .later }
def MacKeysUptoCardSaid : Prop := Claim7.holds Tryd.pinned (.plain (OpenSpec.upto macKeysSpec)) macKeysUptoCard
end Rows
end Go.Proofs.YtkaeiahenpimbaaDoor
