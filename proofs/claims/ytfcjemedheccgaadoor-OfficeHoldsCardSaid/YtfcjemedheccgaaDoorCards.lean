/-
  DERIVED. GIVEN WITH THE SEED: THE CARDS: each row of YtfcjemedheccgaaDoorRows.lean that lists a variable, with what it lists TIED to the program's text (the seventh form; the later family's looks); each row that meets fmt, with fmt's text TOLD by the authors' own Lean function (tested against real Go, not proved from fmt's source: count such statements apart). THE CARD IS WHAT COUNTS. Prove the row's statement (the work); the ties are given (YtfcjemedheccgaaDoorTie.lean); close each card by the builder's one call (the guide's Derived/Test/ToyasCard.lean, 'card_holds'). Laid BY PROGRAM, IN A SANDBOX (cutbox-door.mjs). By AI agents, Wed Nov 11 2026. No macro, syntax, notation, axiom, sorry.
-/
import Derived.Test.YtfcjemedheccgaaDoorRows
import GoSem.ClaimSeven
namespace Go.Proofs.YtfcjemedheccgaaDoor
namespace Rows

/-- THE TIED CARD OF 'carcanetlaw14.OfficePlays'. -/
def officePlaysCard : Claim7 := { stood := { row := officePlaysRow, standIns := [], harness := (true, "655095a773e8adfe9184c4404c63308e3fec5f85af5d571c3555256226138d40"), looks := false }, kinds := [], alts := [], laidByText := true, laidKinds := [.data], laidTests := true, laidLooks := .later }
def OfficePlaysCardSaid : Prop := Claim7.holds Tryd.pinned (.plain (OpenSpec.ofChange officePlaysSpec)) officePlaysCard

/-- THE TIED CARD OF 'carcanetlaw14.OfficeNames'. -/
def officeNamesCard : Claim7 := { stood := { row := officeNamesRow, standIns := [], harness := (true, "655095a773e8adfe9184c4404c63308e3fec5f85af5d571c3555256226138d40"), looks := false }, kinds := [], alts := [], laidByText := true, laidKinds := [.data], laidTests := true, laidLooks := .later }
def OfficeNamesCardSaid : Prop := Claim7.holds Tryd.pinned (.plain (OpenSpec.ofChange officeNamesSpec)) officeNamesCard

/-- THE TIED CARD OF 'carcanetlaw14.OfficeHolds'. -/
def officeHoldsCard : Claim7 := { stood := { row := officeHoldsRow, standIns := [], harness := (true, "655095a773e8adfe9184c4404c63308e3fec5f85af5d571c3555256226138d40"), looks := false }, kinds := [], alts := [], laidByText := true, laidKinds := [.data], laidTests := true, laidLooks := .later }
def OfficeHoldsCardSaid : Prop := Claim7.holds Tryd.pinned (.plain (OpenSpec.ofChange officeHoldsSpec)) officeHoldsCard

/-- THE SECOND FORM's CARD OF 'carcanetlaw14.OfficePlays'. -/
def officePlaysUptoCard : Claim7 := { stood := { row := officePlaysUptoRow, standIns := [], harness := (true, "655095a773e8adfe9184c4404c63308e3fec5f85af5d571c3555256226138d40"), looks := false }, kinds := [], alts := [], laidByText := true, laidKinds := [.data], laidTests := true, laidLooks := .later }
def OfficePlaysUptoCardSaid : Prop := Claim7.holds Tryd.pinned (.plain (OpenSpec.upto officePlaysSpec)) officePlaysUptoCard

/-- THE SECOND FORM's CARD OF 'carcanetlaw14.OfficeNames'. -/
def officeNamesUptoCard : Claim7 := { stood := { row := officeNamesUptoRow, standIns := [], harness := (true, "655095a773e8adfe9184c4404c63308e3fec5f85af5d571c3555256226138d40"), looks := false }, kinds := [], alts := [], laidByText := true, laidKinds := [.data], laidTests := true, laidLooks := .later }
def OfficeNamesUptoCardSaid : Prop := Claim7.holds Tryd.pinned (.plain (OpenSpec.upto officeNamesSpec)) officeNamesUptoCard

/-- THE SECOND FORM's CARD OF 'carcanetlaw14.OfficeHolds'. -/
def officeHoldsUptoCard : Claim7 := { stood := { row := officeHoldsUptoRow, standIns := [], harness := (true, "655095a773e8adfe9184c4404c63308e3fec5f85af5d571c3555256226138d40"), looks := false }, kinds := [], alts := [], laidByText := true, laidKinds := [.data], laidTests := true, laidLooks := .later }
def OfficeHoldsUptoCardSaid : Prop := Claim7.holds Tryd.pinned (.plain (OpenSpec.upto officeHoldsSpec)) officeHoldsUptoCard
end Rows
end Go.Proofs.YtfcjemedheccgaaDoor
