/-
  DERIVED. GIVEN WITH THE SEED: THE CARDS: each row of YtehalcopkjfdkaaDoorRows.lean that lists a variable, with what it lists TIED to the program's text (the seventh form; the later family's looks); each row that meets fmt, with fmt's text TOLD by the authors' own Lean function (tested against real Go, not proved from fmt's source: count such statements apart). THE CARD IS WHAT COUNTS. Prove the row's statement (the work); the ties are given (YtehalcopkjfdkaaDoorTie.lean); close each card by the builder's one call (the guide's Derived/Test/ToyasCard.lean, 'card_holds'). Laid BY PROGRAM, IN A SANDBOX (cutbox-door.mjs). By AI agents, Wed Nov 11 2026. No macro, syntax, notation, axiom, sorry.
-/
import Derived.Test.YtehalcopkjfdkaaDoorRows
import GoSem.ClaimSeven
namespace Go.Proofs.YtehalcopkjfdkaaDoor
namespace Rows

/-- THE TIED CARD OF 'carcanetlaw15.GateTakes'. -/
def gateTakesCard : Claim7 := { stood := { row := gateTakesRow, standIns := [], harness := (true, "57d3eea1f8d7f69fc656e3785092af697681c1c148ccba09f6126bbcea3c8edf"), looks := false }, kinds := [], alts := [], laidByText := true, laidKinds := [.data], laidTests := true, laidLooks := .later }
def GateTakesCardSaid : Prop := Claim7.holds Tryd.pinned (.plain (OpenSpec.ofChange gateTakesSpec)) gateTakesCard

/-- THE TIED CARD OF 'carcanetlaw15.GateRaises'. -/
def gateRaisesCard : Claim7 := { stood := { row := gateRaisesRow, standIns := [], harness := (true, "57d3eea1f8d7f69fc656e3785092af697681c1c148ccba09f6126bbcea3c8edf"), looks := false }, kinds := [], alts := [], laidByText := true, laidKinds := [.data], laidTests := true, laidLooks := .later }
def GateRaisesCardSaid : Prop := Claim7.holds Tryd.pinned (.plain (OpenSpec.ofChange gateRaisesSpec)) gateRaisesCard

/-- THE TIED CARD OF 'carcanetlaw15.GateHolds'. -/
def gateHoldsCard : Claim7 := { stood := { row := gateHoldsRow, standIns := [], harness := (true, "57d3eea1f8d7f69fc656e3785092af697681c1c148ccba09f6126bbcea3c8edf"), looks := false }, kinds := [], alts := [], laidByText := true, laidKinds := [.data], laidTests := true, laidLooks := .later }
def GateHoldsCardSaid : Prop := Claim7.holds Tryd.pinned (.plain (OpenSpec.ofChange gateHoldsSpec)) gateHoldsCard

/-- THE SECOND FORM's CARD OF 'carcanetlaw15.GateTakes'. -/
def gateTakesUptoCard : Claim7 := { stood := { row := gateTakesUptoRow, standIns := [], harness := (true, "57d3eea1f8d7f69fc656e3785092af697681c1c148ccba09f6126bbcea3c8edf"), looks := false }, kinds := [], alts := [], laidByText := true, laidKinds := [.data], laidTests := true, laidLooks := .later }
def GateTakesUptoCardSaid : Prop := Claim7.holds Tryd.pinned (.plain (OpenSpec.upto gateTakesSpec)) gateTakesUptoCard

/-- THE SECOND FORM's CARD OF 'carcanetlaw15.GateRaises'. -/
def gateRaisesUptoCard : Claim7 := { stood := { row := gateRaisesUptoRow, standIns := [], harness := (true, "57d3eea1f8d7f69fc656e3785092af697681c1c148ccba09f6126bbcea3c8edf"), looks := false }, kinds := [], alts := [], laidByText := true, laidKinds := [.data], laidTests := true, laidLooks := .later }
def GateRaisesUptoCardSaid : Prop := Claim7.holds Tryd.pinned (.plain (OpenSpec.upto gateRaisesSpec)) gateRaisesUptoCard

/-- THE SECOND FORM's CARD OF 'carcanetlaw15.GateHolds'. -/
def gateHoldsUptoCard : Claim7 := { stood := { row := gateHoldsUptoRow, standIns := [], harness := (true, "57d3eea1f8d7f69fc656e3785092af697681c1c148ccba09f6126bbcea3c8edf"), looks := false }, kinds := [], alts := [], laidByText := true, laidKinds := [.data], laidTests := true, laidLooks := .later }
def GateHoldsUptoCardSaid : Prop := Claim7.holds Tryd.pinned (.plain (OpenSpec.upto gateHoldsSpec)) gateHoldsUptoCard
end Rows
end Go.Proofs.YtehalcopkjfdkaaDoor
