/-
  DERIVED. GIVEN WITH THE SEED: THE CARDS: each row of YtpcdbpijgmninaaDoorRows.lean that lists a variable, with what it lists TIED to the program's text (the seventh form; the later family's looks); each row that meets fmt, with fmt's text TOLD by the authors' own Lean function (tested against real Go, not proved from fmt's source: count such statements apart). THE CARD IS WHAT COUNTS. Prove the row's statement (the work); the ties are given (YtpcdbpijgmninaaDoorTie.lean); close each card by the builder's one call (the guide's Derived/Test/ToyasCard.lean, 'card_holds'). Laid BY PROGRAM, IN A SANDBOX (cutbox-door.mjs). By AI agents, Wed Nov 11 2026. No macro, syntax, notation, axiom, sorry.
-/
import Derived.Test.YtpcdbpijgmninaaDoorRows
import GoSem.ClaimSeven
namespace Go.Proofs.YtpcdbpijgmninaaDoor
namespace Rows

/-- THE TIED CARD OF 'carcanetlaw17.HelloTags'. -/
def helloTagsCard : Claim7 := { stood := { row := helloTagsRow, standIns := [], harness := (true, "f17e2af31e3f6210aaf3b34ef6d96aa3daae82f28a346349a4c86e0681e583f9"), looks := false }, kinds := [], alts := [], laidByText := true, laidKinds := [.data], laidTests := true, laidLooks := .later }
def HelloTagsCardSaid : Prop := Claim7.holds Tryd.pinned (.plain (OpenSpec.ofChange helloTagsSpec)) helloTagsCard

/-- THE TIED CARD OF 'carcanetlaw17.HelloPuts'. -/
def helloPutsCard : Claim7 := { stood := { row := helloPutsRow, standIns := [], harness := (true, "f17e2af31e3f6210aaf3b34ef6d96aa3daae82f28a346349a4c86e0681e583f9"), looks := false }, kinds := [], alts := [], laidByText := true, laidKinds := [.data], laidTests := true, laidLooks := .later }
def HelloPutsCardSaid : Prop := Claim7.holds Tryd.pinned (.plain (OpenSpec.ofChange helloPutsSpec)) helloPutsCard

/-- THE TIED CARD OF 'carcanetlaw17.HelloTakes'. -/
def helloTakesCard : Claim7 := { stood := { row := helloTakesRow, standIns := [], harness := (true, "f17e2af31e3f6210aaf3b34ef6d96aa3daae82f28a346349a4c86e0681e583f9"), looks := false }, kinds := [], alts := [], laidByText := true, laidKinds := [.data], laidTests := true, laidLooks := .later }
def HelloTakesCardSaid : Prop := Claim7.holds Tryd.pinned (.plain (OpenSpec.ofChange helloTakesSpec)) helloTakesCard

/-- THE TIED CARD OF 'carcanetlaw17.HelloBack'. -/
def helloBackCard : Claim7 := { stood := { row := helloBackRow, standIns := [], harness := (true, "f17e2af31e3f6210aaf3b34ef6d96aa3daae82f28a346349a4c86e0681e583f9"), looks := false }, kinds := [], alts := [], laidByText := true, laidKinds := [.data], laidTests := true, laidLooks := .later }
def HelloBackCardSaid : Prop := Claim7.holds Tryd.pinned (.plain (OpenSpec.ofChange helloBackSpec)) helloBackCard

/-- THE SECOND FORM's CARD OF 'carcanetlaw17.HelloTags'. -/
def helloTagsUptoCard : Claim7 := { stood := { row := helloTagsUptoRow, standIns := [], harness := (true, "f17e2af31e3f6210aaf3b34ef6d96aa3daae82f28a346349a4c86e0681e583f9"), looks := false }, kinds := [], alts := [], laidByText := true, laidKinds := [.data], laidTests := true, laidLooks := .later }
def HelloTagsUptoCardSaid : Prop := Claim7.holds Tryd.pinned (.plain (OpenSpec.upto helloTagsSpec)) helloTagsUptoCard

/-- THE SECOND FORM's CARD OF 'carcanetlaw17.HelloPuts'. -/
def helloPutsUptoCard : Claim7 := { stood := { row := helloPutsUptoRow, standIns := [], harness := (true, "f17e2af31e3f6210aaf3b34ef6d96aa3daae82f28a346349a4c86e0681e583f9"), looks := false }, kinds := [], alts := [], laidByText := true, laidKinds := [.data], laidTests := true, laidLooks := .later }
def HelloPutsUptoCardSaid : Prop := Claim7.holds Tryd.pinned (.plain (OpenSpec.upto helloPutsSpec)) helloPutsUptoCard

/-- THE SECOND FORM's CARD OF 'carcanetlaw17.HelloTakes'. -/
def helloTakesUptoCard : Claim7 := { stood := { row := helloTakesUptoRow, standIns := [], harness := (true, "f17e2af31e3f6210aaf3b34ef6d96aa3daae82f28a346349a4c86e0681e583f9"), looks := false }, kinds := [], alts := [], laidByText := true, laidKinds := [.data], laidTests := true, laidLooks := .later }
def HelloTakesUptoCardSaid : Prop := Claim7.holds Tryd.pinned (.plain (OpenSpec.upto helloTakesSpec)) helloTakesUptoCard

/-- THE SECOND FORM's CARD OF 'carcanetlaw17.HelloBack'. -/
def helloBackUptoCard : Claim7 := { stood := { row := helloBackUptoRow, standIns := [], harness := (true, "f17e2af31e3f6210aaf3b34ef6d96aa3daae82f28a346349a4c86e0681e583f9"), looks := false }, kinds := [], alts := [], laidByText := true, laidKinds := [.data], laidTests := true, laidLooks := .later }
def HelloBackUptoCardSaid : Prop := Claim7.holds Tryd.pinned (.plain (OpenSpec.upto helloBackSpec)) helloBackUptoCard
end Rows
end Go.Proofs.YtpcdbpijgmninaaDoor
