/-
  DERIVED. GIVEN WITH THE SEED: THE CARDS: each row of YtgldelgeaajgpaaDoorRows.lean that lists a variable, with what it lists TIED to the program's text (the seventh form; the later family's looks); each row that meets fmt, with fmt's text TOLD by the authors' own Lean function (tested against real Go, not proved from fmt's source: count such statements apart). THE CARD IS WHAT COUNTS. Prove the row's statement (the work); the ties are given (YtgldelgeaajgpaaDoorTie.lean); close each card by the builder's one call (the guide's Derived/Test/ToyasCard.lean, 'card_holds'). Laid BY PROGRAM, IN A SANDBOX (cutbox-door.mjs). By AI agents, Wed Nov 11 2026. No macro, syntax, notation, axiom, sorry.
-/
import Derived.Test.YtgldelgeaajgpaaDoorRows
import GoSem.ClaimSeven
namespace Go.Proofs.YtgldelgeaajgpaaDoor
namespace Rows

/-- THE TIED CARD OF 'carcanetlaw10.LabelKinds'. -/
def labelKindsCard : Claim7 := { stood := { row := labelKindsRow, standIns := [], harness := (true, "4b0574a4a16fbf84c522f60f368d2587ddfa10270218d84f9107914ce3208dde"), looks := true }, kinds := [], alts := [], laidByText := true, laidKinds := [.data, .data, .data, .data], laidTests := true, laidLooks := .later }
def LabelKindsCardSaid : Prop := Claim7.holds Tryd.pinned (.plain (OpenSpec.ofChange labelKindsSpec)) labelKindsCard

/-- THE TIED CARD OF 'carcanetlaw10.LabelWrites'. -/
def labelWritesCard : Claim7 := { stood := { row := labelWritesRow, standIns := [], harness := (true, "4b0574a4a16fbf84c522f60f368d2587ddfa10270218d84f9107914ce3208dde"), looks := true }, kinds := [], alts := [], laidByText := true, laidKinds := [.data, .data, .data], laidTests := true, laidLooks := .later }
def LabelWritesCardSaid : Prop := Claim7.holds Tryd.pinned (.plain (OpenSpec.ofChange labelWritesSpec)) labelWritesCard

/-- THE TIED CARD OF 'carcanetlaw10.LabelReads'. -/
def labelReadsCard : Claim7 := { stood := { row := labelReadsRow, standIns := [], harness := (true, "4b0574a4a16fbf84c522f60f368d2587ddfa10270218d84f9107914ce3208dde"), looks := true }, kinds := [], alts := [], laidByText := true, laidKinds := [.data, .data, .data, .sentinel, .sentinel], laidTests := true, laidLooks := .later }
def LabelReadsCardSaid : Prop := Claim7.holds Tryd.pinned (.plain (OpenSpec.ofChange labelReadsSpec)) labelReadsCard

/-- THE TIED CARD OF 'carcanetlaw10.LabelBack'. -/
def labelBackCard : Claim7 := { stood := { row := labelBackRow, standIns := [], harness := (true, "4b0574a4a16fbf84c522f60f368d2587ddfa10270218d84f9107914ce3208dde"), looks := true }, kinds := [], alts := [], laidByText := true, laidKinds := [.data, .data, .data, .sentinel, .sentinel], laidTests := true, laidLooks := .later }
def LabelBackCardSaid : Prop := Claim7.holds Tryd.pinned (.plain (OpenSpec.ofChange labelBackSpec)) labelBackCard

/-- THE SECOND FORM's CARD OF 'carcanetlaw10.LabelKinds'. -/
def labelKindsUptoCard : Claim7 := { stood := { row := labelKindsUptoRow, standIns := [], harness := (true, "4b0574a4a16fbf84c522f60f368d2587ddfa10270218d84f9107914ce3208dde"), looks := true }, kinds := [], alts := [], laidByText := true, laidKinds := [.data, .data, .data, .data], laidTests := true, laidLooks := .later }
def LabelKindsUptoCardSaid : Prop := Claim7.holds Tryd.pinned (.plain (OpenSpec.upto labelKindsSpec)) labelKindsUptoCard

/-- THE SECOND FORM's CARD OF 'carcanetlaw10.LabelWrites'. -/
def labelWritesUptoCard : Claim7 := { stood := { row := labelWritesUptoRow, standIns := [], harness := (true, "4b0574a4a16fbf84c522f60f368d2587ddfa10270218d84f9107914ce3208dde"), looks := true }, kinds := [], alts := [], laidByText := true, laidKinds := [.data, .data, .data], laidTests := true, laidLooks := .later }
def LabelWritesUptoCardSaid : Prop := Claim7.holds Tryd.pinned (.plain (OpenSpec.upto labelWritesSpec)) labelWritesUptoCard

/-- THE SECOND FORM's CARD OF 'carcanetlaw10.LabelReads'. -/
def labelReadsUptoCard : Claim7 := { stood := { row := labelReadsUptoRow, standIns := [], harness := (true, "4b0574a4a16fbf84c522f60f368d2587ddfa10270218d84f9107914ce3208dde"), looks := true }, kinds := [], alts := [], laidByText := true, laidKinds := [.data, .data, .data, .sentinel, .sentinel], laidTests := true, laidLooks := .later }
def LabelReadsUptoCardSaid : Prop := Claim7.holds Tryd.pinned (.plain (OpenSpec.upto labelReadsSpec)) labelReadsUptoCard

/-- THE SECOND FORM's CARD OF 'carcanetlaw10.LabelBack'. -/
def labelBackUptoCard : Claim7 := { stood := { row := labelBackUptoRow, standIns := [], harness := (true, "4b0574a4a16fbf84c522f60f368d2587ddfa10270218d84f9107914ce3208dde"), looks := true }, kinds := [], alts := [], laidByText := true, laidKinds := [.data, .data, .data, .sentinel, .sentinel], laidTests := true, laidLooks := .later }
def LabelBackUptoCardSaid : Prop := Claim7.holds Tryd.pinned (.plain (OpenSpec.upto labelBackSpec)) labelBackUptoCard
end Rows
end Go.Proofs.YtgldelgeaajgpaaDoor
