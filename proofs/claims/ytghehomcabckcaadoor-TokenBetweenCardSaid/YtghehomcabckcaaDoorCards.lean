/-
  DERIVED. GIVEN WITH THE SEED: THE CARDS: each row of YtghehomcabckcaaDoorRows.lean that lists a variable, with what it lists TIED to the program's text (the seventh form; the later family's looks); each row that meets fmt, with fmt's text TOLD by the authors' own Lean function (tested against real Go, not proved from fmt's source: count such statements apart). THE CARD IS WHAT COUNTS. Prove the row's statement (the work); the ties are given (YtghehomcabckcaaDoorTie.lean); close each card by the builder's one call (the guide's Derived/Test/ToyasCard.lean, 'card_holds'). Laid BY PROGRAM, IN A SANDBOX (cutbox-door.mjs). By AI agents, Wed Nov 11 2026. No macro, syntax, notation, axiom, sorry.
-/
import Derived.Test.YtghehomcabckcaaDoorRows
import GoSem.ClaimSeven
namespace Go.Proofs.YtghehomcabckcaaDoor
namespace Rows

/-- THE TIED CARD OF 'carcanetlaw13.TokenValids'. -/
def tokenValidsCard : Claim7 := { stood := { row := tokenValidsRow, standIns := [], harness := (true, "12df08fce9a7bf8a7c1ace29ab6f5a84ef6ba2899551aefb2083fb25b208c97c"), looks := false }, kinds := [], alts := [], laidByText := true, laidKinds := [.data], laidTests := true, laidLooks := .later }
def TokenValidsCardSaid : Prop := Claim7.holds Tryd.pinned (.plain (OpenSpec.ofChange tokenValidsSpec)) tokenValidsCard

/-- THE TIED CARD OF 'carcanetlaw13.TokenSigned'. -/
def tokenSignedCard : Claim7 := { stood := { row := tokenSignedRow, standIns := [], harness := (true, "12df08fce9a7bf8a7c1ace29ab6f5a84ef6ba2899551aefb2083fb25b208c97c"), looks := false }, kinds := [], alts := [], laidByText := true, laidKinds := [.data], laidTests := true, laidLooks := .later }
def TokenSignedCardSaid : Prop := Claim7.holds Tryd.pinned (.plain (OpenSpec.ofChange tokenSignedSpec)) tokenSignedCard

/-- THE TIED CARD OF 'carcanetlaw13.TokenBetween'. -/
def tokenBetweenCard : Claim7 := { stood := { row := tokenBetweenRow, standIns := [], harness := (true, "12df08fce9a7bf8a7c1ace29ab6f5a84ef6ba2899551aefb2083fb25b208c97c"), looks := false }, kinds := [], alts := [], laidByText := true, laidKinds := [.data], laidTests := true, laidLooks := .later }
def TokenBetweenCardSaid : Prop := Claim7.holds Tryd.pinned (.plain (OpenSpec.ofChange tokenBetweenSpec)) tokenBetweenCard

/-- THE SECOND FORM's CARD OF 'carcanetlaw13.TokenValids'. -/
def tokenValidsUptoCard : Claim7 := { stood := { row := tokenValidsUptoRow, standIns := [], harness := (true, "12df08fce9a7bf8a7c1ace29ab6f5a84ef6ba2899551aefb2083fb25b208c97c"), looks := false }, kinds := [], alts := [], laidByText := true, laidKinds := [.data], laidTests := true, laidLooks := .later }
def TokenValidsUptoCardSaid : Prop := Claim7.holds Tryd.pinned (.plain (OpenSpec.upto tokenValidsSpec)) tokenValidsUptoCard

/-- THE SECOND FORM's CARD OF 'carcanetlaw13.TokenSigned'. -/
def tokenSignedUptoCard : Claim7 := { stood := { row := tokenSignedUptoRow, standIns := [], harness := (true, "12df08fce9a7bf8a7c1ace29ab6f5a84ef6ba2899551aefb2083fb25b208c97c"), looks := false }, kinds := [], alts := [], laidByText := true, laidKinds := [.data], laidTests := true, laidLooks := .later }
def TokenSignedUptoCardSaid : Prop := Claim7.holds Tryd.pinned (.plain (OpenSpec.upto tokenSignedSpec)) tokenSignedUptoCard

/-- THE SECOND FORM's CARD OF 'carcanetlaw13.TokenBetween'. -/
def tokenBetweenUptoCard : Claim7 := { stood := { row := tokenBetweenUptoRow, standIns := [], harness := (true, "12df08fce9a7bf8a7c1ace29ab6f5a84ef6ba2899551aefb2083fb25b208c97c"), looks := false }, kinds := [], alts := [], laidByText := true, laidKinds := [.data], laidTests := true, laidLooks := .later }
def TokenBetweenUptoCardSaid : Prop := Claim7.holds Tryd.pinned (.plain (OpenSpec.upto tokenBetweenSpec)) tokenBetweenUptoCard
end Rows
end Go.Proofs.YtghehomcabckcaaDoor
