/-
  DERIVED. GIVEN WITH THE SEED: THE CARDS: each row of YthhhldnlmkoamaaDoorRows.lean that lists a variable, with what it lists TIED to the program's text (the seventh form; the later family's looks); each row that meets fmt, with fmt's text TOLD by the authors' own Lean function (tested against real Go, not proved from fmt's source: count such statements apart). THE CARD IS WHAT COUNTS. Prove the row's statement (the work); the ties are given (YthhhldnlmkoamaaDoorTie.lean); close each card by the builder's one call (the guide's Derived/Test/ToyasCard.lean, 'card_holds'). Laid BY PROGRAM, IN A SANDBOX (cutbox-door.mjs). By AI agents, Wed Nov 11 2026. No macro, syntax, notation, axiom, sorry.
-/
import Derived.Test.YthhhldnlmkoamaaDoorRows
import GoSem.ClaimSeven
namespace Go.Proofs.YthhhldnlmkoamaaDoor
namespace Rows

/-- THE TIED CARD OF 'carcanetlaw12.ChainKeys'. -/
def chainKeysCard : Claim7 := { stood := { row := chainKeysRow, standIns := [], harness := (true, "23637954daae7df10d9e37f08d3daad367147910a3257dc34caecbd3f3e0318b"), looks := false }, kinds := [], alts := [], laidByText := true, laidKinds := [.data], laidTests := true, laidLooks := .later }
def ChainKeysCardSaid : Prop := Claim7.holds Tryd.pinned (.plain (OpenSpec.ofChange chainKeysSpec)) chainKeysCard

/-- THE TIED CARD OF 'carcanetlaw12.ChainLeads'. -/
def chainLeadsCard : Claim7 := { stood := { row := chainLeadsRow, standIns := [], harness := (true, "23637954daae7df10d9e37f08d3daad367147910a3257dc34caecbd3f3e0318b"), looks := false }, kinds := [], alts := [], laidByText := true, laidKinds := [.data], laidTests := true, laidLooks := .later }
def ChainLeadsCardSaid : Prop := Claim7.holds Tryd.pinned (.plain (OpenSpec.ofChange chainLeadsSpec)) chainLeadsCard

/-- THE TIED CARD OF 'carcanetlaw12.ChainWhole'. -/
def chainWholeCard : Claim7 := { stood := { row := chainWholeRow, standIns := [], harness := (true, "23637954daae7df10d9e37f08d3daad367147910a3257dc34caecbd3f3e0318b"), looks := false }, kinds := [], alts := [], laidByText := true, laidKinds := [.data], laidTests := true, laidLooks := .later }
def ChainWholeCardSaid : Prop := Claim7.holds Tryd.pinned (.plain (OpenSpec.ofChange chainWholeSpec)) chainWholeCard

/-- THE SECOND FORM's CARD OF 'carcanetlaw12.ChainKeys'. -/
def chainKeysUptoCard : Claim7 := { stood := { row := chainKeysUptoRow, standIns := [], harness := (true, "23637954daae7df10d9e37f08d3daad367147910a3257dc34caecbd3f3e0318b"), looks := false }, kinds := [], alts := [], laidByText := true, laidKinds := [.data], laidTests := true, laidLooks := .later }
def ChainKeysUptoCardSaid : Prop := Claim7.holds Tryd.pinned (.plain (OpenSpec.upto chainKeysSpec)) chainKeysUptoCard

/-- THE SECOND FORM's CARD OF 'carcanetlaw12.ChainLeads'. -/
def chainLeadsUptoCard : Claim7 := { stood := { row := chainLeadsUptoRow, standIns := [], harness := (true, "23637954daae7df10d9e37f08d3daad367147910a3257dc34caecbd3f3e0318b"), looks := false }, kinds := [], alts := [], laidByText := true, laidKinds := [.data], laidTests := true, laidLooks := .later }
def ChainLeadsUptoCardSaid : Prop := Claim7.holds Tryd.pinned (.plain (OpenSpec.upto chainLeadsSpec)) chainLeadsUptoCard

/-- THE SECOND FORM's CARD OF 'carcanetlaw12.ChainWhole'. -/
def chainWholeUptoCard : Claim7 := { stood := { row := chainWholeUptoRow, standIns := [], harness := (true, "23637954daae7df10d9e37f08d3daad367147910a3257dc34caecbd3f3e0318b"), looks := false }, kinds := [], alts := [], laidByText := true, laidKinds := [.data], laidTests := true, laidLooks := .later }
def ChainWholeUptoCardSaid : Prop := Claim7.holds Tryd.pinned (.plain (OpenSpec.upto chainWholeSpec)) chainWholeUptoCard
end Rows
end Go.Proofs.YthhhldnlmkoamaaDoor
