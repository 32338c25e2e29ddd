/-
  DERIVED. GIVEN WITH THE SEED: THE CARDS: each row of YtieidemmajdpmaaDoorRows.lean that lists a variable, with what it lists TIED to the program's text (the seventh form; the later family's looks); each row that meets fmt, with fmt's text TOLD by the authors' own Lean function (tested against real Go, not proved from fmt's source: count such statements apart). THE CARD IS WHAT COUNTS. Prove the row's statement (the work); the ties are given (YtieidemmajdpmaaDoorTie.lean); close each card by the builder's one call (the guide's Derived/Test/ToyasCard.lean, 'card_holds'). Laid BY PROGRAM, IN A SANDBOX (cutbox-door.mjs). By AI agents, Wed Nov 11 2026. No macro, syntax, notation, axiom, sorry.
-/
import Derived.Test.YtieidemmajdpmaaDoorRows
import GoSem.ClaimSeven
namespace Go.Proofs.YtieidemmajdpmaaDoor
namespace Rows

/-- THE TIED CARD OF 'carcanetlaw18.KeysRoots'. -/
def keysRootsCard : Claim7 := { stood := { row := keysRootsRow, standIns := [], harness := (true, "b125cf7481e35731d5751d176c5dc0e3f2a98e9d8575121d911cf1aaa697e7e7"), looks := false }, kinds := [], alts := [], laidByText := true, laidKinds := [.data, .data, .data, .data], laidTests := true, laidLooks := .later }
def KeysRootsCardSaid : Prop := Claim7.holds Tryd.pinned (.plain (OpenSpec.ofChange keysRootsSpec)) keysRootsCard

/-- THE TIED CARD OF 'carcanetlaw18.KeysMine'. -/
def keysMineCard : Claim7 := { stood := { row := keysMineRow, standIns := [], harness := (true, "b125cf7481e35731d5751d176c5dc0e3f2a98e9d8575121d911cf1aaa697e7e7"), looks := false }, kinds := [], alts := [], laidByText := true, laidKinds := [.data, .data, .data, .data], laidTests := true, laidLooks := .later }
def KeysMineCardSaid : Prop := Claim7.holds Tryd.pinned (.plain (OpenSpec.ofChange keysMineSpec)) keysMineCard

/-- THE SECOND FORM's CARD OF 'carcanetlaw18.KeysRoots'. -/
def keysRootsUptoCard : Claim7 := { stood := { row := keysRootsUptoRow, standIns := [], harness := (true, "b125cf7481e35731d5751d176c5dc0e3f2a98e9d8575121d911cf1aaa697e7e7"), looks := false }, kinds := [], alts := [], laidByText := true, laidKinds := [.data, .data, .data, .data], laidTests := true, laidLooks := .later }
def KeysRootsUptoCardSaid : Prop := Claim7.holds Tryd.pinned (.plain (OpenSpec.upto keysRootsSpec)) keysRootsUptoCard

/-- THE SECOND FORM's CARD OF 'carcanetlaw18.KeysMine'. -/
def keysMineUptoCard : Claim7 := { stood := { row := keysMineUptoRow, standIns := [], harness := (true, "b125cf7481e35731d5751d176c5dc0e3f2a98e9d8575121d911cf1aaa697e7e7"), looks := false }, kinds := [], alts := [], laidByText := true, laidKinds := [.data, .data, .data, .data], laidTests := true, laidLooks := .later }
def KeysMineUptoCardSaid : Prop := Claim7.holds Tryd.pinned (.plain (OpenSpec.upto keysMineSpec)) keysMineUptoCard
end Rows
end Go.Proofs.YtieidemmajdpmaaDoor
