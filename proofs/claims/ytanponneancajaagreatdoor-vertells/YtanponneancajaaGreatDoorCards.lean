/-
  DERIVED. GIVEN WITH THE SEED: THE CARDS: each row of YtanponneancajaaGreatDoorRows.lean that lists a variable, with what it lists TIED to the program's text (the seventh form; the later family's looks); each row that meets fmt, with fmt's text TOLD by the authors' own Lean function (tested against real Go, not proved from fmt's source: count such statements apart). THE CARD IS WHAT COUNTS. Prove the row's statement (the work); the ties are given (YtanponneancajaaGreatDoorTie.lean); close each card by the builder's one call (the guide's Derived/Test/ToyasCard.lean, 'card_holds'). Laid BY PROGRAM, IN A SANDBOX (cutbox-door.mjs). By AI agents, Wed Nov 11 2026. No macro, syntax, notation, axiom, sorry.
-/
import Derived.Test.YtanponneancajaaGreatDoorRows
import GoSem.ClaimSeven
namespace Go.Proofs.YtanponneancajaaGreatDoor
namespace Rows

/-- THE TIED CARD OF 'pewholderlaw1.VerTells'. -/
def verTellsCard : Claim7 := { stood := { row := verTellsRow, standIns := [], harness := (true, "ff6a97ef9e9cf80c29a8251ceccf642b4f6a722bd6886898529db22cdc7f91c5"), looks := true }, kinds := [], alts := [], laidByText := true, laidKinds := [.data, .data, .data, .data, .handle, .sentinel, .sentinel, .sentinel, .sentinel, .sentinel, .sentinel, .sentinel, .sentinel, .sentinel, .sentinel, .pinned], laidTests := true, laidLooks := .later }
def VerTellsCardSaid : Prop := Claim7.holds Tryz.pinned (.plain (OpenSpec.ofChange verTellsSpec)) verTellsCard

/-- THE TIED CARD OF 'pewholderlaw1.IndexLatest'. -/
def indexLatestCard : Claim7 := { stood := { row := indexLatestRow, standIns := [], harness := (true, "ff6a97ef9e9cf80c29a8251ceccf642b4f6a722bd6886898529db22cdc7f91c5"), looks := true }, kinds := [], alts := [], laidByText := true, laidKinds := [.data, .data, .data, .data, .handle, .sentinel, .sentinel, .sentinel, .sentinel, .sentinel, .sentinel, .sentinel, .sentinel, .sentinel, .sentinel, .pinned], laidTests := true, laidLooks := .later }
def IndexLatestCardSaid : Prop := Claim7.holds Tryz.pinned (.plain (OpenSpec.ofChange indexLatestSpec)) indexLatestCard

/-- THE TIED CARD OF 'pewholderlaw2.UpNews'. -/
def upNewsCard : Claim7 := { stood := { row := upNewsRow, standIns := [], harness := (true, "ff6a97ef9e9cf80c29a8251ceccf642b4f6a722bd6886898529db22cdc7f91c5"), looks := true }, kinds := [], alts := [], laidByText := true, laidKinds := [.data, .data, .data, .data, .handle, .sentinel, .sentinel, .sentinel, .sentinel, .sentinel, .sentinel, .sentinel, .pinned], laidTests := true, laidLooks := .later }
def UpNewsCardSaid : Prop := Claim7.holds Tryz.pinned (.plain (OpenSpec.ofChange upNewsSpec)) upNewsCard

/-- THE TIED CARD OF 'pewholderlaw2.UpTells'. -/
def upTellsCard : Claim7 := { stood := { row := upTellsRow, standIns := [], harness := (true, "ff6a97ef9e9cf80c29a8251ceccf642b4f6a722bd6886898529db22cdc7f91c5"), looks := true }, kinds := [], alts := [], laidByText := true, laidKinds := [.data, .data, .data, .data, .handle, .sentinel, .sentinel, .sentinel, .sentinel, .sentinel, .sentinel, .sentinel, .sentinel, .sentinel, .sentinel, .pinned], laidTests := true, laidLooks := .later }
def UpTellsCardSaid : Prop := Claim7.holds Tryz.pinned (.plain (OpenSpec.ofChange upTellsSpec)) upTellsCard

/-- THE SECOND FORM's CARD OF 'pewholderlaw1.VerTells'. -/
def verTellsUptoCard : Claim7 := { stood := { row := verTellsUptoRow, standIns := [], harness := (true, "ff6a97ef9e9cf80c29a8251ceccf642b4f6a722bd6886898529db22cdc7f91c5"), looks := true }, kinds := [], alts := [], laidByText := true, laidKinds := [.data, .data, .data, .data, .handle, .sentinel, .sentinel, .sentinel, .sentinel, .sentinel, .sentinel, .sentinel, .sentinel, .sentinel, .sentinel, .pinned], laidTests := true, laidLooks := .later }
def VerTellsUptoCardSaid : Prop := Claim7.holds Tryz.pinned (.plain (OpenSpec.upto verTellsSpec)) verTellsUptoCard

/-- THE SECOND FORM's CARD OF 'pewholderlaw1.IndexLatest'. -/
def indexLatestUptoCard : Claim7 := { stood := { row := indexLatestUptoRow, standIns := [], harness := (true, "ff6a97ef9e9cf80c29a8251ceccf642b4f6a722bd6886898529db22cdc7f91c5"), looks := true }, kinds := [], alts := [], laidByText := true, laidKinds := [.data, .data, .data, .data, .handle, .sentinel, .sentinel, .sentinel, .sentinel, .sentinel, .sentinel, .sentinel, .sentinel, .sentinel, .sentinel, .pinned], laidTests := true, laidLooks := .later }
def IndexLatestUptoCardSaid : Prop := Claim7.holds Tryz.pinned (.plain (OpenSpec.upto indexLatestSpec)) indexLatestUptoCard

/-- THE SECOND FORM's CARD OF 'pewholderlaw2.UpNews'. -/
def upNewsUptoCard : Claim7 := { stood := { row := upNewsUptoRow, standIns := [], harness := (true, "ff6a97ef9e9cf80c29a8251ceccf642b4f6a722bd6886898529db22cdc7f91c5"), looks := true }, kinds := [], alts := [], laidByText := true, laidKinds := [.data, .data, .data, .data, .handle, .sentinel, .sentinel, .sentinel, .sentinel, .sentinel, .sentinel, .sentinel, .pinned], laidTests := true, laidLooks := .later }
def UpNewsUptoCardSaid : Prop := Claim7.holds Tryz.pinned (.plain (OpenSpec.upto upNewsSpec)) upNewsUptoCard

/-- THE SECOND FORM's CARD OF 'pewholderlaw2.UpTells'. -/
def upTellsUptoCard : Claim7 := { stood := { row := upTellsUptoRow, standIns := [], harness := (true, "ff6a97ef9e9cf80c29a8251ceccf642b4f6a722bd6886898529db22cdc7f91c5"), looks := true }, kinds := [], alts := [], laidByText := true, laidKinds := [.data, .data, .data, .data, .handle, .sentinel, .sentinel, .sentinel, .sentinel, .sentinel, .sentinel, .sentinel, .sentinel, .sentinel, .sentinel, .pinned], laidTests := true, laidLooks := .later }
def UpTellsUptoCardSaid : Prop := Claim7.holds Tryz.pinned (.plain (OpenSpec.upto upTellsSpec)) upTellsUptoCard
end Rows
end Go.Proofs.YtanponneancajaaGreatDoor
