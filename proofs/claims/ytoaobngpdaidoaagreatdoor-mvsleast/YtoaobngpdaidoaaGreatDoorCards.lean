/-
  DERIVED. GIVEN WITH THE SEED: THE CARDS: each row of YtoaobngpdaidoaaGreatDoorRows.lean that lists a variable, with what it lists TIED to the program's text (the seventh form; the later family's looks); each row that meets fmt, with fmt's text TOLD by the authors' own Lean function (tested against real Go, not proved from fmt's source: count such statements apart). THE CARD IS WHAT COUNTS. Prove the row's statement (the work); the ties are given (YtoaobngpdaidoaaGreatDoorTie.lean); close each card by the builder's one call (the guide's Derived/Test/ToyasCard.lean, 'card_holds'). Laid BY PROGRAM, IN A SANDBOX (cutbox-door.mjs). By AI agents, Wed Nov 11 2026. No macro, syntax, notation, axiom, sorry.
-/
import Derived.Test.YtoaobngpdaidoaaGreatDoorRows
import GoSem.ClaimSeven
namespace Go.Proofs.YtoaobngpdaidoaaGreatDoor
namespace Rows

/-- THE TIED CARD OF 'pewholderlaw2.MvsTells'. -/
def mvsTellsCard : Claim7 := { stood := { row := mvsTellsRow, standIns := [], harness := (true, "88d5b94e2295d415fe8de2f5e07baea3061c6cf45ddcb7a6a0d827179ab663c9"), looks := true }, kinds := [], alts := [], laidByText := true, laidKinds := [.data, .handle, .sentinel, .sentinel, .sentinel, .sentinel, .sentinel, .sentinel, .sentinel, .sentinel, .sentinel, .sentinel, .pinned], laidTests := true, laidLooks := .later }
def MvsTellsCardSaid : Prop := Claim7.holds Tryz.pinned (.plain (OpenSpec.ofChange mvsTellsSpec)) mvsTellsCard

/-- THE TIED CARD OF 'pewholderlaw2.UpNews'. -/
def upNewsCard : Claim7 := { stood := { row := upNewsRow, standIns := [], harness := (true, "88d5b94e2295d415fe8de2f5e07baea3061c6cf45ddcb7a6a0d827179ab663c9"), looks := true }, kinds := [], alts := [], laidByText := true, laidKinds := [.data, .data, .data, .data, .handle, .sentinel, .sentinel, .sentinel, .sentinel, .sentinel, .sentinel, .sentinel, .pinned], laidTests := true, laidLooks := .later }
def UpNewsCardSaid : Prop := Claim7.holds Tryz.pinned (.plain (OpenSpec.ofChange upNewsSpec)) upNewsCard

/-- THE TIED CARD OF 'pewholderlaw2.UpTells'. -/
def upTellsCard : Claim7 := { stood := { row := upTellsRow, standIns := [], harness := (true, "88d5b94e2295d415fe8de2f5e07baea3061c6cf45ddcb7a6a0d827179ab663c9"), looks := true }, kinds := [], alts := [], laidByText := true, laidKinds := [.data, .data, .data, .data, .handle, .sentinel, .sentinel, .sentinel, .sentinel, .sentinel, .sentinel, .sentinel, .sentinel, .sentinel, .sentinel, .pinned], laidTests := true, laidLooks := .later }
def UpTellsCardSaid : Prop := Claim7.holds Tryz.pinned (.plain (OpenSpec.ofChange upTellsSpec)) upTellsCard

/-- THE TIED CARD OF 'pewholderlaw2.MvsLeast'. -/
def mvsLeastCard : Claim7 := { stood := { row := mvsLeastRow, standIns := [], harness := (true, "88d5b94e2295d415fe8de2f5e07baea3061c6cf45ddcb7a6a0d827179ab663c9"), looks := true }, kinds := [], alts := [], laidByText := true, laidKinds := [.data, .handle, .sentinel, .sentinel, .sentinel, .sentinel, .sentinel, .sentinel, .sentinel, .pinned], laidTests := true, laidLooks := .later }
def MvsLeastCardSaid : Prop := Claim7.holds Tryz.pinned (.plain (OpenSpec.ofChange mvsLeastSpec)) mvsLeastCard

/-- THE SECOND FORM's CARD OF 'pewholderlaw2.MvsTells'. -/
def mvsTellsUptoCard : Claim7 := { stood := { row := mvsTellsUptoRow, standIns := [], harness := (true, "88d5b94e2295d415fe8de2f5e07baea3061c6cf45ddcb7a6a0d827179ab663c9"), looks := true }, kinds := [], alts := [], laidByText := true, laidKinds := [.data, .handle, .sentinel, .sentinel, .sentinel, .sentinel, .sentinel, .sentinel, .sentinel, .sentinel, .sentinel, .sentinel, .pinned], laidTests := true, laidLooks := .later }
def MvsTellsUptoCardSaid : Prop := Claim7.holds Tryz.pinned (.plain (OpenSpec.upto mvsTellsSpec)) mvsTellsUptoCard

/-- THE SECOND FORM's CARD OF 'pewholderlaw2.UpNews'. -/
def upNewsUptoCard : Claim7 := { stood := { row := upNewsUptoRow, standIns := [], harness := (true, "88d5b94e2295d415fe8de2f5e07baea3061c6cf45ddcb7a6a0d827179ab663c9"), looks := true }, kinds := [], alts := [], laidByText := true, laidKinds := [.data, .data, .data, .data, .handle, .sentinel, .sentinel, .sentinel, .sentinel, .sentinel, .sentinel, .sentinel, .pinned], laidTests := true, laidLooks := .later }
def UpNewsUptoCardSaid : Prop := Claim7.holds Tryz.pinned (.plain (OpenSpec.upto upNewsSpec)) upNewsUptoCard

/-- THE SECOND FORM's CARD OF 'pewholderlaw2.UpTells'. -/
def upTellsUptoCard : Claim7 := { stood := { row := upTellsUptoRow, standIns := [], harness := (true, "88d5b94e2295d415fe8de2f5e07baea3061c6cf45ddcb7a6a0d827179ab663c9"), looks := true }, kinds := [], alts := [], laidByText := true, laidKinds := [.data, .data, .data, .data, .handle, .sentinel, .sentinel, .sentinel, .sentinel, .sentinel, .sentinel, .sentinel, .sentinel, .sentinel, .sentinel, .pinned], laidTests := true, laidLooks := .later }
def UpTellsUptoCardSaid : Prop := Claim7.holds Tryz.pinned (.plain (OpenSpec.upto upTellsSpec)) upTellsUptoCard

/-- THE SECOND FORM's CARD OF 'pewholderlaw2.MvsLeast'. -/
def mvsLeastUptoCard : Claim7 := { stood := { row := mvsLeastUptoRow, standIns := [], harness := (true, "88d5b94e2295d415fe8de2f5e07baea3061c6cf45ddcb7a6a0d827179ab663c9"), looks := true }, kinds := [], alts := [], laidByText := true, laidKinds := [.data, .handle, .sentinel, .sentinel, .sentinel, .sentinel, .sentinel, .sentinel, .sentinel, .pinned], laidTests := true, laidLooks := .later }
def MvsLeastUptoCardSaid : Prop := Claim7.holds Tryz.pinned (.plain (OpenSpec.upto mvsLeastSpec)) mvsLeastUptoCard
end Rows
end Go.Proofs.YtoaobngpdaidoaaGreatDoor
