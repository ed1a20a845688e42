/-
  DERIVED. GIVEN WITH THE SEED: THE CARDS: each row of YtffjaliegglddaaGreatDoorRows.lean that lists a variable, with what it lists TIED to the program's text (the seventh form; the later family's looks); each row that meets fmt, with fmt's text TOLD by the authors' own Lean function (tested against real Go, not proved from fmt's source: count such statements apart). THE CARD IS WHAT COUNTS. Prove the row's statement (the work); the ties are given (YtffjaliegglddaaGreatDoorTie.lean); close each card by the builder's one call (the guide's Derived/Test/ToyasCard.lean, 'card_holds'). Laid BY PROGRAM, IN A SANDBOX (cutbox-door.mjs). By AI agents, Wed Nov 11 2026. No macro, syntax, notation, axiom, sorry.
-/
import Derived.Test.YtffjaliegglddaaGreatDoorRows
import GoSem.ClaimSeven
namespace Go.Proofs.YtffjaliegglddaaGreatDoor
namespace Rows

/-- THE TIED CARD OF 'pewholderlaw2.GraphTells'. -/
def graphTellsCard : Claim7 := { stood := { row := graphTellsRow, standIns := [], harness := (true, "9a9cf7b7fab8b8470c2cddd057ba8bcb7203621d231a29f0abb629a1e44e35b3"), looks := true }, kinds := [], alts := [], laidByText := true, laidKinds := [.data, .handle, .sentinel, .sentinel, .sentinel, .sentinel, .sentinel, .sentinel, .sentinel, .sentinel, .sentinel, .sentinel, .pinned], laidTests := true, laidLooks := .later }
def GraphTellsCardSaid : Prop := Claim7.holds Tryz.pinned (.plain (OpenSpec.ofChange graphTellsSpec)) graphTellsCard

/-- THE TIED CARD OF 'pewholderlaw2.MvsJoins'. -/
def mvsJoinsCard : Claim7 := { stood := { row := mvsJoinsRow, standIns := [], harness := (true, "9a9cf7b7fab8b8470c2cddd057ba8bcb7203621d231a29f0abb629a1e44e35b3"), looks := true }, kinds := [], alts := [], laidByText := true, laidKinds := [.data, .handle, .sentinel, .sentinel, .sentinel, .sentinel, .sentinel, .sentinel, .sentinel, .pinned], laidTests := true, laidLooks := .later }
def MvsJoinsCardSaid : Prop := Claim7.holds Tryz.pinned (.plain (OpenSpec.ofChange mvsJoinsSpec)) mvsJoinsCard

/-- THE TIED CARD OF 'pewholderlaw2.MvsLeast'. -/
def mvsLeastCard : Claim7 := { stood := { row := mvsLeastRow, standIns := [], harness := (true, "9a9cf7b7fab8b8470c2cddd057ba8bcb7203621d231a29f0abb629a1e44e35b3"), looks := true }, kinds := [], alts := [], laidByText := true, laidKinds := [.data, .handle, .sentinel, .sentinel, .sentinel, .sentinel, .sentinel, .sentinel, .sentinel, .pinned], laidTests := true, laidLooks := .later }
def MvsLeastCardSaid : Prop := Claim7.holds Tryz.pinned (.plain (OpenSpec.ofChange mvsLeastSpec)) mvsLeastCard

/-- THE TIED CARD OF 'pewholderlaw2.MvsTells'. -/
def mvsTellsCard : Claim7 := { stood := { row := mvsTellsRow, standIns := [], harness := (true, "9a9cf7b7fab8b8470c2cddd057ba8bcb7203621d231a29f0abb629a1e44e35b3"), looks := true }, kinds := [], alts := [], laidByText := true, laidKinds := [.data, .handle, .sentinel, .sentinel, .sentinel, .sentinel, .sentinel, .sentinel, .sentinel, .sentinel, .sentinel, .sentinel, .pinned], laidTests := true, laidLooks := .later }
def MvsTellsCardSaid : Prop := Claim7.holds Tryz.pinned (.plain (OpenSpec.ofChange mvsTellsSpec)) mvsTellsCard

/-- THE TIED CARD OF 'pewholderlaw2.MvsParts'. -/
def mvsPartsCard : Claim7 := { stood := { row := mvsPartsRow, standIns := [], harness := (true, "9a9cf7b7fab8b8470c2cddd057ba8bcb7203621d231a29f0abb629a1e44e35b3"), looks := true }, kinds := [], alts := [], laidByText := true, laidKinds := [.data, .handle, .sentinel, .sentinel, .sentinel, .sentinel, .sentinel, .sentinel, .sentinel, .pinned], laidTests := true, laidLooks := .later }
def MvsPartsCardSaid : Prop := Claim7.holds Tryz.pinned (.plain (OpenSpec.ofChange mvsPartsSpec)) mvsPartsCard

/-- THE SECOND FORM's CARD OF 'pewholderlaw2.GraphTells'. -/
def graphTellsUptoCard : Claim7 := { stood := { row := graphTellsUptoRow, standIns := [], harness := (true, "9a9cf7b7fab8b8470c2cddd057ba8bcb7203621d231a29f0abb629a1e44e35b3"), looks := true }, kinds := [], alts := [], laidByText := true, laidKinds := [.data, .handle, .sentinel, .sentinel, .sentinel, .sentinel, .sentinel, .sentinel, .sentinel, .sentinel, .sentinel, .sentinel, .pinned], laidTests := true, laidLooks := .later }
def GraphTellsUptoCardSaid : Prop := Claim7.holds Tryz.pinned (.plain (OpenSpec.upto graphTellsSpec)) graphTellsUptoCard

/-- THE SECOND FORM's CARD OF 'pewholderlaw2.MvsJoins'. -/
def mvsJoinsUptoCard : Claim7 := { stood := { row := mvsJoinsUptoRow, standIns := [], harness := (true, "9a9cf7b7fab8b8470c2cddd057ba8bcb7203621d231a29f0abb629a1e44e35b3"), looks := true }, kinds := [], alts := [], laidByText := true, laidKinds := [.data, .handle, .sentinel, .sentinel, .sentinel, .sentinel, .sentinel, .sentinel, .sentinel, .pinned], laidTests := true, laidLooks := .later }
def MvsJoinsUptoCardSaid : Prop := Claim7.holds Tryz.pinned (.plain (OpenSpec.upto mvsJoinsSpec)) mvsJoinsUptoCard

/-- THE SECOND FORM's CARD OF 'pewholderlaw2.MvsLeast'. -/
def mvsLeastUptoCard : Claim7 := { stood := { row := mvsLeastUptoRow, standIns := [], harness := (true, "9a9cf7b7fab8b8470c2cddd057ba8bcb7203621d231a29f0abb629a1e44e35b3"), looks := true }, kinds := [], alts := [], laidByText := true, laidKinds := [.data, .handle, .sentinel, .sentinel, .sentinel, .sentinel, .sentinel, .sentinel, .sentinel, .pinned], laidTests := true, laidLooks := .later }
def MvsLeastUptoCardSaid : Prop := Claim7.holds Tryz.pinned (.plain (OpenSpec.upto mvsLeastSpec)) mvsLeastUptoCard

/-- THE SECOND FORM's CARD OF 'pewholderlaw2.MvsTells'. -/
def mvsTellsUptoCard : Claim7 := { stood := { row := mvsTellsUptoRow, standIns := [], harness := (true, "9a9cf7b7fab8b8470c2cddd057ba8bcb7203621d231a29f0abb629a1e44e35b3"), looks := true }, kinds := [], alts := [], laidByText := true, laidKinds := [.data, .handle, .sentinel, .sentinel, .sentinel, .sentinel, .sentinel, .sentinel, .sentinel, .sentinel, .sentinel, .sentinel, .pinned], laidTests := true, laidLooks := .later }
def MvsTellsUptoCardSaid : Prop := Claim7.holds Tryz.pinned (.plain (OpenSpec.upto mvsTellsSpec)) mvsTellsUptoCard

/-- THE SECOND FORM's CARD OF 'pewholderlaw2.MvsParts'. -/
def mvsPartsUptoCard : Claim7 := { stood := { row := mvsPartsUptoRow, standIns := [], harness := (true, "9a9cf7b7fab8b8470c2cddd057ba8bcb7203621d231a29f0abb629a1e44e35b3"), looks := true }, kinds := [], alts := [], laidByText := true, laidKinds := [.data, .handle, .sentinel, .sentinel, .sentinel, .sentinel, .sentinel, .sentinel, .sentinel, .pinned], laidTests := true, laidLooks := .later }
def MvsPartsUptoCardSaid : Prop := Claim7.holds Tryz.pinned (.plain (OpenSpec.upto mvsPartsSpec)) mvsPartsUptoCard
end Rows
end Go.Proofs.YtffjaliegglddaaGreatDoor
