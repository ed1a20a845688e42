/-
  DERIVED. GIVEN WITH THE SEED: THE CARDS: each row of YtjbmjnbkibmkpaaGreatDoorRows.lean that lists a variable, with what it lists TIED to the program's text (the seventh form; the later family's looks); each row that meets fmt, with fmt's text TOLD by the authors' own Lean function (tested against real Go, not proved from fmt's source: count such statements apart). THE CARD IS WHAT COUNTS. Prove the row's statement (the work); the ties are given (YtjbmjnbkibmkpaaGreatDoorTie.lean); close each card by the builder's one call (the guide's Derived/Test/ToyasCard.lean, 'card_holds'). Laid BY PROGRAM, IN A SANDBOX (cutbox-door.mjs). By AI agents, Wed Nov 11 2026. No macro, syntax, notation, axiom, sorry.
-/
import Derived.Test.YtjbmjnbkibmkpaaGreatDoorRows
import GoSem.ClaimSeven
namespace Go.Proofs.YtjbmjnbkibmkpaaGreatDoor
namespace Rows

/-- THE TIED CARD OF 'pewholderlaw3.GetStays'. -/
def getStaysCard : Claim7 := { stood := { row := getStaysRow, standIns := [], harness := (true, "6788695000be3533fbe296bb240e15bfddb3babfa01a47cc1c92206accd508b5"), looks := true }, kinds := [], alts := [], laidByText := true, laidKinds := [.data, .data, .data, .data, .handle, .sentinel, .sentinel, .sentinel, .sentinel, .sentinel, .sentinel, .sentinel, .sentinel, .pinned], laidTests := true, laidLooks := .later }
def GetStaysCardSaid : Prop := Claim7.holds Tryz.pinned (.plain (OpenSpec.ofChange getStaysSpec)) getStaysCard

/-- THE SECOND FORM's CARD OF 'pewholderlaw3.GetStays'. -/
def getStaysUptoCard : Claim7 := { stood := { row := getStaysUptoRow, standIns := [], harness := (true, "6788695000be3533fbe296bb240e15bfddb3babfa01a47cc1c92206accd508b5"), looks := true }, kinds := [], alts := [], laidByText := true, laidKinds := [.data, .data, .data, .data, .handle, .sentinel, .sentinel, .sentinel, .sentinel, .sentinel, .sentinel, .sentinel, .sentinel, .pinned], laidTests := true, laidLooks := .later }
def GetStaysUptoCardSaid : Prop := Claim7.holds Tryz.pinned (.plain (OpenSpec.upto getStaysSpec)) getStaysUptoCard
end Rows
end Go.Proofs.YtjbmjnbkibmkpaaGreatDoor
