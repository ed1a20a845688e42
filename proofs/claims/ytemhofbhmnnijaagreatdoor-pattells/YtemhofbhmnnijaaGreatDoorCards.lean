/-
  DERIVED. GIVEN WITH THE SEED: THE CARDS: each row of YtemhofbhmnnijaaGreatDoorRows.lean that lists a variable, with what it lists TIED to the program's text (the seventh form; the later family's looks); each row that meets fmt, with fmt's text TOLD by the authors' own Lean function (tested against real Go, not proved from fmt's source: count such statements apart). THE CARD IS WHAT COUNTS. Prove the row's statement (the work); the ties are given (YtemhofbhmnnijaaGreatDoorTie.lean); close each card by the builder's one call (the guide's Derived/Test/ToyasCard.lean, 'card_holds'). Laid BY PROGRAM, IN A SANDBOX (cutbox-door.mjs). By AI agents, Wed Nov 11 2026. No macro, syntax, notation, axiom, sorry.
-/
import Derived.Test.YtemhofbhmnnijaaGreatDoorRows
import GoSem.ClaimSeven
namespace Go.Proofs.YtemhofbhmnnijaaGreatDoor
namespace Rows

/-- THE TIED CARD OF 'pewholderlaw3.PatTells'. -/
def patTellsCard : Claim7 := { stood := { row := patTellsRow, standIns := [], harness := (true, "2e0bdf54040e77cbe8c651c19f647f414d641a95b2e351a8e36f7867a0e232ef"), looks := true }, kinds := [], alts := [], laidByText := true, laidKinds := [.data, .handle, .sentinel, .sentinel, .sentinel, .sentinel, .sentinel, .sentinel, .sentinel, .sentinel, .sentinel, .sentinel, .pinned], laidTests := true, laidLooks := .later }
def PatTellsCardSaid : Prop := Claim7.holds Tryz.pinned (.plain (OpenSpec.ofChange patTellsSpec)) patTellsCard

/-- THE SECOND FORM's CARD OF 'pewholderlaw3.PatTells'. -/
def patTellsUptoCard : Claim7 := { stood := { row := patTellsUptoRow, standIns := [], harness := (true, "2e0bdf54040e77cbe8c651c19f647f414d641a95b2e351a8e36f7867a0e232ef"), looks := true }, kinds := [], alts := [], laidByText := true, laidKinds := [.data, .handle, .sentinel, .sentinel, .sentinel, .sentinel, .sentinel, .sentinel, .sentinel, .sentinel, .sentinel, .sentinel, .pinned], laidTests := true, laidLooks := .later }
def PatTellsUptoCardSaid : Prop := Claim7.holds Tryz.pinned (.plain (OpenSpec.upto patTellsSpec)) patTellsUptoCard
end Rows
end Go.Proofs.YtemhofbhmnnijaaGreatDoor
