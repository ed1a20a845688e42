/-
  DERIVED. GIVEN WITH THE SEED: THE CARDS: each row of YtjhiajeeijfkeaaGreatDoorRows.lean that lists a variable, with what it lists TIED to the program's text (the seventh form; the later family's looks); each row that meets fmt, with fmt's text TOLD by the authors' own Lean function (tested against real Go, not proved from fmt's source: count such statements apart). THE CARD IS WHAT COUNTS. Prove the row's statement (the work); the ties are given (YtjhiajeeijfkeaaGreatDoorTie.lean); close each card by the builder's one call (the guide's Derived/Test/ToyasCard.lean, 'card_holds'). Laid BY PROGRAM, IN A SANDBOX (cutbox-door.mjs). By AI agents, Wed Nov 11 2026. No macro, syntax, notation, axiom, sorry.
-/
import Derived.Test.YtjhiajeeijfkeaaGreatDoorRows
import GoSem.ClaimSeven
namespace Go.Proofs.YtjhiajeeijfkeaaGreatDoor
namespace Rows

/-- THE TIED CARD OF 'pewholderlaw2.DownCaps'. -/
def downCapsCard : Claim7 := { stood := { row := downCapsRow, standIns := [], harness := (true, "2ec704eb32e616cb718c7d5f42e387914ff37ef132817d3fe281f7e1f05b3cae"), looks := true }, kinds := [], alts := [], laidByText := true, laidKinds := [.data, .handle, .sentinel, .sentinel, .sentinel, .sentinel, .sentinel, .sentinel, .sentinel, .pinned], laidTests := true, laidLooks := .later }
def DownCapsCardSaid : Prop := Claim7.holds Tryz.pinned (.plain (OpenSpec.ofChange downCapsSpec)) downCapsCard

/-- THE TIED CARD OF 'pewholderlaw2.DownTells'. -/
def downTellsCard : Claim7 := { stood := { row := downTellsRow, standIns := [], harness := (true, "2ec704eb32e616cb718c7d5f42e387914ff37ef132817d3fe281f7e1f05b3cae"), looks := true }, kinds := [], alts := [], laidByText := true, laidKinds := [.data, .handle, .sentinel, .sentinel, .sentinel, .sentinel, .sentinel, .sentinel, .sentinel, .sentinel, .sentinel, .sentinel, .pinned], laidTests := true, laidLooks := .later }
def DownTellsCardSaid : Prop := Claim7.holds Tryz.pinned (.plain (OpenSpec.ofChange downTellsSpec)) downTellsCard

/-- THE TIED CARD OF 'pewholderlaw2.DownAgain'. -/
def downAgainCard : Claim7 := { stood := { row := downAgainRow, standIns := [], harness := (true, "2ec704eb32e616cb718c7d5f42e387914ff37ef132817d3fe281f7e1f05b3cae"), looks := true }, kinds := [], alts := [], laidByText := true, laidKinds := [.data, .handle, .sentinel, .sentinel, .sentinel, .sentinel, .sentinel, .sentinel, .sentinel, .pinned], laidTests := true, laidLooks := .later }
def DownAgainCardSaid : Prop := Claim7.holds Tryz.pinned (.plain (OpenSpec.ofChange downAgainSpec)) downAgainCard

/-- THE SECOND FORM's CARD OF 'pewholderlaw2.DownCaps'. -/
def downCapsUptoCard : Claim7 := { stood := { row := downCapsUptoRow, standIns := [], harness := (true, "2ec704eb32e616cb718c7d5f42e387914ff37ef132817d3fe281f7e1f05b3cae"), looks := true }, kinds := [], alts := [], laidByText := true, laidKinds := [.data, .handle, .sentinel, .sentinel, .sentinel, .sentinel, .sentinel, .sentinel, .sentinel, .pinned], laidTests := true, laidLooks := .later }
def DownCapsUptoCardSaid : Prop := Claim7.holds Tryz.pinned (.plain (OpenSpec.upto downCapsSpec)) downCapsUptoCard

/-- THE SECOND FORM's CARD OF 'pewholderlaw2.DownTells'. -/
def downTellsUptoCard : Claim7 := { stood := { row := downTellsUptoRow, standIns := [], harness := (true, "2ec704eb32e616cb718c7d5f42e387914ff37ef132817d3fe281f7e1f05b3cae"), looks := true }, kinds := [], alts := [], laidByText := true, laidKinds := [.data, .handle, .sentinel, .sentinel, .sentinel, .sentinel, .sentinel, .sentinel, .sentinel, .sentinel, .sentinel, .sentinel, .pinned], laidTests := true, laidLooks := .later }
def DownTellsUptoCardSaid : Prop := Claim7.holds Tryz.pinned (.plain (OpenSpec.upto downTellsSpec)) downTellsUptoCard

/-- THE SECOND FORM's CARD OF 'pewholderlaw2.DownAgain'. -/
def downAgainUptoCard : Claim7 := { stood := { row := downAgainUptoRow, standIns := [], harness := (true, "2ec704eb32e616cb718c7d5f42e387914ff37ef132817d3fe281f7e1f05b3cae"), looks := true }, kinds := [], alts := [], laidByText := true, laidKinds := [.data, .handle, .sentinel, .sentinel, .sentinel, .sentinel, .sentinel, .sentinel, .sentinel, .pinned], laidTests := true, laidLooks := .later }
def DownAgainUptoCardSaid : Prop := Claim7.holds Tryz.pinned (.plain (OpenSpec.upto downAgainSpec)) downAgainUptoCard
end Rows
end Go.Proofs.YtjhiajeeijfkeaaGreatDoor
