/-
  DERIVED. GIVEN WITH THE SEED: THE CARDS: each row of YtjndahjfodnllaaGreatDoorRows.lean that lists a variable, with what it lists TIED to the program's text (the seventh form; the later family's looks); each row that meets fmt, with fmt's text TOLD by the authors' own Lean function (tested against real Go, not proved from fmt's source: count such statements apart). THE CARD IS WHAT COUNTS. Prove the row's statement (the work); the ties are given (YtjndahjfodnllaaGreatDoorTie.lean); close each card by the builder's one call (the guide's Derived/Test/ToyasCard.lean, 'card_holds'). Laid BY PROGRAM, IN A SANDBOX (cutbox-door.mjs). By AI agents, Wed Nov 11 2026. No macro, syntax, notation, axiom, sorry.
-/
import Derived.Test.YtjndahjfodnllaaGreatDoorRows
import GoSem.ClaimSeven
namespace Go.Proofs.YtjndahjfodnllaaGreatDoor
namespace Rows

/-- THE TIED CARD OF 'pewholderlaw3.PkgOnes'. -/
def pkgOnesCard : Claim7 := { stood := { row := pkgOnesRow, standIns := [], harness := (true, "a63e4269627bccca8b52164f6520d65e92f005fc3086a6a5a02764c754a95309"), looks := true }, kinds := [], alts := [], laidByText := true, laidKinds := [.data, .handle, .sentinel, .sentinel, .sentinel, .sentinel, .sentinel, .sentinel, .sentinel, .pinned], laidTests := true, laidLooks := .later }
def PkgOnesCardSaid : Prop := Claim7.holds Tryz.pinned (.plain (OpenSpec.ofChange pkgOnesSpec)) pkgOnesCard

/-- THE TIED CARD OF 'pewholderlaw3.PkgTells'. -/
def pkgTellsCard : Claim7 := { stood := { row := pkgTellsRow, standIns := [], harness := (true, "a63e4269627bccca8b52164f6520d65e92f005fc3086a6a5a02764c754a95309"), looks := true }, kinds := [], alts := [], laidByText := true, laidKinds := [.data, .data, .data, .data, .handle, .sentinel, .sentinel, .sentinel, .sentinel, .sentinel, .sentinel, .sentinel, .sentinel, .sentinel, .sentinel, .pinned], laidTests := true, laidLooks := .later }
def PkgTellsCardSaid : Prop := Claim7.holds Tryz.pinned (.plain (OpenSpec.ofChange pkgTellsSpec)) pkgTellsCard

/-- THE TIED CARD OF 'pewholderlaw3.PkgWho'. -/
def pkgWhoCard : Claim7 := { stood := { row := pkgWhoRow, standIns := [], harness := (true, "a63e4269627bccca8b52164f6520d65e92f005fc3086a6a5a02764c754a95309"), looks := true }, kinds := [], alts := [], laidByText := true, laidKinds := [.data, .data, .data, .data, .handle, .sentinel, .sentinel, .sentinel, .sentinel, .sentinel, .sentinel, .sentinel, .pinned], laidTests := true, laidLooks := .later }
def PkgWhoCardSaid : Prop := Claim7.holds Tryz.pinned (.plain (OpenSpec.ofChange pkgWhoSpec)) pkgWhoCard

/-- THE SECOND FORM's CARD OF 'pewholderlaw3.PkgOnes'. -/
def pkgOnesUptoCard : Claim7 := { stood := { row := pkgOnesUptoRow, standIns := [], harness := (true, "a63e4269627bccca8b52164f6520d65e92f005fc3086a6a5a02764c754a95309"), looks := true }, kinds := [], alts := [], laidByText := true, laidKinds := [.data, .handle, .sentinel, .sentinel, .sentinel, .sentinel, .sentinel, .sentinel, .sentinel, .pinned], laidTests := true, laidLooks := .later }
def PkgOnesUptoCardSaid : Prop := Claim7.holds Tryz.pinned (.plain (OpenSpec.upto pkgOnesSpec)) pkgOnesUptoCard

/-- THE SECOND FORM's CARD OF 'pewholderlaw3.PkgTells'. -/
def pkgTellsUptoCard : Claim7 := { stood := { row := pkgTellsUptoRow, standIns := [], harness := (true, "a63e4269627bccca8b52164f6520d65e92f005fc3086a6a5a02764c754a95309"), looks := true }, kinds := [], alts := [], laidByText := true, laidKinds := [.data, .data, .data, .data, .handle, .sentinel, .sentinel, .sentinel, .sentinel, .sentinel, .sentinel, .sentinel, .sentinel, .sentinel, .sentinel, .pinned], laidTests := true, laidLooks := .later }
def PkgTellsUptoCardSaid : Prop := Claim7.holds Tryz.pinned (.plain (OpenSpec.upto pkgTellsSpec)) pkgTellsUptoCard

/-- THE SECOND FORM's CARD OF 'pewholderlaw3.PkgWho'. -/
def pkgWhoUptoCard : Claim7 := { stood := { row := pkgWhoUptoRow, standIns := [], harness := (true, "a63e4269627bccca8b52164f6520d65e92f005fc3086a6a5a02764c754a95309"), looks := true }, kinds := [], alts := [], laidByText := true, laidKinds := [.data, .data, .data, .data, .handle, .sentinel, .sentinel, .sentinel, .sentinel, .sentinel, .sentinel, .sentinel, .pinned], laidTests := true, laidLooks := .later }
def PkgWhoUptoCardSaid : Prop := Claim7.holds Tryz.pinned (.plain (OpenSpec.upto pkgWhoSpec)) pkgWhoUptoCard
end Rows
end Go.Proofs.YtjndahjfodnllaaGreatDoor
