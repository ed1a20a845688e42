/-
  DERIVED. GIVEN WITH THE SEED: THE CARDS: each row of YtacggkigfjpfnaaGreatDoorRows.lean that lists a variable, with what it lists TIED to the program's text (the seventh form; the later family's looks); each row that meets fmt, with fmt's text TOLD by the authors' own Lean function (tested against real Go, not proved from fmt's source: count such statements apart). THE CARD IS WHAT COUNTS. Prove the row's statement (the work); the ties are given (YtacggkigfjpfnaaGreatDoorTie.lean); close each card by the builder's one call (the guide's Derived/Test/ToyasCard.lean, 'card_holds'). Laid BY PROGRAM, IN A SANDBOX (cutbox-door.mjs). By AI agents, Wed Nov 11 2026. No macro, syntax, notation, axiom, sorry.
-/
import Derived.Test.YtacggkigfjpfnaaGreatDoorRows
import GoSem.ClaimSeven
namespace Go.Proofs.YtacggkigfjpfnaaGreatDoor
namespace Rows

/-- THE TIED CARD OF 'pewholderlaw2.TrimLeast'. -/
def trimLeastCard : Claim7 := { stood := { row := trimLeastRow, standIns := [], harness := (true, "049525d66ac4a079682ea2e501cc952d1a18ac45aa55e1e2675d352fecc126e9"), looks := true }, kinds := [], alts := [], laidByText := true, laidKinds := [.data, .handle, .sentinel, .sentinel, .sentinel, .sentinel, .sentinel, .sentinel, .sentinel, .pinned], laidTests := true, laidLooks := .later }
def TrimLeastCardSaid : Prop := Claim7.holds Tryz.pinned (.plain (OpenSpec.ofChange trimLeastSpec)) trimLeastCard

/-- THE TIED CARD OF 'pewholderlaw2.TrimTells'. -/
def trimTellsCard : Claim7 := { stood := { row := trimTellsRow, standIns := [], harness := (true, "049525d66ac4a079682ea2e501cc952d1a18ac45aa55e1e2675d352fecc126e9"), looks := true }, kinds := [], alts := [], laidByText := true, laidKinds := [.data, .handle, .sentinel, .sentinel, .sentinel, .sentinel, .sentinel, .sentinel, .sentinel, .sentinel, .sentinel, .sentinel, .pinned], laidTests := true, laidLooks := .later }
def TrimTellsCardSaid : Prop := Claim7.holds Tryz.pinned (.plain (OpenSpec.ofChange trimTellsSpec)) trimTellsCard

/-- THE SECOND FORM's CARD OF 'pewholderlaw2.TrimLeast'. -/
def trimLeastUptoCard : Claim7 := { stood := { row := trimLeastUptoRow, standIns := [], harness := (true, "049525d66ac4a079682ea2e501cc952d1a18ac45aa55e1e2675d352fecc126e9"), looks := true }, kinds := [], alts := [], laidByText := true, laidKinds := [.data, .handle, .sentinel, .sentinel, .sentinel, .sentinel, .sentinel, .sentinel, .sentinel, .pinned], laidTests := true, laidLooks := .later }
def TrimLeastUptoCardSaid : Prop := Claim7.holds Tryz.pinned (.plain (OpenSpec.upto trimLeastSpec)) trimLeastUptoCard

/-- THE SECOND FORM's CARD OF 'pewholderlaw2.TrimTells'. -/
def trimTellsUptoCard : Claim7 := { stood := { row := trimTellsUptoRow, standIns := [], harness := (true, "049525d66ac4a079682ea2e501cc952d1a18ac45aa55e1e2675d352fecc126e9"), looks := true }, kinds := [], alts := [], laidByText := true, laidKinds := [.data, .handle, .sentinel, .sentinel, .sentinel, .sentinel, .sentinel, .sentinel, .sentinel, .sentinel, .sentinel, .sentinel, .pinned], laidTests := true, laidLooks := .later }
def TrimTellsUptoCardSaid : Prop := Claim7.holds Tryz.pinned (.plain (OpenSpec.upto trimTellsSpec)) trimTellsUptoCard
end Rows
end Go.Proofs.YtacggkigfjpfnaaGreatDoor
