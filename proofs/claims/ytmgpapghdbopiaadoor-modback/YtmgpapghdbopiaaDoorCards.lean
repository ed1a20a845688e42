/-
  DERIVED. GIVEN WITH THE SEED: THE CARDS: each row of YtmgpapghdbopiaaDoorRows.lean that lists a variable, with what it lists TIED to the program's text (the seventh form; the later family's looks); each row that meets fmt, with fmt's text TOLD by the authors' own Lean function (tested against real Go, not proved from fmt's source: count such statements apart). THE CARD IS WHAT COUNTS. Prove the row's statement (the work); the ties are given (YtmgpapghdbopiaaDoorTie.lean); close each card by the builder's one call (the guide's Derived/Test/ToyasCard.lean, 'card_holds'). Laid BY PROGRAM, IN A SANDBOX (cutbox-door.mjs). By AI agents, Wed Nov 11 2026. No macro, syntax, notation, axiom, sorry.
-/
import Derived.Test.YtmgpapghdbopiaaDoorRows
import GoSem.ClaimSeven
namespace Go.Proofs.YtmgpapghdbopiaaDoor
namespace Rows

/-- THE TIED CARD OF 'pewholderlaw1.VerTexts'. -/
def verTextsCard : Claim7 := { stood := { row := verTextsRow, standIns := [], harness := (true, "ab7ee6c79375c9e8b2e8808077a1875524cdd908e14dcde0954a989b722baacb"), looks := true }, kinds := [], alts := [], laidByText := true, laidKinds := [.data, .data, .data, .data, .sentinel, .sentinel, .pinned], laidTests := true, laidLooks := .later }
def VerTextsCardSaid : Prop := Claim7.holds Tryd.pinned (.plain (OpenSpec.ofChange verTextsSpec)) verTextsCard

/-- THE TIED CARD OF 'pewholderlaw1.ModBack'. -/
def modBackCard : Claim7 := { stood := { row := modBackRow, standIns := [], harness := (true, "ab7ee6c79375c9e8b2e8808077a1875524cdd908e14dcde0954a989b722baacb"), looks := true }, kinds := [], alts := [], laidByText := true, laidKinds := [.data, .sentinel, .sentinel, .sentinel, .pinned], laidTests := true, laidLooks := .later }
def ModBackCardSaid : Prop := Claim7.holds Tryd.pinned (.plain (OpenSpec.ofChange modBackSpec)) modBackCard

/-- THE SECOND FORM's CARD OF 'pewholderlaw1.VerTexts'. -/
def verTextsUptoCard : Claim7 := { stood := { row := verTextsUptoRow, standIns := [], harness := (true, "ab7ee6c79375c9e8b2e8808077a1875524cdd908e14dcde0954a989b722baacb"), looks := true }, kinds := [], alts := [], laidByText := true, laidKinds := [.data, .data, .data, .data, .sentinel, .sentinel, .pinned], laidTests := true, laidLooks := .later }
def VerTextsUptoCardSaid : Prop := Claim7.holds Tryd.pinned (.plain (OpenSpec.upto verTextsSpec)) verTextsUptoCard

/-- THE SECOND FORM's CARD OF 'pewholderlaw1.ModBack'. -/
def modBackUptoCard : Claim7 := { stood := { row := modBackUptoRow, standIns := [], harness := (true, "ab7ee6c79375c9e8b2e8808077a1875524cdd908e14dcde0954a989b722baacb"), looks := true }, kinds := [], alts := [], laidByText := true, laidKinds := [.data, .sentinel, .sentinel, .sentinel, .pinned], laidTests := true, laidLooks := .later }
def ModBackUptoCardSaid : Prop := Claim7.holds Tryd.pinned (.plain (OpenSpec.upto modBackSpec)) modBackUptoCard
end Rows
end Go.Proofs.YtmgpapghdbopiaaDoor
