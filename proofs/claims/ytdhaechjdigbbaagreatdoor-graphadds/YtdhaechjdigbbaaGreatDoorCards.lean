/-
  DERIVED. GIVEN WITH THE SEED: THE CARDS: each row of YtdhaechjdigbbaaGreatDoorRows.lean that lists a variable, with what it lists TIED to the program's text (the seventh form; the later family's looks); each row that meets fmt, with fmt's text TOLD by the authors' own Lean function (tested against real Go, not proved from fmt's source: count such statements apart). THE CARD IS WHAT COUNTS. Prove the row's statement (the work); the ties are given (YtdhaechjdigbbaaGreatDoorTie.lean); close each card by the builder's one call (the guide's Derived/Test/ToyasCard.lean, 'card_holds'). Laid BY PROGRAM, IN A SANDBOX (cutbox-door.mjs). By AI agents, Wed Nov 11 2026. No macro, syntax, notation, axiom, sorry.
-/
import Derived.Test.YtdhaechjdigbbaaGreatDoorRows
import GoSem.ClaimSeven
namespace Go.Proofs.YtdhaechjdigbbaaGreatDoor
namespace Rows

/-- THE TIED CARD OF 'pewholderlaw1.IndexLatest'. -/
def indexLatestCard : Claim7 := { stood := { row := indexLatestRow, standIns := [], harness := (true, "56c8c5ec7789239e88fd7d3d433dfdfc7b5424a90a2fb5441eb58b96e9bf05d8"), looks := true }, kinds := [], alts := [], laidByText := true, laidKinds := [.data, .data, .data, .data, .handle, .sentinel, .sentinel, .sentinel, .sentinel, .sentinel, .sentinel, .sentinel, .sentinel, .sentinel, .sentinel, .pinned], laidTests := true, laidLooks := .later }
def IndexLatestCardSaid : Prop := Claim7.holds Tryz.pinned (.plain (OpenSpec.ofChange indexLatestSpec)) indexLatestCard

/-- THE TIED CARD OF 'pewholderlaw2.GraphWays'. -/
def graphWaysCard : Claim7 := { stood := { row := graphWaysRow, standIns := [], harness := (true, "56c8c5ec7789239e88fd7d3d433dfdfc7b5424a90a2fb5441eb58b96e9bf05d8"), looks := true }, kinds := [], alts := [], laidByText := true, laidKinds := [.data, .handle, .sentinel, .sentinel, .sentinel, .sentinel, .sentinel, .sentinel, .sentinel, .pinned], laidTests := true, laidLooks := .later }
def GraphWaysCardSaid : Prop := Claim7.holds Tryz.pinned (.plain (OpenSpec.ofChange graphWaysSpec)) graphWaysCard

/-- THE TIED CARD OF 'pewholderlaw2.GraphAdds'. -/
def graphAddsCard : Claim7 := { stood := { row := graphAddsRow, standIns := [], harness := (true, "56c8c5ec7789239e88fd7d3d433dfdfc7b5424a90a2fb5441eb58b96e9bf05d8"), looks := true }, kinds := [], alts := [], laidByText := true, laidKinds := [.data, .handle, .sentinel, .sentinel, .sentinel, .sentinel, .sentinel, .sentinel, .sentinel, .pinned], laidTests := true, laidLooks := .later }
def GraphAddsCardSaid : Prop := Claim7.holds Tryz.pinned (.plain (OpenSpec.ofChange graphAddsSpec)) graphAddsCard

/-- THE SECOND FORM's CARD OF 'pewholderlaw1.IndexLatest'. -/
def indexLatestUptoCard : Claim7 := { stood := { row := indexLatestUptoRow, standIns := [], harness := (true, "56c8c5ec7789239e88fd7d3d433dfdfc7b5424a90a2fb5441eb58b96e9bf05d8"), looks := true }, kinds := [], alts := [], laidByText := true, laidKinds := [.data, .data, .data, .data, .handle, .sentinel, .sentinel, .sentinel, .sentinel, .sentinel, .sentinel, .sentinel, .sentinel, .sentinel, .sentinel, .pinned], laidTests := true, laidLooks := .later }
def IndexLatestUptoCardSaid : Prop := Claim7.holds Tryz.pinned (.plain (OpenSpec.upto indexLatestSpec)) indexLatestUptoCard

/-- THE SECOND FORM's CARD OF 'pewholderlaw2.GraphWays'. -/
def graphWaysUptoCard : Claim7 := { stood := { row := graphWaysUptoRow, standIns := [], harness := (true, "56c8c5ec7789239e88fd7d3d433dfdfc7b5424a90a2fb5441eb58b96e9bf05d8"), looks := true }, kinds := [], alts := [], laidByText := true, laidKinds := [.data, .handle, .sentinel, .sentinel, .sentinel, .sentinel, .sentinel, .sentinel, .sentinel, .pinned], laidTests := true, laidLooks := .later }
def GraphWaysUptoCardSaid : Prop := Claim7.holds Tryz.pinned (.plain (OpenSpec.upto graphWaysSpec)) graphWaysUptoCard

/-- THE SECOND FORM's CARD OF 'pewholderlaw2.GraphAdds'. -/
def graphAddsUptoCard : Claim7 := { stood := { row := graphAddsUptoRow, standIns := [], harness := (true, "56c8c5ec7789239e88fd7d3d433dfdfc7b5424a90a2fb5441eb58b96e9bf05d8"), looks := true }, kinds := [], alts := [], laidByText := true, laidKinds := [.data, .handle, .sentinel, .sentinel, .sentinel, .sentinel, .sentinel, .sentinel, .sentinel, .pinned], laidTests := true, laidLooks := .later }
def GraphAddsUptoCardSaid : Prop := Claim7.holds Tryz.pinned (.plain (OpenSpec.upto graphAddsSpec)) graphAddsUptoCard
end Rows
end Go.Proofs.YtdhaechjdigbbaaGreatDoor
