/-
  DERIVED. GIVEN WITH THE SEED: THE CARDS: each row of YtnkgjddkdikikaaGreatDoorRows.lean that lists a variable, with what it lists TIED to the program's text (the seventh form; the later family's looks); each row that meets fmt, with fmt's text TOLD by the authors' own Lean function (tested against real Go, not proved from fmt's source: count such statements apart). THE CARD IS WHAT COUNTS. Prove the row's statement (the work); the ties are given (YtnkgjddkdikikaaGreatDoorTie.lean); close each card by the builder's one call (the guide's Derived/Test/ToyasCard.lean, 'card_holds'). Laid BY PROGRAM, IN A SANDBOX (cutbox-door.mjs). By AI agents, Wed Nov 11 2026. No macro, syntax, notation, axiom, sorry.
-/
import Derived.Test.YtnkgjddkdikikaaGreatDoorRows
import GoSem.ClaimSeven
namespace Go.Proofs.YtnkgjddkdikikaaGreatDoor
namespace Rows

/-- THE TIED CARD OF 'pewholderlaw1.IndexLatest'. -/
def indexLatestCard : Claim7 := { stood := { row := indexLatestRow, standIns := [], harness := (true, "498d1640839de11a4221246748efaba4530a3fa529b287076018e0b4232ee6de"), looks := true }, kinds := [], alts := [], laidByText := true, laidKinds := [.data, .data, .data, .data, .handle, .sentinel, .sentinel, .sentinel, .sentinel, .sentinel, .sentinel, .sentinel, .sentinel, .sentinel, .sentinel, .pinned], laidTests := true, laidLooks := .later }
def IndexLatestCardSaid : Prop := Claim7.holds Tryz.pinned (.plain (OpenSpec.ofChange indexLatestSpec)) indexLatestCard

/-- THE TIED CARD OF 'pewholderlaw2.GraphWays'. -/
def graphWaysCard : Claim7 := { stood := { row := graphWaysRow, standIns := [], harness := (true, "498d1640839de11a4221246748efaba4530a3fa529b287076018e0b4232ee6de"), looks := true }, kinds := [], alts := [], laidByText := true, laidKinds := [.data, .handle, .sentinel, .sentinel, .sentinel, .sentinel, .sentinel, .sentinel, .sentinel, .pinned], laidTests := true, laidLooks := .later }
def GraphWaysCardSaid : Prop := Claim7.holds Tryz.pinned (.plain (OpenSpec.ofChange graphWaysSpec)) graphWaysCard

/-- THE TIED CARD OF 'pewholderlaw2.GraphAdds'. -/
def graphAddsCard : Claim7 := { stood := { row := graphAddsRow, standIns := [], harness := (true, "498d1640839de11a4221246748efaba4530a3fa529b287076018e0b4232ee6de"), looks := true }, kinds := [], alts := [], laidByText := true, laidKinds := [.data, .handle, .sentinel, .sentinel, .sentinel, .sentinel, .sentinel, .sentinel, .sentinel, .pinned], laidTests := true, laidLooks := .later }
def GraphAddsCardSaid : Prop := Claim7.holds Tryz.pinned (.plain (OpenSpec.ofChange graphAddsSpec)) graphAddsCard

/-- THE TIED CARD OF 'pewholderlaw3.QueryHolds'. -/
def queryHoldsCard : Claim7 := { stood := { row := queryHoldsRow, standIns := [], harness := (true, "498d1640839de11a4221246748efaba4530a3fa529b287076018e0b4232ee6de"), looks := true }, kinds := [], alts := [], laidByText := true, laidKinds := [.data, .data, .data, .data, .handle, .sentinel, .sentinel, .sentinel, .sentinel, .sentinel, .sentinel, .sentinel, .pinned], laidTests := true, laidLooks := .later }
def QueryHoldsCardSaid : Prop := Claim7.holds Tryz.pinned (.plain (OpenSpec.ofChange queryHoldsSpec)) queryHoldsCard

/-- THE TIED CARD OF 'pewholderlaw3.QueryPicks'. -/
def queryPicksCard : Claim7 := { stood := { row := queryPicksRow, standIns := [], harness := (true, "498d1640839de11a4221246748efaba4530a3fa529b287076018e0b4232ee6de"), looks := true }, kinds := [], alts := [], laidByText := true, laidKinds := [.data, .data, .data, .data, .handle, .sentinel, .sentinel, .sentinel, .sentinel, .sentinel, .sentinel, .sentinel, .sentinel, .sentinel, .sentinel, .pinned], laidTests := true, laidLooks := .later }
def QueryPicksCardSaid : Prop := Claim7.holds Tryz.pinned (.plain (OpenSpec.ofChange queryPicksSpec)) queryPicksCard

/-- THE TIED CARD OF 'pewholderlaw3.QuerySplits'. -/
def querySplitsCard : Claim7 := { stood := { row := querySplitsRow, standIns := [], harness := (true, "498d1640839de11a4221246748efaba4530a3fa529b287076018e0b4232ee6de"), looks := true }, kinds := [], alts := [], laidByText := true, laidKinds := [.data, .data, .data, .data, .handle, .sentinel, .sentinel, .sentinel, .sentinel, .sentinel, .sentinel, .sentinel, .pinned], laidTests := true, laidLooks := .later }
def QuerySplitsCardSaid : Prop := Claim7.holds Tryz.pinned (.plain (OpenSpec.ofChange querySplitsSpec)) querySplitsCard

/-- THE TIED CARD OF 'pewholderlaw3.PkgOnes'. -/
def pkgOnesCard : Claim7 := { stood := { row := pkgOnesRow, standIns := [], harness := (true, "498d1640839de11a4221246748efaba4530a3fa529b287076018e0b4232ee6de"), looks := true }, kinds := [], alts := [], laidByText := true, laidKinds := [.data, .handle, .sentinel, .sentinel, .sentinel, .sentinel, .sentinel, .sentinel, .sentinel, .pinned], laidTests := true, laidLooks := .later }
def PkgOnesCardSaid : Prop := Claim7.holds Tryz.pinned (.plain (OpenSpec.ofChange pkgOnesSpec)) pkgOnesCard

/-- THE TIED CARD OF 'pewholderlaw3.PkgTells'. -/
def pkgTellsCard : Claim7 := { stood := { row := pkgTellsRow, standIns := [], harness := (true, "498d1640839de11a4221246748efaba4530a3fa529b287076018e0b4232ee6de"), looks := true }, kinds := [], alts := [], laidByText := true, laidKinds := [.data, .data, .data, .data, .handle, .sentinel, .sentinel, .sentinel, .sentinel, .sentinel, .sentinel, .sentinel, .sentinel, .sentinel, .sentinel, .pinned], laidTests := true, laidLooks := .later }
def PkgTellsCardSaid : Prop := Claim7.holds Tryz.pinned (.plain (OpenSpec.ofChange pkgTellsSpec)) pkgTellsCard

/-- THE TIED CARD OF 'pewholderlaw3.PkgWho'. -/
def pkgWhoCard : Claim7 := { stood := { row := pkgWhoRow, standIns := [], harness := (true, "498d1640839de11a4221246748efaba4530a3fa529b287076018e0b4232ee6de"), looks := true }, kinds := [], alts := [], laidByText := true, laidKinds := [.data, .data, .data, .data, .handle, .sentinel, .sentinel, .sentinel, .sentinel, .sentinel, .sentinel, .sentinel, .pinned], laidTests := true, laidLooks := .later }
def PkgWhoCardSaid : Prop := Claim7.holds Tryz.pinned (.plain (OpenSpec.ofChange pkgWhoSpec)) pkgWhoCard

/-- THE SECOND FORM's CARD OF 'pewholderlaw1.IndexLatest'. -/
def indexLatestUptoCard : Claim7 := { stood := { row := indexLatestUptoRow, standIns := [], harness := (true, "498d1640839de11a4221246748efaba4530a3fa529b287076018e0b4232ee6de"), looks := true }, kinds := [], alts := [], laidByText := true, laidKinds := [.data, .data, .data, .data, .handle, .sentinel, .sentinel, .sentinel, .sentinel, .sentinel, .sentinel, .sentinel, .sentinel, .sentinel, .sentinel, .pinned], laidTests := true, laidLooks := .later }
def IndexLatestUptoCardSaid : Prop := Claim7.holds Tryz.pinned (.plain (OpenSpec.upto indexLatestSpec)) indexLatestUptoCard

/-- THE SECOND FORM's CARD OF 'pewholderlaw2.GraphWays'. -/
def graphWaysUptoCard : Claim7 := { stood := { row := graphWaysUptoRow, standIns := [], harness := (true, "498d1640839de11a4221246748efaba4530a3fa529b287076018e0b4232ee6de"), looks := true }, kinds := [], alts := [], laidByText := true, laidKinds := [.data, .handle, .sentinel, .sentinel, .sentinel, .sentinel, .sentinel, .sentinel, .sentinel, .pinned], laidTests := true, laidLooks := .later }
def GraphWaysUptoCardSaid : Prop := Claim7.holds Tryz.pinned (.plain (OpenSpec.upto graphWaysSpec)) graphWaysUptoCard

/-- THE SECOND FORM's CARD OF 'pewholderlaw2.GraphAdds'. -/
def graphAddsUptoCard : Claim7 := { stood := { row := graphAddsUptoRow, standIns := [], harness := (true, "498d1640839de11a4221246748efaba4530a3fa529b287076018e0b4232ee6de"), looks := true }, kinds := [], alts := [], laidByText := true, laidKinds := [.data, .handle, .sentinel, .sentinel, .sentinel, .sentinel, .sentinel, .sentinel, .sentinel, .pinned], laidTests := true, laidLooks := .later }
def GraphAddsUptoCardSaid : Prop := Claim7.holds Tryz.pinned (.plain (OpenSpec.upto graphAddsSpec)) graphAddsUptoCard

/-- THE SECOND FORM's CARD OF 'pewholderlaw3.QueryHolds'. -/
def queryHoldsUptoCard : Claim7 := { stood := { row := queryHoldsUptoRow, standIns := [], harness := (true, "498d1640839de11a4221246748efaba4530a3fa529b287076018e0b4232ee6de"), looks := true }, kinds := [], alts := [], laidByText := true, laidKinds := [.data, .data, .data, .data, .handle, .sentinel, .sentinel, .sentinel, .sentinel, .sentinel, .sentinel, .sentinel, .pinned], laidTests := true, laidLooks := .later }
def QueryHoldsUptoCardSaid : Prop := Claim7.holds Tryz.pinned (.plain (OpenSpec.upto queryHoldsSpec)) queryHoldsUptoCard

/-- THE SECOND FORM's CARD OF 'pewholderlaw3.QueryPicks'. -/
def queryPicksUptoCard : Claim7 := { stood := { row := queryPicksUptoRow, standIns := [], harness := (true, "498d1640839de11a4221246748efaba4530a3fa529b287076018e0b4232ee6de"), looks := true }, kinds := [], alts := [], laidByText := true, laidKinds := [.data, .data, .data, .data, .handle, .sentinel, .sentinel, .sentinel, .sentinel, .sentinel, .sentinel, .sentinel, .sentinel, .sentinel, .sentinel, .pinned], laidTests := true, laidLooks := .later }
def QueryPicksUptoCardSaid : Prop := Claim7.holds Tryz.pinned (.plain (OpenSpec.upto queryPicksSpec)) queryPicksUptoCard

/-- THE SECOND FORM's CARD OF 'pewholderlaw3.QuerySplits'. -/
def querySplitsUptoCard : Claim7 := { stood := { row := querySplitsUptoRow, standIns := [], harness := (true, "498d1640839de11a4221246748efaba4530a3fa529b287076018e0b4232ee6de"), looks := true }, kinds := [], alts := [], laidByText := true, laidKinds := [.data, .data, .data, .data, .handle, .sentinel, .sentinel, .sentinel, .sentinel, .sentinel, .sentinel, .sentinel, .pinned], laidTests := true, laidLooks := .later }
def QuerySplitsUptoCardSaid : Prop := Claim7.holds Tryz.pinned (.plain (OpenSpec.upto querySplitsSpec)) querySplitsUptoCard

/-- THE SECOND FORM's CARD OF 'pewholderlaw3.PkgOnes'. -/
def pkgOnesUptoCard : Claim7 := { stood := { row := pkgOnesUptoRow, standIns := [], harness := (true, "498d1640839de11a4221246748efaba4530a3fa529b287076018e0b4232ee6de"), looks := true }, kinds := [], alts := [], laidByText := true, laidKinds := [.data, .handle, .sentinel, .sentinel, .sentinel, .sentinel, .sentinel, .sentinel, .sentinel, .pinned], laidTests := true, laidLooks := .later }
def PkgOnesUptoCardSaid : Prop := Claim7.holds Tryz.pinned (.plain (OpenSpec.upto pkgOnesSpec)) pkgOnesUptoCard

/-- THE SECOND FORM's CARD OF 'pewholderlaw3.PkgTells'. -/
def pkgTellsUptoCard : Claim7 := { stood := { row := pkgTellsUptoRow, standIns := [], harness := (true, "498d1640839de11a4221246748efaba4530a3fa529b287076018e0b4232ee6de"), looks := true }, kinds := [], alts := [], laidByText := true, laidKinds := [.data, .data, .data, .data, .handle, .sentinel, .sentinel, .sentinel, .sentinel, .sentinel, .sentinel, .sentinel, .sentinel, .sentinel, .sentinel, .pinned], laidTests := true, laidLooks := .later }
def PkgTellsUptoCardSaid : Prop := Claim7.holds Tryz.pinned (.plain (OpenSpec.upto pkgTellsSpec)) pkgTellsUptoCard

/-- THE SECOND FORM's CARD OF 'pewholderlaw3.PkgWho'. -/
def pkgWhoUptoCard : Claim7 := { stood := { row := pkgWhoUptoRow, standIns := [], harness := (true, "498d1640839de11a4221246748efaba4530a3fa529b287076018e0b4232ee6de"), looks := true }, kinds := [], alts := [], laidByText := true, laidKinds := [.data, .data, .data, .data, .handle, .sentinel, .sentinel, .sentinel, .sentinel, .sentinel, .sentinel, .sentinel, .pinned], laidTests := true, laidLooks := .later }
def PkgWhoUptoCardSaid : Prop := Claim7.holds Tryz.pinned (.plain (OpenSpec.upto pkgWhoSpec)) pkgWhoUptoCard
end Rows
end Go.Proofs.YtnkgjddkdikikaaGreatDoor
