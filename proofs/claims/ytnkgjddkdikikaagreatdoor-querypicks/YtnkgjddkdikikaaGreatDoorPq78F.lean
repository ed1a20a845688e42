/-
  closed facts of the row
-/
import Derived.Test.YtnkgjddkdikikaaGreatDoorCards
import Derived.Test.YtnkgjddkdikikaaGreatDoorTie
import Derived.SevenTiedAt
import Derived.MakeChecks
import Derived.ChangeMaps5
import Derived.Carry
import Derived.ChangeAt
import Derived.Lib.SmallJoins
namespace Go.Proofs.YtnkgjddkdikikaaGreatDoor
open Go.ChangeShapes Go.WideShapes Go.ChangeAt Go.RowKit Go.ChangeMaps Go.Joins
theorem queryPicks_factI : (Rows.queryPicksRow.inPlace == Tryz.pinned.checked.prog.inPlace 7) = true := by kernel_rfl
theorem queryPicks_factU : (Rows.queryPicksRow.unfollowed == Tryz.pinned.checked.prog.unfollowed 7) = true := by kernel_rfl
theorem queryPicks_factR : (Rows.queryPicksRow.recurses == Tryz.pinned.checked.prog.recurses 7) = true := by kernel_rfl
theorem queryPicks_factN : (Rows.queryPicksRow.named == Tryz.pinned.checked.prog.varsNamed 7) = true := by kernel_rfl
theorem queryPicks_facts : joinedFacts Tryz.pinned.checked.prog 7 Tryz.f7 Rows.queryPicksSpec Rows.queryPicksRow = true := by
  unfold joinedFacts
  rw [queryPicks_factI, queryPicks_factU, queryPicks_factR, queryPicks_factN]
  kernel_rfl
end Go.Proofs.YtnkgjddkdikikaaGreatDoor
