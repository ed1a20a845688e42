/-
  closed facts of the row
-/
import Derived.Test.YtnkgjddkdikikaaGreatDoorCards
import Derived.Test.YtnkgjddkdikikaaGreatDoorTie
import Derived.SevenTiedAt
import Derived.MakeChecks
import Derived.ChangeMaps5
import Derived.Carry
import Derived.ChangeAt
import Derived.Lib.SmallJoins
namespace Go.Proofs.YtnkgjddkdikikaaGreatDoor
open Go.ChangeShapes Go.WideShapes Go.ChangeAt Go.RowKit Go.ChangeMaps Go.Joins
theorem graphWays_factI : (Rows.graphWaysRow.inPlace == Tryz.pinned.checked.prog.inPlace 4) = true := by kernel_rfl
theorem graphWays_factU : (Rows.graphWaysRow.unfollowed == Tryz.pinned.checked.prog.unfollowed 4) = true := by kernel_rfl
theorem graphWays_factR : (Rows.graphWaysRow.recurses == Tryz.pinned.checked.prog.recurses 4) = true := by kernel_rfl
theorem graphWays_factN : (Rows.graphWaysRow.named == Tryz.pinned.checked.prog.varsNamed 4) = true := by kernel_rfl
theorem graphWays_facts : joinedFacts Tryz.pinned.checked.prog 4 Tryz.f4 Rows.graphWaysSpec Rows.graphWaysRow = true := by
  unfold joinedFacts
  rw [graphWays_factI, graphWays_factU, graphWays_factR, graphWays_factN]
  kernel_rfl
end Go.Proofs.YtnkgjddkdikikaaGreatDoor
