/-
  closed facts of the row
-/
import Derived.Test.YtnkgjddkdikikaaGreatDoorCards
import Derived.Test.YtnkgjddkdikikaaGreatDoorTie
import Derived.SevenTiedAt
import Derived.MakeChecks
import Derived.ChangeMaps5
import Derived.Carry
import Derived.ChangeAt
import Derived.Lib.SmallJoins
namespace Go.Proofs.YtnkgjddkdikikaaGreatDoor
open Go.ChangeShapes Go.WideShapes Go.ChangeAt Go.RowKit Go.ChangeMaps Go.Joins
theorem queryHolds_factI : (Rows.queryHoldsRow.inPlace == Tryz.pinned.checked.prog.inPlace 6) = true := by kernel_rfl
theorem queryHolds_factU : (Rows.queryHoldsRow.unfollowed == Tryz.pinned.checked.prog.unfollowed 6) = true := by kernel_rfl
theorem queryHolds_factR : (Rows.queryHoldsRow.recurses == Tryz.pinned.checked.prog.recurses 6) = true := by kernel_rfl
theorem queryHolds_factN : (Rows.queryHoldsRow.named == Tryz.pinned.checked.prog.varsNamed 6) = true := by kernel_rfl
theorem queryHolds_facts : joinedFacts Tryz.pinned.checked.prog 6 Tryz.f6 Rows.queryHoldsSpec Rows.queryHoldsRow = true := by
  unfold joinedFacts
  rw [queryHolds_factI, queryHolds_factU, queryHolds_factR, queryHolds_factN]
  kernel_rfl
end Go.Proofs.YtnkgjddkdikikaaGreatDoor
