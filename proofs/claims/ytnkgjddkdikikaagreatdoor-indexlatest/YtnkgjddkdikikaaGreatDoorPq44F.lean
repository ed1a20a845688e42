/-
  closed facts of the row
-/
import Derived.Test.YtnkgjddkdikikaaGreatDoorCards
import Derived.Test.YtnkgjddkdikikaaGreatDoorTie
import Derived.SevenTiedAt
import Derived.MakeChecks
import Derived.ChangeMaps5
import Derived.Carry
import Derived.ChangeAt
import Derived.Lib.SmallJoins
namespace Go.Proofs.YtnkgjddkdikikaaGreatDoor
open Go.ChangeShapes Go.WideShapes Go.ChangeAt Go.RowKit Go.ChangeMaps Go.Joins
theorem indexLatest_factI : (Rows.indexLatestRow.inPlace == Tryz.pinned.checked.prog.inPlace 3) = true := by kernel_rfl
theorem indexLatest_factU : (Rows.indexLatestRow.unfollowed == Tryz.pinned.checked.prog.unfollowed 3) = true := by kernel_rfl
theorem indexLatest_factR : (Rows.indexLatestRow.recurses == Tryz.pinned.checked.prog.recurses 3) = true := by kernel_rfl
theorem indexLatest_factN : (Rows.indexLatestRow.named == Tryz.pinned.checked.prog.varsNamed 3) = true := by kernel_rfl
theorem indexLatest_facts : joinedFacts Tryz.pinned.checked.prog 3 Tryz.f3 Rows.indexLatestSpec Rows.indexLatestRow = true := by
  unfold joinedFacts
  rw [indexLatest_factI, indexLatest_factU, indexLatest_factR, indexLatest_factN]
  kernel_rfl
end Go.Proofs.YtnkgjddkdikikaaGreatDoor
