/-
  closed facts of the row
-/
import Derived.Test.YtnkgjddkdikikaaGreatDoorCards
import Derived.Test.YtnkgjddkdikikaaGreatDoorTie
import Derived.SevenTiedAt
import Derived.MakeChecks
import Derived.ChangeMaps5
import Derived.Carry
import Derived.ChangeAt
import Derived.Lib.SmallJoins
namespace Go.Proofs.YtnkgjddkdikikaaGreatDoor
open Go.ChangeShapes Go.WideShapes Go.ChangeAt Go.RowKit Go.ChangeMaps Go.Joins
theorem querySplits_factI : (Rows.querySplitsRow.inPlace == Tryz.pinned.checked.prog.inPlace 8) = true := by kernel_rfl
theorem querySplits_factU : (Rows.querySplitsRow.unfollowed == Tryz.pinned.checked.prog.unfollowed 8) = true := by kernel_rfl
theorem querySplits_factR : (Rows.querySplitsRow.recurses == Tryz.pinned.checked.prog.recurses 8) = true := by kernel_rfl
theorem querySplits_factN : (Rows.querySplitsRow.named == Tryz.pinned.checked.prog.varsNamed 8) = true := by kernel_rfl
theorem querySplits_facts : joinedFacts Tryz.pinned.checked.prog 8 Tryz.f8 Rows.querySplitsSpec Rows.querySplitsRow = true := by
  unfold joinedFacts
  rw [querySplits_factI, querySplits_factU, querySplits_factR, querySplits_factN]
  kernel_rfl
end Go.Proofs.YtnkgjddkdikikaaGreatDoor
