/-
  closed facts of the row
-/
import Derived.Test.YtnkgjddkdikikaaGreatDoorCards
import Derived.Test.YtnkgjddkdikikaaGreatDoorTie
import Derived.SevenTiedAt
import Derived.MakeChecks
import Derived.ChangeMaps5
import Derived.Carry
import Derived.ChangeAt
import Derived.Lib.SmallJoins
namespace Go.Proofs.YtnkgjddkdikikaaGreatDoor
open Go.ChangeShapes Go.WideShapes Go.ChangeAt Go.RowKit Go.ChangeMaps Go.Joins
theorem pkgTells_factI : (Rows.pkgTellsRow.inPlace == Tryz.pinned.checked.prog.inPlace 10) = true := by kernel_rfl
theorem pkgTells_factU : (Rows.pkgTellsRow.unfollowed == Tryz.pinned.checked.prog.unfollowed 10) = true := by kernel_rfl
theorem pkgTells_factR : (Rows.pkgTellsRow.recurses == Tryz.pinned.checked.prog.recurses 10) = true := by kernel_rfl
theorem pkgTells_factN : (Rows.pkgTellsRow.named == Tryz.pinned.checked.prog.varsNamed 10) = true := by kernel_rfl
theorem pkgTells_facts : joinedFacts Tryz.pinned.checked.prog 10 Tryz.f10 Rows.pkgTellsSpec Rows.pkgTellsRow = true := by
  unfold joinedFacts
  rw [pkgTells_factI, pkgTells_factU, pkgTells_factR, pkgTells_factN]
  kernel_rfl
end Go.Proofs.YtnkgjddkdikikaaGreatDoor
