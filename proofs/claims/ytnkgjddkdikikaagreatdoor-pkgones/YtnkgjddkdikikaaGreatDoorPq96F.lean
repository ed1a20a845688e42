/-
  closed facts of the row
-/
import Derived.Test.YtnkgjddkdikikaaGreatDoorCards
import Derived.Test.YtnkgjddkdikikaaGreatDoorTie
import Derived.SevenTiedAt
import Derived.MakeChecks
import Derived.ChangeMaps5
import Derived.Carry
import Derived.ChangeAt
import Derived.Lib.SmallJoins
namespace Go.Proofs.YtnkgjddkdikikaaGreatDoor
open Go.ChangeShapes Go.WideShapes Go.ChangeAt Go.RowKit Go.ChangeMaps Go.Joins
theorem pkgOnes_factI : (Rows.pkgOnesRow.inPlace == Tryz.pinned.checked.prog.inPlace 9) = true := by kernel_rfl
theorem pkgOnes_factU : (Rows.pkgOnesRow.unfollowed == Tryz.pinned.checked.prog.unfollowed 9) = true := by kernel_rfl
theorem pkgOnes_factR : (Rows.pkgOnesRow.recurses == Tryz.pinned.checked.prog.recurses 9) = true := by kernel_rfl
theorem pkgOnes_factN : (Rows.pkgOnesRow.named == Tryz.pinned.checked.prog.varsNamed 9) = true := by kernel_rfl
theorem pkgOnes_facts : joinedFacts Tryz.pinned.checked.prog 9 Tryz.f9 Rows.pkgOnesSpec Rows.pkgOnesRow = true := by
  unfold joinedFacts
  rw [pkgOnes_factI, pkgOnes_factU, pkgOnes_factR, pkgOnes_factN]
  kernel_rfl
end Go.Proofs.YtnkgjddkdikikaaGreatDoor
