/-
  closed facts of the row
-/
import Derived.Test.YtnkgjddkdikikaaGreatDoorCards
import Derived.Test.YtnkgjddkdikikaaGreatDoorTie
import Derived.SevenTiedAt
import Derived.MakeChecks
import Derived.ChangeMaps5
import Derived.Carry
import Derived.ChangeAt
import Derived.Lib.SmallJoins
namespace Go.Proofs.YtnkgjddkdikikaaGreatDoor
open Go.ChangeShapes Go.WideShapes Go.ChangeAt Go.RowKit Go.ChangeMaps Go.Joins
theorem pkgWho_factI : (Rows.pkgWhoRow.inPlace == Tryz.pinned.checked.prog.inPlace 11) = true := by kernel_rfl
theorem pkgWho_factU : (Rows.pkgWhoRow.unfollowed == Tryz.pinned.checked.prog.unfollowed 11) = true := by kernel_rfl
theorem pkgWho_factR : (Rows.pkgWhoRow.recurses == Tryz.pinned.checked.prog.recurses 11) = true := by kernel_rfl
theorem pkgWho_factN : (Rows.pkgWhoRow.named == Tryz.pinned.checked.prog.varsNamed 11) = true := by kernel_rfl
theorem pkgWho_facts : joinedFacts Tryz.pinned.checked.prog 11 Tryz.f11 Rows.pkgWhoSpec Rows.pkgWhoRow = true := by
  unfold joinedFacts
  rw [pkgWho_factI, pkgWho_factU, pkgWho_factR, pkgWho_factN]
  kernel_rfl
end Go.Proofs.YtnkgjddkdikikaaGreatDoor
