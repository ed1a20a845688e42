/-
  closed facts of the row
-/
import Derived.Test.YtlcffhadobhfkaaGreatDoorCards
import Derived.Test.YtlcffhadobhfkaaGreatDoorTie
import Derived.SevenTiedAt
import Derived.MakeChecks
import Derived.ChangeMaps5
import Derived.Carry
import Derived.ChangeAt
import Derived.Lib.SmallJoins
namespace Go.Proofs.YtlcffhadobhfkaaGreatDoor
open Go.ChangeShapes Go.WideShapes Go.ChangeAt Go.RowKit Go.ChangeMaps Go.Joins
theorem mvsTells_factI : (Rows.mvsTellsRow.inPlace == Tryz.pinned.checked.prog.inPlace 6) = true:=by kernel_rfl
theorem mvsTells_factU : (Rows.mvsTellsRow.unfollowed == Tryz.pinned.checked.prog.unfollowed 6) = true:=by kernel_rfl
theorem mvsTells_factR : (Rows.mvsTellsRow.recurses == Tryz.pinned.checked.prog.recurses 6) = true:=by kernel_rfl
theorem mvsTells_factN : (Rows.mvsTellsRow.named == Tryz.pinned.checked.prog.varsNamed 6) = true:=by kernel_rfl
theorem mvsTells_facts : joinedFacts Tryz.pinned.checked.prog 6 Tryz.f6 Rows.mvsTellsSpec Rows.mvsTellsRow = true:=by
  unfold joinedFacts
  rw [mvsTells_factI,mvsTells_factU,mvsTells_factR,mvsTells_factN]
  kernel_rfl
end Go.Proofs.YtlcffhadobhfkaaGreatDoor
