/-
  closed facts of the row
-/
import Derived.Test.YtlcffhadobhfkaaGreatDoorCards
import Derived.Test.YtlcffhadobhfkaaGreatDoorTie
import Derived.SevenTiedAt
import Derived.MakeChecks
import Derived.ChangeMaps5
import Derived.Carry
import Derived.ChangeAt
import Derived.Lib.SmallJoins
namespace Go.Proofs.YtlcffhadobhfkaaGreatDoor
open Go.ChangeShapes Go.WideShapes Go.ChangeAt Go.RowKit Go.ChangeMaps Go.Joins
theorem trimTells_factI : (Rows.trimTellsRow.inPlace == Tryz.pinned.checked.prog.inPlace 14) = true:=by kernel_rfl
theorem trimTells_factU : (Rows.trimTellsRow.unfollowed == Tryz.pinned.checked.prog.unfollowed 14) = true:=by kernel_rfl
theorem trimTells_factR : (Rows.trimTellsRow.recurses == Tryz.pinned.checked.prog.recurses 14) = true:=by kernel_rfl
theorem trimTells_factN : (Rows.trimTellsRow.named == Tryz.pinned.checked.prog.varsNamed 14) = true:=by kernel_rfl
theorem trimTells_facts : joinedFacts Tryz.pinned.checked.prog 14 Tryz.f14 Rows.trimTellsSpec Rows.trimTellsRow = true:=by
  unfold joinedFacts
  rw [trimTells_factI,trimTells_factU,trimTells_factR,trimTells_factN]
  kernel_rfl
end Go.Proofs.YtlcffhadobhfkaaGreatDoor
