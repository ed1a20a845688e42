/-
  closed facts of the row
-/
import Derived.Test.YtlcffhadobhfkaaGreatDoorCards
import Derived.Test.YtlcffhadobhfkaaGreatDoorTie
import Derived.SevenTiedAt
import Derived.MakeChecks
import Derived.ChangeMaps5
import Derived.Carry
import Derived.ChangeAt
import Derived.Lib.SmallJoins
namespace Go.Proofs.YtlcffhadobhfkaaGreatDoor
open Go.ChangeShapes Go.WideShapes Go.ChangeAt Go.RowKit Go.ChangeMaps Go.Joins
theorem graphTells_factI : (Rows.graphTellsRow.inPlace == Tryz.pinned.checked.prog.inPlace 3) = true:=by kernel_rfl
theorem graphTells_factU : (Rows.graphTellsRow.unfollowed == Tryz.pinned.checked.prog.unfollowed 3) = true:=by kernel_rfl
theorem graphTells_factR : (Rows.graphTellsRow.recurses == Tryz.pinned.checked.prog.recurses 3) = true:=by kernel_rfl
theorem graphTells_factN : (Rows.graphTellsRow.named == Tryz.pinned.checked.prog.varsNamed 3) = true:=by kernel_rfl
theorem graphTells_facts : joinedFacts Tryz.pinned.checked.prog 3 Tryz.f3 Rows.graphTellsSpec Rows.graphTellsRow = true:=by
  unfold joinedFacts
  rw [graphTells_factI,graphTells_factU,graphTells_factR,graphTells_factN]
  kernel_rfl
end Go.Proofs.YtlcffhadobhfkaaGreatDoor
