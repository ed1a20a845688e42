/-
  closed facts of the row
-/
import Derived.Test.YtlcffhadobhfkaaGreatDoorCards
import Derived.Test.YtlcffhadobhfkaaGreatDoorTie
import Derived.SevenTiedAt
import Derived.MakeChecks
import Derived.ChangeMaps5
import Derived.Carry
import Derived.ChangeAt
import Derived.Lib.SmallJoins
namespace Go.Proofs.YtlcffhadobhfkaaGreatDoor
open Go.ChangeShapes Go.WideShapes Go.ChangeAt Go.RowKit Go.ChangeMaps Go.Joins
theorem downTells_factI : (Rows.downTellsRow.inPlace == Tryz.pinned.checked.prog.inPlace 11) = true:=by kernel_rfl
theorem downTells_factU : (Rows.downTellsRow.unfollowed == Tryz.pinned.checked.prog.unfollowed 11) = true:=by kernel_rfl
theorem downTells_factR : (Rows.downTellsRow.recurses == Tryz.pinned.checked.prog.recurses 11) = true:=by kernel_rfl
theorem downTells_factN : (Rows.downTellsRow.named == Tryz.pinned.checked.prog.varsNamed 11) = true:=by kernel_rfl
theorem downTells_facts : joinedFacts Tryz.pinned.checked.prog 11 Tryz.f11 Rows.downTellsSpec Rows.downTellsRow = true:=by
  unfold joinedFacts
  rw [downTells_factI,downTells_factU,downTells_factR,downTells_factN]
  kernel_rfl
end Go.Proofs.YtlcffhadobhfkaaGreatDoor
