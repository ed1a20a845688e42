/-
  closed facts of the row
-/
import Derived.Test.YtlcffhadobhfkaaGreatDoorCards
import Derived.Test.YtlcffhadobhfkaaGreatDoorTie
import Derived.SevenTiedAt
import Derived.MakeChecks
import Derived.ChangeMaps5
import Derived.Carry
import Derived.ChangeAt
import Derived.Lib.SmallJoins
namespace Go.Proofs.YtlcffhadobhfkaaGreatDoor
open Go.ChangeShapes Go.WideShapes Go.ChangeAt Go.RowKit Go.ChangeMaps Go.Joins
theorem upTells_factI : (Rows.upTellsRow.inPlace == Tryz.pinned.checked.prog.inPlace 9) = true:=by kernel_rfl
theorem upTells_factU : (Rows.upTellsRow.unfollowed == Tryz.pinned.checked.prog.unfollowed 9) = true:=by kernel_rfl
theorem upTells_factR : (Rows.upTellsRow.recurses == Tryz.pinned.checked.prog.recurses 9) = true:=by kernel_rfl
theorem upTells_factN : (Rows.upTellsRow.named == Tryz.pinned.checked.prog.varsNamed 9) = true:=by kernel_rfl
theorem upTells_facts : joinedFacts Tryz.pinned.checked.prog 9 Tryz.f9 Rows.upTellsSpec Rows.upTellsRow = true:=by
  unfold joinedFacts
  rw [upTells_factI,upTells_factU,upTells_factR,upTells_factN]
  kernel_rfl
end Go.Proofs.YtlcffhadobhfkaaGreatDoor
