/-
  closed facts of the row
-/
import Derived.Test.YtlcffhadobhfkaaGreatDoorCards
import Derived.Test.YtlcffhadobhfkaaGreatDoorTie
import Derived.SevenTiedAt
import Derived.MakeChecks
import Derived.ChangeMaps5
import Derived.Carry
import Derived.ChangeAt
import Derived.Lib.SmallJoins
namespace Go.Proofs.YtlcffhadobhfkaaGreatDoor
open Go.ChangeShapes Go.WideShapes Go.ChangeAt Go.RowKit Go.ChangeMaps Go.Joins
theorem mvsParts_factI : (Rows.mvsPartsRow.inPlace == Tryz.pinned.checked.prog.inPlace 7) = true:=by kernel_rfl
theorem mvsParts_factU : (Rows.mvsPartsRow.unfollowed == Tryz.pinned.checked.prog.unfollowed 7) = true:=by kernel_rfl
theorem mvsParts_factR : (Rows.mvsPartsRow.recurses == Tryz.pinned.checked.prog.recurses 7) = true:=by kernel_rfl
theorem mvsParts_factN : (Rows.mvsPartsRow.named == Tryz.pinned.checked.prog.varsNamed 7) = true:=by kernel_rfl
theorem mvsParts_facts : joinedFacts Tryz.pinned.checked.prog 7 Tryz.f7 Rows.mvsPartsSpec Rows.mvsPartsRow = true:=by
  unfold joinedFacts
  rw [mvsParts_factI,mvsParts_factU,mvsParts_factR,mvsParts_factN]
  kernel_rfl
end Go.Proofs.YtlcffhadobhfkaaGreatDoor
