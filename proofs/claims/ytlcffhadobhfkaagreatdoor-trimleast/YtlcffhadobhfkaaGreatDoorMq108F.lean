/-
  closed facts of the row
-/
import Derived.Test.YtlcffhadobhfkaaGreatDoorCards
import Derived.Test.YtlcffhadobhfkaaGreatDoorTie
import Derived.SevenTiedAt
import Derived.MakeChecks
import Derived.ChangeMaps5
import Derived.Carry
import Derived.ChangeAt
import Derived.Lib.SmallJoins
namespace Go.Proofs.YtlcffhadobhfkaaGreatDoor
open Go.ChangeShapes Go.WideShapes Go.ChangeAt Go.RowKit Go.ChangeMaps Go.Joins
theorem trimLeast_factI : (Rows.trimLeastRow.inPlace == Tryz.pinned.checked.prog.inPlace 13) = true:=by kernel_rfl
theorem trimLeast_factU : (Rows.trimLeastRow.unfollowed == Tryz.pinned.checked.prog.unfollowed 13) = true:=by kernel_rfl
theorem trimLeast_factR : (Rows.trimLeastRow.recurses == Tryz.pinned.checked.prog.recurses 13) = true:=by kernel_rfl
theorem trimLeast_factN : (Rows.trimLeastRow.named == Tryz.pinned.checked.prog.varsNamed 13) = true:=by kernel_rfl
theorem trimLeast_facts : joinedFacts Tryz.pinned.checked.prog 13 Tryz.f13 Rows.trimLeastSpec Rows.trimLeastRow = true:=by
  unfold joinedFacts
  rw [trimLeast_factI,trimLeast_factU,trimLeast_factR,trimLeast_factN]
  kernel_rfl
end Go.Proofs.YtlcffhadobhfkaaGreatDoor
