/-
  closed facts of the row
-/
import Derived.Test.YtlcffhadobhfkaaGreatDoorCards
import Derived.Test.YtlcffhadobhfkaaGreatDoorTie
import Derived.SevenTiedAt
import Derived.MakeChecks
import Derived.ChangeMaps5
import Derived.Carry
import Derived.ChangeAt
import Derived.Lib.SmallJoins
namespace Go.Proofs.YtlcffhadobhfkaaGreatDoor
open Go.ChangeShapes Go.WideShapes Go.ChangeAt Go.RowKit Go.ChangeMaps Go.Joins
theorem mvsJoins_factI : (Rows.mvsJoinsRow.inPlace == Tryz.pinned.checked.prog.inPlace 4) = true:=by kernel_rfl
theorem mvsJoins_factU : (Rows.mvsJoinsRow.unfollowed == Tryz.pinned.checked.prog.unfollowed 4) = true:=by kernel_rfl
theorem mvsJoins_factR : (Rows.mvsJoinsRow.recurses == Tryz.pinned.checked.prog.recurses 4) = true:=by kernel_rfl
theorem mvsJoins_factN : (Rows.mvsJoinsRow.named == Tryz.pinned.checked.prog.varsNamed 4) = true:=by kernel_rfl
theorem mvsJoins_facts : joinedFacts Tryz.pinned.checked.prog 4 Tryz.f4 Rows.mvsJoinsSpec Rows.mvsJoinsRow = true:=by
  unfold joinedFacts
  rw [mvsJoins_factI,mvsJoins_factU,mvsJoins_factR,mvsJoins_factN]
  kernel_rfl
end Go.Proofs.YtlcffhadobhfkaaGreatDoor
