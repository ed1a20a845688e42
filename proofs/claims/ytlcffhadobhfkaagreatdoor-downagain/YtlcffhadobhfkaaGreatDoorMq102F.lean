/-
  closed facts of the row
-/
import Derived.Test.YtlcffhadobhfkaaGreatDoorCards
import Derived.Test.YtlcffhadobhfkaaGreatDoorTie
import Derived.SevenTiedAt
import Derived.MakeChecks
import Derived.ChangeMaps5
import Derived.Carry
import Derived.ChangeAt
import Derived.Lib.SmallJoins
namespace Go.Proofs.YtlcffhadobhfkaaGreatDoor
open Go.ChangeShapes Go.WideShapes Go.ChangeAt Go.RowKit Go.ChangeMaps Go.Joins
theorem downAgain_factI : (Rows.downAgainRow.inPlace == Tryz.pinned.checked.prog.inPlace 12) = true:=by kernel_rfl
theorem downAgain_factU : (Rows.downAgainRow.unfollowed == Tryz.pinned.checked.prog.unfollowed 12) = true:=by kernel_rfl
theorem downAgain_factR : (Rows.downAgainRow.recurses == Tryz.pinned.checked.prog.recurses 12) = true:=by kernel_rfl
theorem downAgain_factN : (Rows.downAgainRow.named == Tryz.pinned.checked.prog.varsNamed 12) = true:=by kernel_rfl
theorem downAgain_facts : joinedFacts Tryz.pinned.checked.prog 12 Tryz.f12 Rows.downAgainSpec Rows.downAgainRow = true:=by
  unfold joinedFacts
  rw [downAgain_factI,downAgain_factU,downAgain_factR,downAgain_factN]
  kernel_rfl
end Go.Proofs.YtlcffhadobhfkaaGreatDoor
