/-
  closed facts of the row
-/
import Derived.Test.YtlcffhadobhfkaaGreatDoorCards
import Derived.Test.YtlcffhadobhfkaaGreatDoorTie
import Derived.SevenTiedAt
import Derived.MakeChecks
import Derived.ChangeMaps5
import Derived.Carry
import Derived.ChangeAt
import Derived.Lib.SmallJoins
namespace Go.Proofs.YtlcffhadobhfkaaGreatDoor
open Go.ChangeShapes Go.WideShapes Go.ChangeAt Go.RowKit Go.ChangeMaps Go.Joins
theorem mvsLeast_factI : (Rows.mvsLeastRow.inPlace == Tryz.pinned.checked.prog.inPlace 5) = true:=by kernel_rfl
theorem mvsLeast_factU : (Rows.mvsLeastRow.unfollowed == Tryz.pinned.checked.prog.unfollowed 5) = true:=by kernel_rfl
theorem mvsLeast_factR : (Rows.mvsLeastRow.recurses == Tryz.pinned.checked.prog.recurses 5) = true:=by kernel_rfl
theorem mvsLeast_factN : (Rows.mvsLeastRow.named == Tryz.pinned.checked.prog.varsNamed 5) = true:=by kernel_rfl
theorem mvsLeast_facts : joinedFacts Tryz.pinned.checked.prog 5 Tryz.f5 Rows.mvsLeastSpec Rows.mvsLeastRow = true:=by
  unfold joinedFacts
  rw [mvsLeast_factI,mvsLeast_factU,mvsLeast_factR,mvsLeast_factN]
  kernel_rfl
end Go.Proofs.YtlcffhadobhfkaaGreatDoor
