/-
  closed facts of the row
-/
import Derived.Test.YtlcffhadobhfkaaGreatDoorCards
import Derived.Test.YtlcffhadobhfkaaGreatDoorTie
import Derived.SevenTiedAt
import Derived.MakeChecks
import Derived.ChangeMaps5
import Derived.Carry
import Derived.ChangeAt
import Derived.Lib.SmallJoins
namespace Go.Proofs.YtlcffhadobhfkaaGreatDoor
open Go.ChangeShapes Go.WideShapes Go.ChangeAt Go.RowKit Go.ChangeMaps Go.Joins
theorem upNews_factI : (Rows.upNewsRow.inPlace == Tryz.pinned.checked.prog.inPlace 8) = true:=by kernel_rfl
theorem upNews_factU : (Rows.upNewsRow.unfollowed == Tryz.pinned.checked.prog.unfollowed 8) = true:=by kernel_rfl
theorem upNews_factR : (Rows.upNewsRow.recurses == Tryz.pinned.checked.prog.recurses 8) = true:=by kernel_rfl
theorem upNews_factN : (Rows.upNewsRow.named == Tryz.pinned.checked.prog.varsNamed 8) = true:=by kernel_rfl
theorem upNews_facts : joinedFacts Tryz.pinned.checked.prog 8 Tryz.f8 Rows.upNewsSpec Rows.upNewsRow = true:=by
  unfold joinedFacts
  rw [upNews_factI,upNews_factU,upNews_factR,upNews_factN]
  kernel_rfl
end Go.Proofs.YtlcffhadobhfkaaGreatDoor
