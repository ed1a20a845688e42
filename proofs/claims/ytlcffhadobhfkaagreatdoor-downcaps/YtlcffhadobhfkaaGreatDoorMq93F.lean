/-
  closed facts of the row
-/
import Derived.Test.YtlcffhadobhfkaaGreatDoorCards
import Derived.Test.YtlcffhadobhfkaaGreatDoorTie
import Derived.SevenTiedAt
import Derived.MakeChecks
import Derived.ChangeMaps5
import Derived.Carry
import Derived.ChangeAt
import Derived.Lib.SmallJoins
namespace Go.Proofs.YtlcffhadobhfkaaGreatDoor
open Go.ChangeShapes Go.WideShapes Go.ChangeAt Go.RowKit Go.ChangeMaps Go.Joins
theorem downCaps_factI : (Rows.downCapsRow.inPlace == Tryz.pinned.checked.prog.inPlace 10) = true:=by kernel_rfl
theorem downCaps_factU : (Rows.downCapsRow.unfollowed == Tryz.pinned.checked.prog.unfollowed 10) = true:=by kernel_rfl
theorem downCaps_factR : (Rows.downCapsRow.recurses == Tryz.pinned.checked.prog.recurses 10) = true:=by kernel_rfl
theorem downCaps_factN : (Rows.downCapsRow.named == Tryz.pinned.checked.prog.varsNamed 10) = true:=by kernel_rfl
theorem downCaps_facts : joinedFacts Tryz.pinned.checked.prog 10 Tryz.f10 Rows.downCapsSpec Rows.downCapsRow = true:=by
  unfold joinedFacts
  rw [downCaps_factI,downCaps_factU,downCaps_factR,downCaps_factN]
  kernel_rfl
end Go.Proofs.YtlcffhadobhfkaaGreatDoor
