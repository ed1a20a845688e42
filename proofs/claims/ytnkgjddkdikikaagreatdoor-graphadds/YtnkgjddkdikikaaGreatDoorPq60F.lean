/-
  closed facts of the row
-/
import Derived.Test.YtnkgjddkdikikaaGreatDoorCards
import Derived.Test.YtnkgjddkdikikaaGreatDoorTie
import Derived.SevenTiedAt
import Derived.MakeChecks
import Derived.ChangeMaps5
import Derived.Carry
import Derived.ChangeAt
import Derived.Lib.SmallJoins
namespace Go.Proofs.YtnkgjddkdikikaaGreatDoor
open Go.ChangeShapes Go.WideShapes Go.ChangeAt Go.RowKit Go.ChangeMaps Go.Joins
theorem graphAdds_factI : (Rows.graphAddsRow.inPlace == Tryz.pinned.checked.prog.inPlace 5) = true := by kernel_rfl
theorem graphAdds_factU : (Rows.graphAddsRow.unfollowed == Tryz.pinned.checked.prog.unfollowed 5) = true := by kernel_rfl
theorem graphAdds_factR : (Rows.graphAddsRow.recurses == Tryz.pinned.checked.prog.recurses 5) = true := by kernel_rfl
theorem graphAdds_factN : (Rows.graphAddsRow.named == Tryz.pinned.checked.prog.varsNamed 5) = true := by kernel_rfl
theorem graphAdds_facts : joinedFacts Tryz.pinned.checked.prog 5 Tryz.f5 Rows.graphAddsSpec Rows.graphAddsRow = true := by
  unfold joinedFacts
  rw [graphAdds_factI, graphAdds_factU, graphAdds_factR, graphAdds_factN]
  kernel_rfl
end Go.Proofs.YtnkgjddkdikikaaGreatDoor
