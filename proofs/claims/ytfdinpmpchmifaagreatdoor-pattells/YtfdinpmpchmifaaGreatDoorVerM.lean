/-
  What Text of package ver answers, all its ways together; and the texts that the closed fact of the statements names.
-/
import Derived.Test.YtfdinpmpchmifaaGreatDoorVerH
import Derived.Test.YtfdinpmpchmifaaGreatDoorPreT
import Derived.Test.YtfdinpmpchmifaaGreatDoorVerL
namespace Go.Proofs.YtfdinpmpchmifaaGreatDoor
open Go.RowKit
namespace Ve

theorem textOf_pre (a b c : Int) (ps : List (List UInt8)) : textOf a b c ps = if inBB a && inBB b && inBB c && pre ps == 0 then core3 a b c ++ preText ps else [] := by
  unfold textOf
  cases ps with
  | nil => simp [preText]
  | cons p r => simp [preText]

end Ve
end Go.Proofs.YtfdinpmpchmifaaGreatDoor
