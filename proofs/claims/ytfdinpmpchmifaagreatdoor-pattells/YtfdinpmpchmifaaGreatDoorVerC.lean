/-
  What checkPre of package ver answers for any list of texts; nothing old in memory turns.
-/
import Derived.Test.YtfdinpmpchmifaaGreatDoorVerB
namespace Go.Proofs.YtfdinpmpchmifaaGreatDoor
open Go.RowKit
namespace Ve

end Ve
end Go.Proofs.YtfdinpmpchmifaaGreatDoor
