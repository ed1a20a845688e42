/-
  What Text of package ver answers where there is a pre.
-/
import Derived.Test.YtccnagkfnmffpaaGreatDoorVerG
namespace Go.Proofs.YtccnagkfnmffpaaGreatDoor
open Go.RowKit Go.Sort
namespace Ve

end Ve
end Go.Proofs.YtccnagkfnmffpaaGreatDoor
