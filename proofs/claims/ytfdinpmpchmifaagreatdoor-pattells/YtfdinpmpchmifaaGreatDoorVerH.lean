/-
  What Text of package ver answers where there is a pre.
-/
import Derived.Test.YtfdinpmpchmifaaGreatDoorVerG
namespace Go.Proofs.YtfdinpmpchmifaaGreatDoor
open Go.RowKit Go.Sort
namespace Ve

end Ve
end Go.Proofs.YtfdinpmpchmifaaGreatDoor
