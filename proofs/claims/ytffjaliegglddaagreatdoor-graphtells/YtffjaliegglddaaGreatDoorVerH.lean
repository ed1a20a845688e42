/-
  What Text of package ver answers where there is a pre.
-/
import Derived.Test.YtffjaliegglddaaGreatDoorVerG
namespace Go.Proofs.YtffjaliegglddaaGreatDoor
open Go.RowKit Go.Sort
namespace Ve

end Ve
end Go.Proofs.YtffjaliegglddaaGreatDoor
