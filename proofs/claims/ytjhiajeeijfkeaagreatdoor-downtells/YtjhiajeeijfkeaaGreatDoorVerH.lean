/-
  What Text of package ver answers where there is a pre.
-/
import Derived.Test.YtjhiajeeijfkeaaGreatDoorVerG
namespace Go.Proofs.YtjhiajeeijfkeaaGreatDoor
open Go.RowKit Go.Sort
namespace Ve

end Ve
end Go.Proofs.YtjhiajeeijfkeaaGreatDoor
