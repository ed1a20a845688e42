/-
  What Text of package ver answers where there is a pre.
-/
import Derived.Test.YtjphlclhkaoipaaGreatDoorVerG
namespace Go.Proofs.YtjphlclhkaoipaaGreatDoor
open Go.RowKit Go.Sort
namespace Ve

end Ve
end Go.Proofs.YtjphlclhkaoipaaGreatDoor
