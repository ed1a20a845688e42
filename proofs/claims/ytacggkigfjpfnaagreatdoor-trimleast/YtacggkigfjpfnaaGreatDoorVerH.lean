/-
  What Text of package ver answers where there is a pre.
-/
import Derived.Test.YtacggkigfjpfnaaGreatDoorVerG
namespace Go.Proofs.YtacggkigfjpfnaaGreatDoor
open Go.RowKit Go.Sort
namespace Ve

end Ve
end Go.Proofs.YtacggkigfjpfnaaGreatDoor
