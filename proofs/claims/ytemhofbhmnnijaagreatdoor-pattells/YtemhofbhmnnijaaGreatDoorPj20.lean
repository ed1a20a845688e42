
import Derived.Test.YtemhofbhmnnijaaGreatDoorPj15
import Derived.WalkSmall
import Derived.Shelf.Strconv.Itoa3
import Derived.Deep.RegionHeld
namespace Go.Proofs.YtemhofbhmnnijaaGreatDoor
open Go.RowKit Go.Sort
namespace Ve
end Ve
end Go.Proofs.YtemhofbhmnnijaaGreatDoor
