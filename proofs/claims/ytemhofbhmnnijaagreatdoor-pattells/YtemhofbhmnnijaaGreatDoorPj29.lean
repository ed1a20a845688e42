
import Derived.Test.YtemhofbhmnnijaaGreatDoorPj20
namespace Go.Proofs.YtemhofbhmnnijaaGreatDoor
open Go.RowKit Go.Sort
namespace Ve
end Ve
end Go.Proofs.YtemhofbhmnnijaaGreatDoor
