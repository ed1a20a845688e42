
import Derived.Test.YtemhofbhmnnijaaGreatDoorPj20
import Derived.Test.YtemhofbhmnnijaaGreatDoorPj9
namespace Go.Proofs.YtemhofbhmnnijaaGreatDoor
open Go.RowKit
namespace Ve
end Ve
end Go.Proofs.YtemhofbhmnnijaaGreatDoor
