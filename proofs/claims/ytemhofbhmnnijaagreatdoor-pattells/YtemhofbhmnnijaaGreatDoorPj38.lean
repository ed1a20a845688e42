
import Derived.Test.YtemhofbhmnnijaaGreatDoorPj35
import Derived.Test.YtemhofbhmnnijaaGreatDoorPj32
namespace Go.Proofs.YtemhofbhmnnijaaGreatDoor
open Go.RowKit
namespace Ve
end Ve
end Go.Proofs.YtemhofbhmnnijaaGreatDoor
