
import Derived.Test.YtemhofbhmnnijaaGreatDoorPj29
import Derived.Test.YtemhofbhmnnijaaGreatDoorPj30
import Derived.Test.YtemhofbhmnnijaaGreatDoorPj21
import Derived.Test.YtemhofbhmnnijaaGreatDoorPj12
import Derived.Test.YtemhofbhmnnijaaGreatDoorPj23
namespace Go.Proofs.YtemhofbhmnnijaaGreatDoor
open Go.RowKit
namespace Ve
end Ve
end Go.Proofs.YtemhofbhmnnijaaGreatDoor


namespace Go.Proofs.YtemhofbhmnnijaaGreatDoor
open Go.RowKit
namespace Ve
end Ve
end Go.Proofs.YtemhofbhmnnijaaGreatDoor
