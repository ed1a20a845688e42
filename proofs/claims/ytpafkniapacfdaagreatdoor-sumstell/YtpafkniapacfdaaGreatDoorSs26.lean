
import Derived.Test.YtpafkniapacfdaaGreatDoorSs24
import Derived.Test.YtpafkniapacfdaaGreatDoorSs18
import Derived.Test.YtpafkniapacfdaaGreatDoorSs23
import Derived.Test.YtpafkniapacfdaaGreatDoorSs13
import Derived.Test.YtpafkniapacfdaaGreatDoorSs12
namespace Go.Proofs.YtpafkniapacfdaaGreatDoor
open Go.RowKit
namespace Ve
end Ve
end Go.Proofs.YtpafkniapacfdaaGreatDoor


namespace Go.Proofs.YtpafkniapacfdaaGreatDoor
open Go.RowKit
namespace Ve
end Ve
end Go.Proofs.YtpafkniapacfdaaGreatDoor


namespace Go.Proofs.YtpafkniapacfdaaGreatDoor
open Go.RowKit
namespace Ve
end Ve
end Go.Proofs.YtpafkniapacfdaaGreatDoor


namespace Go.Proofs.YtpafkniapacfdaaGreatDoor
namespace Ve
end Ve
end Go.Proofs.YtpafkniapacfdaaGreatDoor
