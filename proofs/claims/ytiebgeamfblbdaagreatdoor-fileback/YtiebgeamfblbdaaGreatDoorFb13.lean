/-
  VerH
-/
import Derived.Test.YtiebgeamfblbdaaGreatDoorFb10
namespace Go.Proofs.YtiebgeamfblbdaaGreatDoor
open Go.RowKit Go.Sort
namespace Ve
end Ve
end Go.Proofs.YtiebgeamfblbdaaGreatDoor
