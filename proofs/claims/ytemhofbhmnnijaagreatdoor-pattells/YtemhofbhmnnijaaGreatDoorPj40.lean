
import Derived.Test.YtemhofbhmnnijaaGreatDoorPj39
import Derived.Test.YtemhofbhmnnijaaGreatDoorPj32
namespace Go.Proofs.YtemhofbhmnnijaaGreatDoor
open Go.RowKit
namespace Ve
theorem pathErr_err (l : List UInt8) : pathErr l = 0 ∨ pathErr l = 1 ∨ pathErr l = 2 ∨ pathErr l = 4 := by
  unfold pathErr; split
  · simp
  · split
    · simp
    · split <;> simp
end Ve
end Go.Proofs.YtemhofbhmnnijaaGreatDoor
