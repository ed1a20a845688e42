
import Derived.Test.YtpafkniapacfdaaGreatDoorSq38
import Derived.Test.YtpafkniapacfdaaGreatDoorSq12
import Derived.Test.YtpafkniapacfdaaGreatDoorSq30
import Derived.Deep.RegionHeld
namespace Go.Proofs.YtpafkniapacfdaaGreatDoor
open Go.RowKit
namespace Ve
theorem txF_ok {X : List Ln} (h0 : ∀ j, j < X.length → txE X j = 0) : txF X = (0, none) := by
  have hf := fstE_none h0
  unfold txF
  rw [codeE_none hf, hf]
theorem txT_ok {X : List Ln} (h : (txF X).1 = 0) : txT X = X.flatMap lineT := by unfold txT; rw [if_pos h]
end Ve
end Go.Proofs.YtpafkniapacfdaaGreatDoor
