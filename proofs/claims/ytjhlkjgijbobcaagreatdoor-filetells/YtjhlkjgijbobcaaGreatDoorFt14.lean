/-
  VerH
-/
import Derived.Test.YtjhlkjgijbobcaaGreatDoorFt11
namespace Go.Proofs.YtjhlkjgijbobcaaGreatDoor
open Go.RowKit Go.Sort
namespace Ve
end Ve
end Go.Proofs.YtjhlkjgijbobcaaGreatDoor
