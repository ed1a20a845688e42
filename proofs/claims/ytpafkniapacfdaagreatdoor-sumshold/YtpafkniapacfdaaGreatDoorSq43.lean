
import Derived.Test.YtpafkniapacfdaaGreatDoorSq42
namespace Go.Proofs.YtpafkniapacfdaaGreatDoor
open Go.RowKit Go.Maps
namespace Ve
theorem bX_univ {Q : List Raw} {L : List Ent} {roots : List Bm} : ∀ m, m ∈ bX Q L roots → m ∈ univ L := fun m hm => (rX_in ((bX_jn Q L roots).sub m hm).1).2
end Ve
end Go.Proofs.YtpafkniapacfdaaGreatDoor
