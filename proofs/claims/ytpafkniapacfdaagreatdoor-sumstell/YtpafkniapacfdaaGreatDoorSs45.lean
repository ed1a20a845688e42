
import Derived.Test.YtpafkniapacfdaaGreatDoorSs34
import Derived.Test.YtpafkniapacfdaaGreatDoorSs43
import Derived.Test.YtpafkniapacfdaaGreatDoorSs38
namespace Go.Proofs.YtpafkniapacfdaaGreatDoor
open Go.RowKit Go.Maps
namespace Ve
theorem chkG_same {Q Q' : List Raw} {L : List Ent} (h : Q.map (fun r => r.1) = Q'.map (fun r => r.1)) (roots : List Bm) : chkG Q L roots = chkG Q' L roots := by
  unfold chkG
  rw [chk_same h, nonE_same h]
end Ve
end Go.Proofs.YtpafkniapacfdaaGreatDoor
