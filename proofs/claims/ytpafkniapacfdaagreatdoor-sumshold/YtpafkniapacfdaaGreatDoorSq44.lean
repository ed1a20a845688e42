
import Derived.Test.YtpafkniapacfdaaGreatDoorSq37
import Derived.Test.YtpafkniapacfdaaGreatDoorSq36
import Derived.Test.YtpafkniapacfdaaGreatDoorSq38
import Derived.Deep.RegionHeld
namespace Go.Proofs.YtpafkniapacfdaaGreatDoor
open Go.RowKit
namespace Ve
theorem vfF_all {Q : List Raw} {L : List Ent} {sel : List Bm} {H : List Ln} (h : (chkG Q L sel).1 = 0) (h2 : ∀ j, j < (sumL Q L sel).length → vfE H (sumL Q L sel) j = 0) : vfF Q L sel H = (0, .none) := by
  unfold vfF
  rw [if_neg (by simp [h]), ← sumL_len Q L sel, codeE_none (fstE_none h2), fstE_none h2]
theorem vfF_at {Q : List Raw} {L : List Ent} {sel : List Bm} {H : List Ln} (h : (chkG Q L sel).1 = 0) {k : Nat} (h0 : ∀ j, j < k → vfE H (sumL Q L sel) j = 0) (hk : k < (sumL Q L sel).length) (h2 : vfE H (sumL Q L sel) k ≠ 0) : vfF Q L sel H = (vfE H (sumL Q L sel) k, Option.some k) := by
  have hf := fstE_some h0 h2 hk
  unfold vfF
  rw [if_neg (by simp [h]), ← sumL_len Q L sel, codeE_some hf, hf]
end Ve
end Go.Proofs.YtpafkniapacfdaaGreatDoor
