/-
  What Less of package ver answers; nothing old in memory turns.
-/
import Derived.Test.YtfdinpmpchmifaaGreatDoorOrdB
import Derived.Test.YtfdinpmpchmifaaGreatDoorSplitAny
namespace Go.Proofs.YtfdinpmpchmifaaGreatDoor
open Go.RowKit
namespace Ve

def lessB (s t : List UInt8) : Bool := decide (verErr s = 0) && (decide (verErr t = 0) && decide (ordV s t < 0))
/-- A pre of a version: how many parts, how long. -/
theorem pre_bounds {s : ByteArray} {X : List ByteArray} (hs : s.size < 999999) (hX : bl X = preOf s.data.toList) : X.length ≤ 1000000 ∧ ∀ x, x ∈ X → x.size ≤ maxLen := by
  constructor
  · have := pre_len (l := s.data.toList); rw [← hX, bl_len, len_eq] at this; omega
  · intro x hx
    have hm : x.data.toList ∈ preOf s.data.toList := hX ▸ bl_mem hx
    have := pre_size hm
    rw [len_eq, len_eq] at this
    unfold maxLen; omega
end Ve
end Go.Proofs.YtfdinpmpchmifaaGreatDoor
