/-
  What Ahead of package mod answers; nothing old in memory turns.
-/
import Derived.Test.YtfdinpmpchmifaaGreatDoorModD
import Derived.Test.YtfdinpmpchmifaaGreatDoorLessAny
namespace Go.Proofs.YtfdinpmpchmifaaGreatDoor
open Go.RowKit
namespace Ve

theorem str_refl (a : ByteArray) : (a.toList == a.toList) = true := by simp
theorem res2f {w w3 : World} {a b : Value} {T : TypeId} (hb : Below (w.heap.size + 1) (w.alloc (.cells #[a, b] T)) w3) : ∀ o, w3.frozen? ⟨w.heap.size, o, none⟩ = false := by
  intro o; rw [hb.frozen (by simp)]; simp

/-- Ahead: by the path's bytes, then by the version. -/
def aheadB (p v q u : List UInt8) : Bool := if p = q then lessB v u else decide (Lib.compareBytes p q < 0)
end Ve
end Go.Proofs.YtfdinpmpchmifaaGreatDoor
