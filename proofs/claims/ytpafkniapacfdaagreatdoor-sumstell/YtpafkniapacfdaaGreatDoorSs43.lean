
import Derived.Test.YtpafkniapacfdaaGreatDoorSs38
import Derived.Test.YtpafkniapacfdaaGreatDoorSs41
import Derived.Test.YtpafkniapacfdaaGreatDoorSs18
import Derived.Test.YtpafkniapacfdaaGreatDoorSs24
namespace Go.Proofs.YtpafkniapacfdaaGreatDoor
open Go.RowKit
namespace Ve
structure Rp (w W : World) : Prop where
  bl : Below w.heap.size w W
  e : W.heap[w.heap.size]? = some (.cells #[.int .i64 0, .int .i64 0] 47 (0, 0))
theorem Rp.below {w W W' : World} (h : Rp w W) (hb : Below W.heap.size W W') : Rp w W' := ⟨h.bl.trans (hb.mono h.bl.size), (hb.block _ (lt_of_blk h.e)).trans h.e⟩
theorem Rp.start (w : World) : Rp w (w.alloc (.cells #[.int .i64 0, .int .i64 0] 47)) := ⟨(Below.refl w.heap.size w).alloc (Nat.le_refl _) _, heap_alloc_new _ _⟩
theorem Rp.cells {w W : World} (h : Rp w W) : W.cell? ⟨w.heap.size, 0, none⟩ = some (.int .i64 0) ∧ W.cell? ⟨w.heap.size, 1, none⟩ = some (.int .i64 0) ∧ ∀ o, W.frozen? ⟨w.heap.size, o, none⟩ = false := box2S h.e
theorem zero_nextS {E : Nat → Nat} {k : Nat} (h : ∀ j, j < k → E j = 0) (hk : E k = 0) : ∀ j, j < k + 1 → E j = 0 := fun j hj => by
  rcases Nat.lt_or_ge j k with h1 | h1
  · exact h j h1
  · have : j = k := by omega
    rw [this]; exact hk
end Ve
end Go.Proofs.YtpafkniapacfdaaGreatDoor


namespace Go.Proofs.YtpafkniapacfdaaGreatDoor
open Go.RowKit Go.Maps
namespace Ve
end Ve
end Go.Proofs.YtpafkniapacfdaaGreatDoor
