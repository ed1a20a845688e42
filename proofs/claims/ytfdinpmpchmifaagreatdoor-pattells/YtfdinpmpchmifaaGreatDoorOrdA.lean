/-
  What comparePart of package ver answers: the order on parts; nothing old in memory turns.
-/
import Derived.Test.YtfdinpmpchmifaaGreatDoorVerR
import Derived.Test.YtfdinpmpchmifaaGreatDoorVerL
namespace Go.Proofs.YtfdinpmpchmifaaGreatDoor
open Go.RowKit
namespace Ve

theorem below_drew {w w' : World} (h : Below w.heap.size w w') (n : Nat) : Below w.heap.size w (w'.drewN n) := h.trans ((below_drawn w' n).mono h.size)
/-- Nothing below B turns, and what was drawn stays drawn. -/
structure Bw (B : Nat) (w w' : World) : Prop where
  be : Below B w w'
  dr : w.drawn ≤ w'.drawn
theorem Bw.refl (B : Nat) (w : World) : Bw B w w := ⟨Below.refl _ _, Nat.le_refl _⟩
theorem Bw.trans {B : Nat} {a b c : World} (h : Bw B a b) (k : Bw B b c) : Bw B a c := ⟨h.be.trans k.be, Nat.le_trans h.dr k.dr⟩
theorem Bw.mono {B B' : Nat} {w w' : World} (h : Bw B w w') (hB : B' ≤ B) : Bw B' w w' := ⟨h.be.mono hB, h.dr⟩
theorem Bw.size {B : Nat} {w w' : World} (h : Bw B w w') : w.heap.size ≤ w'.heap.size := h.be.size
theorem Bw.alloc {B : Nat} {w w' : World} (h : Bw B w w') (hB : B ≤ w'.heap.size) (o : Obj) : Bw B w (w'.alloc o) := ⟨h.be.alloc hB o, h.dr⟩
theorem bw_drew {w w' : World} (h : Bw w.heap.size w w') (n : Nat) : Bw w.heap.size w (w'.drewN n) := ⟨below_drew h.be n, Nat.le_trans h.dr (Nat.le_add_right _ _)⟩

theorem three' (w : World) (A B C : Array Value) (T U : TypeId) (j : Nat) :
    (((w.alloc (.cells A T)).alloc (.cells B T)).alloc (.cells C U)).cell? ⟨w.heap.size, j, none⟩ = A[j]? ∧ (((w.alloc (.cells A T)).alloc (.cells B T)).alloc (.cells C U)).cell? ⟨w.heap.size + 1, j, none⟩ = B[j]? ∧
    (((w.alloc (.cells A T)).alloc (.cells B T)).alloc (.cells C U)).cell? ⟨w.heap.size + 1 + 1, j, none⟩ = C[j]? := three w A B C T U j

end Ve
end Go.Proofs.YtfdinpmpchmifaaGreatDoor
