/-
  What majorFits, Check, Text and Split of package mod answer; nothing old in memory turns.
-/
import Derived.Test.YtfdinpmpchmifaaGreatDoorModC
import Derived.Test.YtfdinpmpchmifaaGreatDoorSplitAny
namespace Go.Proofs.YtfdinpmpchmifaaGreatDoor
open Go.RowKit
namespace Ve

def fitsB (major suffix : Int) : Bool := if suffix == 0 then (major == 0 || major == 1) else major == suffix
/-- Check's error, by its number. -/
def modErr (p v : List UInt8) : Nat := if pathErr p = 0 then (if verErr v = 0 then (if fitsB (nAt v 0) (pathN p) then 0 else 4) else verErr v) else pathErr p
theorem verErr_err (l : List UInt8) : verErr l = 0 ∨ verErr l = 1 ∨ verErr l = 2 := by
  unfold verErr
  split
  · simp
  · split
    · exact worse_err (numsErr_err _) (pre_err _)
    · exact numsErr_err _
theorem pathErr_err (l : List UInt8) : pathErr l = 0 ∨ pathErr l = 1 ∨ pathErr l = 2 ∨ pathErr l = 4 := by
  unfold pathErr; split
  · simp
  · split
    · simp
    · split <;> simp

theorem res2 {w w3 : World} {a b : Value} {T : TypeId} (hb : Below (w.heap.size + 1) (w.alloc (.cells #[a, b] T)) w3) :
    (w3.cell? ⟨w.heap.size, 0, none⟩ = some a ∧ w3.cell? ⟨w.heap.size, 1, none⟩ = some b) ∧ w.heap.size < w3.heap.size := by
  refine ⟨⟨?_, ?_⟩, ?_⟩
  · rw [hb.cell (by simp)]; simp
  · rw [hb.cell (by simp)]; simp
  · have := hb.size; simp at this; omega

/-- Text: the text, or nothing. -/
def modText (p v : List UInt8) : List UInt8 := if modErr p v = 0 then p ++ 64 :: v else []
end Ve
end Go.Proofs.YtfdinpmpchmifaaGreatDoor
