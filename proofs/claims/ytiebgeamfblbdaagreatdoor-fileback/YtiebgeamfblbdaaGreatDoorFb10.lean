/-
  VerG
-/
import Derived.Test.YtiebgeamfblbdaaGreatDoorFb9
import Derived.WalkSmall
import Derived.Shelf.Strconv.Itoa3
import Derived.Deep.RegionHeld
namespace Go.Proofs.YtiebgeamfblbdaaGreatDoor
open Go.RowKit Go.Sort
namespace Ve
def powName : String := "internal/strconv.uint64pow10"
structure Tx (w0 w : World) (N : Nat) (a b c v : Value) : Prop where
  c0 : w.cell? ⟨N, 0, none⟩ = some a
  c1 : w.cell? ⟨N, 1, none⟩ = some b
  c2 : w.cell? ⟨N, 2, none⟩ = some c
  c3 : w.cell? ⟨N, 3, none⟩ = some v
  tab : Lib.TabIs Tryz.prog w powName .u64 Lib.pow10Tab
  bl : Below w0.heap.size w0 w
end Ve
end Go.Proofs.YtiebgeamfblbdaaGreatDoor
