
import Derived.Test.YtemhofbhmnnijaaGreatDoorPj43
import Derived.Laws.MakeOwn
namespace Go.Proofs.YtemhofbhmnnijaaGreatDoor
open Go.RowKit Go.Maps
namespace Ve
theorem infoBool : (Tryz.prog.info? 4).map (fun i => (i.zero, i.size, i.bytes)) = some (some (.bool false), 1, 1) := by kernel_rfl
def bwc (O : List Bool) : Array Value := (O.map Value.bool).toArray
theorem bwc_at {W : World} {g : Nat} {O : List Bool} (h : W.heap[g]? = some (.cells (bwc O) 4 (0, 0))) {a : Nat} (ha : a < O.length) : W.cell? ⟨g, a, none⟩ = some (.bool O[a]) := by
  rw [Lib.cell_of_heap h]
  simp [bwc, ha]
theorem made_bools (n : Nat) : madeCells (Value.bool false).cells n = bwc (List.replicate n false) := by
  unfold madeCells bwc
  simp [Value.cells]
  apply Array.ext
  · simp
  · intro i h1 h2
    simp [Nat.mod_one]
theorem make_bools (n : Nat) (w : World) (hn : n ≤ 1000000) : (Instr.makeSlice 48 (.int .i64 (n : Int)) (.int .i64 (n : Int))).run Tryz.prog w = .ok (.slice (some ⟨w.heap.size, 0, none⟩) n n) (w.alloc (.cells (bwc (List.replicate n false)) 4)) := by
  obtain ⟨i0, hi, hz0, hz1, hz2⟩ := info_parts infoBool
  have h := run_makeSlice (P := Tryz.prog) w 48 4 i0 (.bool false) Tryz.underlying48 hi hz0 .i64 .i64 (n : Int) (n : Int) (by omega) (by omega) (by rw [hz1]; simp; omega) (by rw [hz2]; omega) (by omega)
  rw [hz1] at h
  simp only [Int.toNat_natCast, Nat.mul_one] at h
  rw [made_bools] at h
  exact h
theorem bwc_put (O : List Bool) (a : Nat) (b : Bool) : (bwc O).setIfInBounds a (.bool b) = bwc (O.set a b) := by
  unfold bwc
  rw [List.setIfInBounds_toArray, List.map_set]
end Ve
end Go.Proofs.YtemhofbhmnnijaaGreatDoor
