/-
  What Text of package ver answers, for any parts: the text, or the empty one; nothing old in memory turns.
-/
import Derived.Test.YtfdinpmpchmifaaGreatDoorVerF
import Derived.WalkSmall
import Derived.Shelf.Strconv.Itoa3
import Derived.Deep.RegionHeld
namespace Go.Proofs.YtfdinpmpchmifaaGreatDoor
open Go.RowKit Go.Sort
namespace Ve

/-- The name of the library's table of powers of ten. -/
def powName : String := "internal/strconv.uint64pow10"
theorem below_grow (w : World) (k : Nat) (os : Array Obj) : Below w.heap.size w (grow (w.drewN k) os) :=
  ⟨rfl, rfl, rfl, by show w.heap.size ≤ (w.heap ++ os).size; simp, fun i hi => by show (w.heap ++ os)[i]? = _; rw [Array.getElem?_append_left hi]⟩
theorem nDigits_le : ∀ (k u : Nat), u < 10 ^ (k + 1) → Lib.nDigits u ≤ k + 1
  | 0, u, h => by rw [Lib.nDigits_small (by simpa using h)]; omega
  | k + 1, u, h => by
    by_cases h0 : u < 10
    · rw [Lib.nDigits_small h0]; omega
    · rw [Lib.nDigits_big h0]
      have := nDigits_le k (u / 10) (by rw [Nat.pow_succ] at h; omega)
      omega
theorem itoa_le (n : Int) (h0 : 0 ≤ n) (h1 : n ≤ 999999) : (Lib.itoa n).length ≤ 6 := by
  unfold Lib.itoa
  rw [if_neg (by omega), Lib.decDigits_length]
  exact nDigits_le 5 n.toNat (by omega)
/-- A boxed struct of four, and the table, while memory grows. -/
structure Tx (w0 w : World) (N : Nat) (a b c v : Value) : Prop where
  c0 : w.cell? ⟨N, 0, none⟩ = some a
  c1 : w.cell? ⟨N, 1, none⟩ = some b
  c2 : w.cell? ⟨N, 2, none⟩ = some c
  c3 : w.cell? ⟨N, 3, none⟩ = some v
  tab : Lib.TabIs Tryz.prog w powName .u64 Lib.pow10Tab
  bl : Below w0.heap.size w0 w
/-- A text of three numbers. -/
def core3 (a b c : Int) : List UInt8 := [118] ++ Lib.itoa a ++ [46] ++ Lib.itoa b ++ [46] ++ Lib.itoa c
/-- What Text answers. -/
def textOf (a b c : Int) (ps : List (List UInt8)) : List UInt8 :=
  if inBB a && inBB b && inBB c && pre ps == 0 then (if ps.isEmpty then core3 a b c else core3 a b c ++ [45] ++ Lib.join ps [46]) else []

end Ve
end Go.Proofs.YtfdinpmpchmifaaGreatDoor
