/-
  What the document's answer says of a text of three numbers without a pre (VerOf).
-/
import Derived.Test.YtfdinpmpchmifaaGreatDoorRefF
namespace Go.Proofs.YtfdinpmpchmifaaGreatDoor
open Go.RowKit
namespace Ve

def ncode (p : List UInt8) : Nat := (num p).2
/-- Numbers of a version, as far as they have been read. -/
def nTo (l : List UInt8) (k i : Nat) : Int := if i < k then nAt l i else 0
theorem cells_set {w : World} {M k : Nat} {l : List UInt8} (h : ∀ i, i < 3 → w.cell? ⟨M, i, none⟩ = some (.int .i64 (nTo l k i))) (hk : k < 3) : ∀ i, i < 3 → (w.setCell ⟨M, k, none⟩ (.int .i64 (nAt l k))).cell? ⟨M, i, none⟩ = some (.int .i64 (nTo l (k + 1) i)) := by
  intro i hi
  by_cases e : i = k
  · subst e
    rw [World.cell?_setCell_same (u := .int .i64 (nTo l i i)) (h := h i hi)]
    simp [nTo]
  · rw [World.cell?_setCell_other (h := fun hh => e (congrArg Addr.off hh).symm), h i hi]
    unfold nTo
    by_cases hik : i < k
    · rw [if_pos hik, if_pos (by omega)]
    · rw [if_neg hik, if_neg (by omega)]
theorem nAt_eq {l : List UInt8} {X : List ByteArray} (h : bl X = coreOf l) (k : Nat) (hk : k < X.length) : (num X[k].data.toList).1 = nAt l k := by
  unfold nAt numsOf
  rw [← h]
  simp [bl, List.getD_eq_getElem?_getD, hk]
theorem worst_no1 {cs : List Nat} (h : 1 ∉ cs) : worst 0 cs = if 2 ∈ cs then 2 else 0 := by simp [worst, h]
/-- What is answered for three numbers. -/
def resA (l : List UInt8) (v : Value) (q : Nat) : Value := if q = 0 then .agg #[.int .i64 (nAt l 0), .int .i64 (nAt l 1), .int .i64 (nAt l 2), v] else .agg #[.int .i64 0, .int .i64 0, .int .i64 0, .slice none 0 0]
theorem numsErr_ncode (ps : List (List UInt8)) : numsErr ps = worst 0 (ps.map ncode) := numsErr_worst ps

end Ve
end Go.Proofs.YtfdinpmpchmifaaGreatDoor
