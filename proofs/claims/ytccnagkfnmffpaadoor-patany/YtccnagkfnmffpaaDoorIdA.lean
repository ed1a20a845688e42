/-
  Facts of an index of a loop.
-/
import Derived.Test.YtccnagkfnmffpaaDoorVerD
namespace Go.Proofs.YtccnagkfnmffpaaDoor
open Go.RowKit
namespace Ve

theorem ix_lt {i n : Nat} (h : i < n) : (i : Int) < (n : Int) := Int.ofNat_lt.2 h
theorem ix_nlt {i n : Nat} (h : ¬ i < n) : ¬ (i : Int) < (n : Int) := fun e => h (Int.ofNat_lt.1 e)
theorem ix_pos (i : Nat) : (0 : Int) ≤ (i : Int) := Int.natCast_nonneg _
theorem ix_pos1 (i : Nat) : (0 : Int) ≤ (i : Int) + 1 := by omega
theorem ix_lt1 {i n : Nat} (h : i + 1 < n) : (i : Int) + 1 < (n : Int) := by omega
theorem ix_nlt1 {i n : Nat} (h : ¬ i + 1 < n) : ¬ (i : Int) + 1 < (n : Int) := by omega
theorem ix_nat1 (i : Nat) : ((i : Int) + 1).toNat = i + 1 := by omega
theorem ix_w1 {i n : Nat} (h : i < n) (hn : n ≤ 1000000) : wrap64 ((i : Int) + 1) = (i : Int) + 1 := IntWalk.wrap64_in _ (by omega)
theorem ix_k1 {i n : Nat} (h : i < n) (hn : n ≤ 1000000) : IntKind.i64.wrap ((i : Int) + 1) = (i : Int) + 1 := by rw [IntKind.wrap_i64] <;> omega
theorem nx_idx {t n : Nat} (h : t < n) (h2 : n ≤ 1000000) : Value.int .i64 (wrap64 ((t : Int) + 1)) = .int .i64 ((t + 1 : Nat) : Int) := by
  rw [IntWalk.wrap64_in _ (by omega)]; rfl
theorem nx_meas {t n : Nat} (h : t < n) (h2 : n ≤ 1000000) : n - (intOf (Value.int .i64 (wrap64 ((t : Int) + 1)))).toNat < n - (intOf (Value.int .i64 (t : Int))).toNat := by
  rw [IntWalk.wrap64_in _ (by omega)]
  show n - ((t : Int) + 1).toNat < n - ((t : Int)).toNat
  omega
theorem nr_idx (t : Nat) : Value.int .i64 ((t : Int) + 1) = .int .i64 ((t + 1 : Nat) : Int) := rfl
theorem nr_meas {t n : Nat} (h : t < n) : n - (intOf (Value.int .i64 ((t : Int) + 1))).toNat < n - (intOf (Value.int .i64 (t : Int))).toNat := by
  show n - ((t : Int) + 1).toNat < n - ((t : Int)).toNat
  omega
end Ve
end Go.Proofs.YtccnagkfnmffpaaDoor
