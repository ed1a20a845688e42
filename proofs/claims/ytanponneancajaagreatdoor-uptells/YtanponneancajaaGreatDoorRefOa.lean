/-
  Faults as the document's answer has them.
-/
import Derived.Test.YtanponneancajaaGreatDoorRefN
namespace Go.Proofs.YtanponneancajaaGreatDoor
open Go.RowKit
namespace Ve

/-- A place as a number; nowhere: -1. -/
def atOf : Option Nat → Int
  | none => -1
  | some i => (i : Int)
/-- A fault as the document's answer has it. -/
def faultV (r : Nat × Option Nat) : Value := .agg #[.int .i64 (r.1 : Nat), .int .i64 (atOf r.2)]
theorem fld0 (a b : Int) (W : World) : (Instr.field 64 (.agg #[.int .i64 a, .int .i64 b]) 0).run Tryz.prog W = .ok (.int .i64 a) W := by kernel_rfl
theorem rbare_any (n : Int) (w : World) : Calls Tryz.prog 84 #[.int .i64 n] w fun e w' => e = .returned (.agg #[.int .i64 n, .int .i64 (-1)]) ∧ Below w.heap.size w w' := by
  go_enter Tryz.func84, Tryz.ntmps84
  go_wp2_with fail
  refine bodyPost_ret (v := .agg #[.int .i64 n, .int .i64 (-1)]) (by simp [results, Tryz.results84, go_sem]) rfl ⟨rfl, ?_⟩
  exact (Below.refl w.heap.size w).alloc (Nat.le_refl _) _
theorem fine_any (w : World) : Calls Tryz.prog 88 #[] w fun e w' => e = .returned (.agg #[.int .i64 0, .int .i64 (-1)]) ∧ Below w.heap.size w w' := by
  go_enter Tryz.func88, Tryz.ntmps88
  go_wp2_with fail
  refine bodyPost_ret (v := .agg #[.int .i64 0, .int .i64 (-1)]) (by simp [results, Tryz.results88, go_sem]) rfl ⟨rfl, ?_⟩
  exact (Below.refl w.heap.size w).alloc (Nat.le_refl _) _
end Ve
end Go.Proofs.YtanponneancajaaGreatDoor
