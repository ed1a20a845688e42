/-
  What == and != say of two modules.
-/
import Derived.Test.YtjgmngihpmliiaaDoorModE
import Derived.Laws.StructEq
namespace Go.Proofs.YtjgmngihpmliiaaDoor
open Go.RowKit
namespace Ve

theorem modSame (p v q u : ByteArray) (w : World) : (Op.equalIn 10000 48 (.agg #[.string p, .string v]) (.agg #[.string q, .string u])).run Tryd.prog w = .ok (decide (p = q ∧ v = u)) w := by
  have u3 := Tryd.underlying9
  have a3 := Tryd.isAgg9
  have z3 := Tryd.sizeOf9
  have hS : Tryd.prog.underlying 48 = some (.struct (Tryd.prog.fieldsOf 48)) := by kernel_rfl
  have hp : Tryd.prog.stoodInHeld 48 = false := by kernel_rfl
  rw [show (10000 : Nat) = 9999 + 1 from rfl, run_equalIn_agg w 9999 48 _ _ hS hp]
  simp only [Program.fieldsOf, Tryd.underlying48]
  by_cases h1 : p = q
  · subst h1
    by_cases h2 : v = u
    · subst h2
      have e1 := str_refl p
      have e2 := str_refl v
      go_simp
    · have e1 := str_refl p
      have e2 := str_ne h2
      go_simp
  · have e1 := str_ne h1
    go_simp
theorem modEql (p v q u : ByteArray) (w : World) : (binOp .eql 48 (.agg #[.string p, .string v]) (.agg #[.string q, .string u])).run Tryd.prog w = .ok (.bool (decide (p = q ∧ v = u))) w := by
  rw [run_eql_struct, modSame]; rfl
theorem modNeq (p v q u : ByteArray) (w : World) : (binOp .neq 48 (.agg #[.string p, .string v]) (.agg #[.string q, .string u])).run Tryd.prog w = .ok (.bool (!decide (p = q ∧ v = u))) w := by
  rw [run_neq_struct, modSame]; rfl
theorem modGuard : Tryd.prog.eqGuardType Tryd.prog.depth 48 = false := by kernel_rfl
end Ve
end Go.Proofs.YtjgmngihpmliiaaDoor
