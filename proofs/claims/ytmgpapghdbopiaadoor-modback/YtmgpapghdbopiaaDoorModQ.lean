/-
  What == and != say of two modules.
-/
import Derived.Test.YtmgpapghdbopiaaDoorModE
import Derived.Laws.StructEq
namespace Go.Proofs.YtmgpapghdbopiaaDoor
open Go.RowKit
namespace Ve

theorem modSame (p v q u : ByteArray) (w : World) : (Op.equalIn 10000 36 (.agg #[.string p, .string v]) (.agg #[.string q, .string u])).run Tryd.prog w = .ok (decide (p = q ∧ v = u)) w := by
  have u3 := Tryd.underlying9
  have a3 := Tryd.isAgg9
  have z3 := Tryd.sizeOf9
  have hS : Tryd.prog.underlying 36 = some (.struct (Tryd.prog.fieldsOf 36)) := by kernel_rfl
  have hp : Tryd.prog.stoodInHeld 36 = false := by kernel_rfl
  rw [show (10000 : Nat) = 9999 + 1 from rfl, run_equalIn_agg w 9999 36 _ _ hS hp]
  simp only [Program.fieldsOf, Tryd.underlying36]
  by_cases h1 : p = q
  · subst h1
    by_cases h2 : v = u
    · subst h2
      have e1 := str_refl p
      have e2 := str_refl v
      go_simp
    · have e1 := str_refl p
      have e2 := str_ne h2
      go_simp
  · have e1 := str_ne h1
    go_simp
theorem modEql (p v q u : ByteArray) (w : World) : (binOp .eql 36 (.agg #[.string p, .string v]) (.agg #[.string q, .string u])).run Tryd.prog w = .ok (.bool (decide (p = q ∧ v = u))) w := by
  rw [run_eql_struct, modSame]; rfl
theorem modNeq (p v q u : ByteArray) (w : World) : (binOp .neq 36 (.agg #[.string p, .string v]) (.agg #[.string q, .string u])).run Tryd.prog w = .ok (.bool (!decide (p = q ∧ v = u))) w := by
  rw [run_neq_struct, modSame]; rfl
theorem modGuard : Tryd.prog.eqGuardType Tryd.prog.depth 36 = false := by kernel_rfl
end Ve
end Go.Proofs.YtmgpapghdbopiaaDoor
