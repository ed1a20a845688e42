/-
  What the walks ask of a world: the three errors of package mod, the library's bound; an error by its number.
-/
import Derived.Test.YtmgpapghdbopiaaDoorVerG
namespace Go.Proofs.YtmgpapghdbopiaaDoor
open Go.RowKit
namespace Ve

/-- The three errors. -/
structure Sn (w : World) (A : Nat → Addr) : Prop where
  g0 : w.cell? ⟨0, 0, none⟩ = some (.iface 135 (.pointer (some (A 0))))
  g1 : w.cell? ⟨2, 0, none⟩ = some (.iface 135 (.pointer (some (A 1))))
  g3 : w.cell? ⟨1, 0, none⟩ = some (.iface 135 (.pointer (some (A 3))))
/-- The three errors and the library's bound. -/
structure Te (w : World) (A : Nat → Addr) (m : Int) : Prop where
  sen : Sn w A
  vs : Vs w (A 0) (A 1) m
theorem Te.ml {w : World} {A : Nat → Addr} {m : Int} (h : Te w A m) : w.cell? ⟨3, 0, none⟩ = some (.int .i64 m) := h.vs.ml
theorem Te.below {w w' : World} {A : Nat → Addr} {m : Int} (h : Te w A m) (hb : Below w.heap.size w w') : Te w' A m :=
  ⟨⟨cell_below hb h.sen.g0, cell_below hb h.sen.g1, cell_below hb h.sen.g3⟩, h.vs.below hb⟩
/-- An error by its number: 0 none. -/
def errA (A : Nat → Addr) (c : Nat) : Value := if c = 0 then .nilIface else .iface 135 (.pointer (some (A (c - 1))))
theorem errA0 (A : Nat → Addr) : errA A 0 = .nilIface := rfl
theorem errA1 (A : Nat → Addr) : errA A 1 = .iface 135 (.pointer (some (A 0))) := rfl
theorem errA2 (A : Nat → Addr) : errA A 2 = .iface 135 (.pointer (some (A 1))) := rfl
theorem errA4 (A : Nat → Addr) : errA A 4 = .iface 135 (.pointer (some (A 3))) := rfl
theorem errA_V (A : Nat → Addr) (c : Nat) (h : c = 0 ∨ c = 1 ∨ c = 2) : errV (A 0) (A 1) c = errA A c := by
  rcases h with rfl | rfl | rfl <;> rfl
theorem errA_ne (A : Nat → Addr) {c : Nat} (h : c ≠ 0) : ∃ a, errA A c = .iface 135 (.pointer (some a)) := ⟨_, by unfold errA; rw [if_neg h]⟩
end Ve
end Go.Proofs.YtmgpapghdbopiaaDoor
