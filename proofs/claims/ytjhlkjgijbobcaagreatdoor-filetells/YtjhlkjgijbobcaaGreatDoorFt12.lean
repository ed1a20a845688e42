/-
  Te
-/
import Derived.Test.YtjhlkjgijbobcaaGreatDoorFt4
import Derived.Test.YtjhlkjgijbobcaaGreatDoorFt11
namespace Go.Proofs.YtjhlkjgijbobcaaGreatDoor
open Go.RowKit
namespace Ve
structure Te (w : World) (A : Nat → Addr) (m : Int) : Prop where
  sen : Er.Sen w A
  ml : w.cell? ⟨11, 0, none⟩ = some (.int .i64 m)
theorem Te.below {w w' : World} {A : Nat → Addr} {m : Int} (h : Te w A m) (hb : Below w.heap.size w w') : Te w' A m :=
  ⟨h.sen.below hb, cell_below hb h.ml⟩
theorem Te.vs {w : World} {A : Nat → Addr} {m : Int} (h : Te w A m) : Vs w (A 0) (A 1) m :=
  ⟨h.sen.g0, h.sen.g1, h.sen.blk 0 (by omega), h.sen.blk 1 (by omega), h.sen.inj 0 1 (by omega) (by omega) (by omega), h.ml⟩
def errA (A : Nat → Addr) (c : Nat) : Value := if c = 0 then .nilIface else .iface 201 (.pointer (some (A (c - 1))))
theorem errA0 (A : Nat → Addr) : errA A 0 = .nilIface := rfl
theorem errA_V (A : Nat → Addr) (c : Nat) (h : c = 0 ∨ c = 1 ∨ c = 2) : errV (A 0) (A 1) c = errA A c := by
  rcases h with rfl | rfl | rfl <;> rfl
theorem errA_ne (A : Nat → Addr) {c : Nat} (h : c ≠ 0) : ∃ a, errA A c = .iface 201 (.pointer (some a)) := ⟨_, by unfold errA; rw [if_neg h]⟩
end Ve
end Go.Proofs.YtjhlkjgijbobcaaGreatDoor
