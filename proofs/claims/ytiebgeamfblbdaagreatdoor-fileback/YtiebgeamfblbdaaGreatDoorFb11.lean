/-
  VerL Te
-/
import Derived.Test.YtiebgeamfblbdaaGreatDoorFb9
import Derived.Test.YtiebgeamfblbdaaGreatDoorFb10
namespace Go.Proofs.YtiebgeamfblbdaaGreatDoor
open Go.RowKit
namespace Ve
theorem three (w : World) (A B C : Array Value) (T U : TypeId) (j : Nat) :
    (((w.alloc (.cells A T)).alloc (.cells B T)).alloc (.cells C U)).cell? ⟨w.heap.size, j, none⟩ = A[j]? ∧ (((w.alloc (.cells A T)).alloc (.cells B T)).alloc (.cells C U)).cell? ⟨w.heap.size + 1, j, none⟩ = B[j]? ∧
    (((w.alloc (.cells A T)).alloc (.cells B T)).alloc (.cells C U)).cell? ⟨w.heap.size + 1 + 1, j, none⟩ = C[j]? := by
  refine ⟨?_, ?_, ?_⟩
  · rw [World.cell?_alloc_lt _ _ _ (by simp; omega), World.cell?_alloc_lt _ _ _ (by simp), World.cell?_alloc_at _ _ _ _ rfl]
  · rw [World.cell?_alloc_lt _ _ _ (by simp), World.cell?_alloc_at _ _ _ _ (by simp)]
  · rw [World.cell?_alloc_at _ _ _ _ (by simp)]
end Ve
end Go.Proofs.YtiebgeamfblbdaaGreatDoor
namespace Go.Proofs.YtiebgeamfblbdaaGreatDoor
open Go.RowKit
namespace Ve
structure Sn (w : World) (A : Nat → Addr) : Prop where
  g0 : w.cell? ⟨6, 0, none⟩ = some (.iface 169 (.pointer (some (A 0))))
  g1 : w.cell? ⟨1, 0, none⟩ = some (.iface 169 (.pointer (some (A 1))))
  g2 : w.cell? ⟨3, 0, none⟩ = some (.iface 169 (.pointer (some (A 2))))
  g3 : w.cell? ⟨7, 0, none⟩ = some (.iface 169 (.pointer (some (A 3))))
  g4 : w.cell? ⟨2, 0, none⟩ = some (.iface 169 (.pointer (some (A 4))))
  g6 : w.cell? ⟨0, 0, none⟩ = some (.iface 169 (.pointer (some (A 6))))
  g7 : w.cell? ⟨4, 0, none⟩ = some (.iface 169 (.pointer (some (A 7))))
  g8 : w.cell? ⟨5, 0, none⟩ = some (.iface 169 (.pointer (some (A 8))))
  et : w.cell? ⟨8, 0, none⟩ = some (.iface 141 (.agg #[.pointer (some ⟨12, 31, none⟩)]))
structure Te (w : World) (A : Nat → Addr) (m : Int) : Prop where
  sen : Sn w A
  vs : Vs w (A 0) (A 1) m
theorem Te.ml {w : World} {A : Nat → Addr} {m : Int} (h : Te w A m) : w.cell? ⟨9, 0, none⟩ = some (.int .i64 m) := h.vs.ml
theorem Te.below {w w' : World} {A : Nat → Addr} {m : Int} (h : Te w A m) (hb : Below w.heap.size w w') : Te w' A m :=
  ⟨⟨cell_below hb h.sen.g0, cell_below hb h.sen.g1, cell_below hb h.sen.g2, cell_below hb h.sen.g3, cell_below hb h.sen.g4, cell_below hb h.sen.g6, cell_below hb h.sen.g7, cell_below hb h.sen.g8, cell_below hb h.sen.et⟩, h.vs.below hb⟩
def errA (A : Nat → Addr) (c : Nat) : Value := if c = 0 then .nilIface else .iface 169 (.pointer (some (A (c - 1))))
theorem errA0 (A : Nat → Addr) : errA A 0 = .nilIface := rfl
theorem errA_V (A : Nat → Addr) (c : Nat) (h : c = 0 ∨ c = 1 ∨ c = 2) : errV (A 0) (A 1) c = errA A c := by
  rcases h with rfl | rfl | rfl <;> rfl
theorem errA_ne (A : Nat → Addr) {c : Nat} (h : c ≠ 0) : ∃ a, errA A c = .iface 169 (.pointer (some a)) := ⟨_, by unfold errA; rw [if_neg h]⟩
end Ve
end Go.Proofs.YtiebgeamfblbdaaGreatDoor
