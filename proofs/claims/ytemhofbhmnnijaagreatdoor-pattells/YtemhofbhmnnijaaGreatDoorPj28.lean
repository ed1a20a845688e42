
import Derived.Test.YtemhofbhmnnijaaGreatDoorPj20
namespace Go.Proofs.YtemhofbhmnnijaaGreatDoor
open Go.RowKit
namespace Ve
structure Sn (w : World) (A : Nat → Addr) : Prop where
  g0 : w.cell? ⟨0, 0, none⟩ = some (.iface 127 (.pointer (some (A 0))))
  g1 : w.cell? ⟨1, 0, none⟩ = some (.iface 127 (.pointer (some (A 1))))
  g2 : w.cell? ⟨2, 0, none⟩ = some (.iface 127 (.pointer (some (A 2))))
  g3 : w.cell? ⟨3, 0, none⟩ = some (.iface 127 (.pointer (some (A 3))))
  g4 : w.cell? ⟨4, 0, none⟩ = some (.iface 127 (.pointer (some (A 4))))
  g6 : w.cell? ⟨6, 0, none⟩ = some (.iface 127 (.pointer (some (A 6))))
  g7 : w.cell? ⟨7, 0, none⟩ = some (.iface 127 (.pointer (some (A 7))))
  et : w.cell? ⟨10, 0, none⟩ = some (.iface 82 (.agg #[.pointer (some ⟨14, 27, none⟩)]))
structure Te (w : World) (A : Nat → Addr) (m : Int) : Prop where
  sen : Sn w A
  vs : Vs w (A 0) (A 1) m
theorem Te.ml {w : World} {A : Nat → Addr} {m : Int} (h : Te w A m) : w.cell? ⟨11, 0, none⟩ = some (.int .i64 m) := h.vs.ml
theorem Te.below {w w' : World} {A : Nat → Addr} {m : Int} (h : Te w A m) (hb : Below w.heap.size w w') : Te w' A m :=
  ⟨⟨cell_below hb h.sen.g0, cell_below hb h.sen.g1, cell_below hb h.sen.g2, cell_below hb h.sen.g3, cell_below hb h.sen.g4, cell_below hb h.sen.g6, cell_below hb h.sen.g7, cell_below hb h.sen.et⟩, h.vs.below hb⟩
def errA (A : Nat → Addr) (c : Nat) : Value := if c = 0 then .nilIface else .iface 127 (.pointer (some (A (c - 1))))
theorem errA0 (A : Nat → Addr) : errA A 0 = .nilIface := rfl
theorem errA1 (A : Nat → Addr) : errA A 1 = .iface 127 (.pointer (some (A 0))) := rfl
theorem errA2 (A : Nat → Addr) : errA A 2 = .iface 127 (.pointer (some (A 1))) := rfl
theorem errA4 (A : Nat → Addr) : errA A 4 = .iface 127 (.pointer (some (A 3))) := rfl
end Ve
end Go.Proofs.YtemhofbhmnnijaaGreatDoor
