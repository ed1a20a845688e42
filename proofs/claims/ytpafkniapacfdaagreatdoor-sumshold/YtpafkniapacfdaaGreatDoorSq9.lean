
import Derived.Test.YtpafkniapacfdaaGreatDoorSq8
import Derived.Test.YtpafkniapacfdaaGreatDoorSq7
import Derived.Test.YtpafkniapacfdaaGreatDoorSq5
namespace Go.Proofs.YtpafkniapacfdaaGreatDoor
open Go.RowKit
namespace Ve
theorem rest_drop {l : List UInt8} (h : marked l = true) : restOf l = l.drop 1 := by unfold restOf; rw [if_pos h]
theorem one_no {c : UInt8} {l : List UInt8} (h : l.contains c = false) : one c l = (l, [], false) := by
  unfold one
  have h1 : ∀ x, x ∈ l → (x != c) = true := by
    intro x hx
    simp at h ⊢
    intro e; subst e; exact h hx
  have e1 : l.takeWhile (· != c) = l := by
    induction l with
    | nil => rfl
    | cons a r ih =>
      have := h1 a (List.mem_cons_self)
      simp only [List.takeWhile_cons, this, if_true]
      rw [ih (by simp at h ⊢; exact h.2) (fun x hx => h1 x (List.mem_cons_of_mem _ hx))]
  have e2 := List.takeWhile_append_dropWhile (p := (· != c)) (l := l)
  rw [e1] at e2
  have e3 : l.dropWhile (· != c) = [] := by
    have := congrArg List.length e2
    simp at this
    exact this
  rw [e1, e3, h]; rfl
end Ve
end Go.Proofs.YtpafkniapacfdaaGreatDoor


namespace Go.Proofs.YtpafkniapacfdaaGreatDoor
open Go.RowKit
namespace Ve
end Ve
end Go.Proofs.YtpafkniapacfdaaGreatDoor


namespace Go.Proofs.YtpafkniapacfdaaGreatDoor
open Go.RowKit
namespace Ve
structure Sn (w : World) (A : Nat → Addr) : Prop where
  g0 : w.cell? ⟨4, 0, none⟩ = some (.iface 291 (.pointer (some (A 0))))
  g1 : w.cell? ⟨5, 0, none⟩ = some (.iface 291 (.pointer (some (A 1))))
  g2 : w.cell? ⟨6, 0, none⟩ = some (.iface 291 (.pointer (some (A 2))))
  g3 : w.cell? ⟨7, 0, none⟩ = some (.iface 291 (.pointer (some (A 3))))
  g4 : w.cell? ⟨1, 0, none⟩ = some (.iface 291 (.pointer (some (A 4))))
  g6 : w.cell? ⟨0, 0, none⟩ = some (.iface 291 (.pointer (some (A 6))))
  g7 : w.cell? ⟨3, 0, none⟩ = some (.iface 291 (.pointer (some (A 7))))
  et : w.cell? ⟨10, 0, none⟩ = some (.iface 212 (.agg #[.pointer (some ⟨19, 30, none⟩)]))
structure Te (w : World) (A : Nat → Addr) (m : Int) : Prop where
  sen : Sn w A
  vs : Vs w (A 0) (A 1) m
theorem Te.ml {w : World} {A : Nat → Addr} {m : Int} (h : Te w A m) : w.cell? ⟨12, 0, none⟩ = some (.int .i64 m) := h.vs.ml
theorem Te.below {w w' : World} {A : Nat → Addr} {m : Int} (h : Te w A m) (hb : Below w.heap.size w w') : Te w' A m :=
  ⟨⟨cell_below hb h.sen.g0, cell_below hb h.sen.g1, cell_below hb h.sen.g2, cell_below hb h.sen.g3, cell_below hb h.sen.g4, cell_below hb h.sen.g6, cell_below hb h.sen.g7, cell_below hb h.sen.et⟩, h.vs.below hb⟩
def errA (A : Nat → Addr) (c : Nat) : Value := if c = 0 then .nilIface else .iface 291 (.pointer (some (A (c - 1))))
theorem errA0 (A : Nat → Addr) : errA A 0 = .nilIface := rfl
theorem errA_V (A : Nat → Addr) (c : Nat) (h : c = 0 ∨ c = 1 ∨ c = 2) : errV (A 0) (A 1) c = errA A c := by
  rcases h with rfl | rfl | rfl <;> rfl
theorem errA_ne (A : Nat → Addr) {c : Nat} (h : c ≠ 0) : ∃ a, errA A c = .iface 291 (.pointer (some a)) := ⟨_, by unfold errA; rw [if_neg h]⟩
end Ve
end Go.Proofs.YtpafkniapacfdaaGreatDoor


namespace Go.Proofs.YtpafkniapacfdaaGreatDoor
open Go.RowKit Go.Sort
namespace Ve
end Ve
end Go.Proofs.YtpafkniapacfdaaGreatDoor


namespace Go.Proofs.YtpafkniapacfdaaGreatDoor
open Go.RowKit
namespace Ve
theorem dec_big {u : Nat} (h : ¬ u < 10) : Lib.decDigits u = Lib.decDigits (u / 10) ++ [UInt8.ofNat (48 + u % 10)] := by rw [Lib.decDigits, dif_neg h]
def preText : List (List UInt8) → List UInt8
  | [] => []
  | p :: r => [45] ++ Lib.join (p :: r) [46]
theorem bl_inj {X Y : List ByteArray} (h : bl X = bl Y) : X = Y := by
  induction X generalizing Y with
  | nil => cases Y with
    | nil => rfl
    | cons y r => simp [bl] at h
  | cons x r ih => cases Y with
    | nil => simp [bl] at h
    | cons y s =>
      simp only [bl, List.map_cons, List.cons.injEq] at h
      rw [str_ext h.1, ih h.2]
end Ve
end Go.Proofs.YtpafkniapacfdaaGreatDoor
