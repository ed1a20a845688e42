/-
  OrdU IxC IxPa IxW IxP LkA
-/
import Derived.Lib.SliceRun
import Derived.Test.YtnkgjddkdikikaaGreatDoorPq4
import Derived.Test.YtnkgjddkdikikaaGreatDoorPq7
import Derived.Test.YtnkgjddkdikikaaGreatDoorPq10
import Derived.Test.YtnkgjddkdikikaaGreatDoorPq5
import Derived.Test.YtnkgjddkdikikaaGreatDoorPq27
import Derived.Test.YtnkgjddkdikikaaGreatDoorPq3
import Derived.Test.YtnkgjddkdikikaaGreatDoorPq21
import Derived.Test.YtnkgjddkdikikaaGreatDoorPq23
import Derived.Test.YtnkgjddkdikikaaGreatDoorPq31
namespace Go.Proofs.YtnkgjddkdikikaaGreatDoor
namespace Ve
structure Cp (D : List Rc) (m : Nat) (E : List Rc) : Prop where
  ri : rises (E.map (·.1))
  mem : ∀ t, t ∈ E.map (·.1) ↔ t ∈ (D.take m).map (·.1)
  len : E.length ≤ m
  sub : ∀ r, r ∈ E → r ∈ D
theorem take_snoc' (D : List Rc) (m : Nat) (hm : m < D.length) : (D.take (m + 1)).map (·.1) = (D.take m).map (·.1) ++ [D[m].1] := by
  rw [List.take_succ_eq_append_getElem hm, List.map_append]; rfl
theorem Cp.same {D E : List Rc} {m : Nat} (h : Cp D (m + 1) E) (hv : ∀ r, r ∈ D → verErr r.1 = 0) (hm : m + 1 < D.length) (he : ordV D[m + 1].1 (D[m]'(by omega)).1 = 0) : Cp D (m + 1 + 1) E := by
  have e1 := (ordV_zero (hv _ (List.getElem_mem hm)) (hv _ (List.getElem_mem (by omega)))).1 he
  refine ⟨h.ri, fun t => ?_, by have := h.len; omega, h.sub⟩
  rw [h.mem, take_snoc' D (m + 1) hm, List.mem_append, List.mem_singleton]
  constructor
  · exact Or.inl
  · rintro (a | a)
    · exact a
    · rw [a, e1, take_snoc' D m (by omega), List.mem_append]
      exact Or.inr (by simp)
end Ve
end Go.Proofs.YtnkgjddkdikikaaGreatDoor
namespace Go.Proofs.YtnkgjddkdikikaaGreatDoor
open Go.RowKit
namespace Ve
def preB (s : ByteArray) : Bool := decide (verErr s.data.toList = 0) && decide (0 < (preOf s.data.toList).length)
def isP (t : ByteArray) (r : Raw) : Bool := decide (r.1.1 = t) && decide (verErr r.1.2.data.toList = 0)
def shortR (L : List Raw) : Prop := ∀ r, r ∈ L → r.1.1.size < 999999 ∧ r.1.2.size < 999999
theorem shortR.filter {L : List Raw} (h : shortR L) (P : Raw → Bool) : shortR (L.filter P) := fun r hr => h r (List.mem_filter.1 hr).1
def isS (r : Raw) : Bool := !r.2.2.2
def isD (r : Raw) : Bool := !preB r.1.2
def bestR (L : List Raw) : List Raw := if 0 < ((L.filter isS).filter isD).length then (L.filter isS).filter isD else if 0 < (L.filter isS).length then L.filter isS else L
end Ve
end Go.Proofs.YtnkgjddkdikikaaGreatDoor
namespace Go.Proofs.YtnkgjddkdikikaaGreatDoor
open Go.RowKit
namespace Ve
structure Good (Q : List Raw) : Prop where
  ver : ∀ r, r ∈ Q → verErr r.1.2.data.toList = 0
  path : ∀ r, r ∈ Q → pathErr r.1.1.data.toList = 0
  one : ∀ i j (hi : i < Q.length) (hj : j < Q.length), Q[i].1 = Q[j].1 → i = j
theorem Good.same {Q : List Raw} (g : Good Q) {r s : Raw} (hr : r ∈ Q) (hs : s ∈ Q) (h : r.1 = s.1) : r = s := by
  obtain ⟨i, hi, rfl⟩ := List.getElem_of_mem hr
  obtain ⟨j, hj, rfl⟩ := List.getElem_of_mem hs
  have := g.one i j hi hj h
  subst this; rfl
end Ve
end Go.Proofs.YtnkgjddkdikikaaGreatDoor
namespace Go.Proofs.YtnkgjddkdikikaaGreatDoor
open Go.RowKit
namespace Ve
def ofP (t : ByteArray) (L : List Raw) : List Raw := L.filter (isP t)
end Ve
end Go.Proofs.YtnkgjddkdikikaaGreatDoor
namespace Go.Proofs.YtnkgjddkdikikaaGreatDoor
open Go.RowKit
namespace Ve
theorem Good.ofP {Q : List Raw} (g : Good Q) (t : ByteArray) : ofP t Q = Q.filter fun r => decide (r.1.1 = t) := by
  unfold Ve.ofP
  refine List.filter_congr fun r hr => ?_
  unfold isP
  rw [decide_eq_true (g.ver r hr), Bool.and_true]
structure Top (Q : List Raw) (t top : ByteArray) (at_ : Nat) : Prop where
  lt : at_ < Q.length
  idx : idxOf (isM (t, top)) Q = (at_ : Int)
  ver : verErr top.data.toList = 0
  no : ∀ s, s ∈ ofP t Q → (!s.2.2.2 || (Q[at_]'lt).2.2.2) = true → (decide ((preOf s.1.2.data.toList).length = 0) || (decide (0 < (preOf top.data.toList).length) || (Q[at_]'lt).2.2.2)) = true → lessB top.data.toList s.1.2.data.toList = false
structure One (Q : List Raw) (t v : ByteArray) (n : Nat) : Prop where
  lt : n < Q.length
  idx : idxOf (isM (t, v)) Q = (n : Int)
  ver : verErr v.data.toList = 0
  mem : Q[n]'lt ∈ ofP t Q
  same : (Q[n]'lt).1.2 = v
end Ve
end Go.Proofs.YtnkgjddkdikikaaGreatDoor
namespace Go.Proofs.YtnkgjddkdikikaaGreatDoor
open Go.RowKit Go.Maps
namespace Ve
def rnk (r : Raw) : Nat := if r.2.2.2 then 0 else if 0 < (preOf r.1.2.data.toList).length then 1 else 2
def rkV (Q : List Raw) (t v : ByteArray) : Nat := match Q.find? (fun r => decide (r.1.1 = t ∧ r.1.2 = v)) with
  | some r => rnk r
  | none => 0
structure Lik (Q : List Raw) (t : ByteArray) (X : List ByteArray) (i : Nat) (s : ByteArray × Int) : Prop where
  z : i = 0 → s = (⟨#[]⟩, -1)
  p : 0 < i → ∃ j, ∃ hj : j < X.length, j < i ∧ s = (X[j], (rkV Q t X[j] : Int)) ∧ (∀ k (hk : k < X.length), k < i → rkV Q t X[k] ≤ rkV Q t X[j]) ∧ ∀ k (hk : k < X.length), k < i → j < k → rkV Q t X[k] < rkV Q t X[j]
end Ve
end Go.Proofs.YtnkgjddkdikikaaGreatDoor
