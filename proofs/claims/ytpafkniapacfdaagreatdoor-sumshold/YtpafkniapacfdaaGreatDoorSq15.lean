
import Derived.Test.YtpafkniapacfdaaGreatDoorSq14
import Derived.Test.YtpafkniapacfdaaGreatDoorSq13
import Derived.Test.YtpafkniapacfdaaGreatDoorSq11
import Derived.Deep.RegionHeld
import Derived.Test.YtpafkniapacfdaaGreatDoorSq4
import Derived.Laws.StructEq
namespace Go.Proofs.YtpafkniapacfdaaGreatDoor
open Go.RowKit
namespace Ve
end Ve
end Go.Proofs.YtpafkniapacfdaaGreatDoor


namespace Go.Proofs.YtpafkniapacfdaaGreatDoor
open Go.RowKit
namespace Ve
abbrev Rc := List UInt8 × Value
def rcells (r : Rc) : List Value := [.int .i64 (nAt r.1 0), .int .i64 (nAt r.1 1), .int .i64 (nAt r.1 2), r.2]
def RcAt (W : World) (g : Nat) (r : Rc) : Prop := verErr r.1 = 0 ∧ r.1.length ≤ 80 ∧ StrsAt W r.2 (strs (preOf r.1)) ∧ ∀ b o s n c, r.2 = .slice (some ⟨b, o, s⟩) n c → b ≠ g
structure Rw (w0 W : World) (g : Nat) (D : List Rc) : Prop where
  bl : Below w0.heap.size w0 W
  lo : w0.heap.size ≤ g
  hi : g < W.heap.size
  fz : ∀ o, W.frozen? ⟨g, o, none⟩ = false
  rc : ∀ r, r ∈ D → RcAt W g r
  c0 : ∀ j (h : j < D.length), W.cell? ⟨g, j * 4, none⟩ = some (.int .i64 (nAt D[j].1 0))
  c1 : ∀ j (h : j < D.length), W.cell? ⟨g, j * 4 + 1, none⟩ = some (.int .i64 (nAt D[j].1 1))
  c2 : ∀ j (h : j < D.length), W.cell? ⟨g, j * 4 + 2, none⟩ = some (.int .i64 (nAt D[j].1 2))
  c3 : ∀ j (h : j < D.length), W.cell? ⟨g, j * 4 + 3, none⟩ = some D[j].2
end Ve
end Go.Proofs.YtpafkniapacfdaaGreatDoor


namespace Go.Proofs.YtpafkniapacfdaaGreatDoor
open Go.RowKit
namespace Ve
def mErr (m : Bm) : Nat := modErr m.1.data.toList m.2.data.toList
def mAhead (a b : Bm) : Bool := aheadB a.1.data.toList a.2.data.toList b.1.data.toList b.2.data.toList
def noLess (a b : ByteArray) : Bool := !decide (Lib.compareBytes a.data.toList b.data.toList < 0)
def reqW (own : ByteArray) (prev : Option Bm) (m : Bm) : Nat :=
  if mErr m = 0 then (if m.1 = own then 3 else match prev with
    | none => 0
    | some p => if noLess p.1 m.1 then 8 else 0) else mErr m
def exW (prev : Option Bm) (m : Bm) : Nat :=
  if mErr m = 0 then (match prev with
    | none => 0
    | some p => if mAhead p m then 0 else 8) else mErr m
def prevOf (l : List Bm) (i : Nat) : Option Bm := if i = 0 then none else l[i - 1]?
def reqE (own : ByteArray) (l : List Bm) (i : Nat) : Nat := match l[i]? with
  | none => 0
  | some m => reqW own (prevOf l i) m
def exE (l : List Bm) (i : Nat) : Nat := match l[i]? with
  | none => 0
  | some m => exW (prevOf l i) m
def fstE (E : Nat → Nat) : Nat → Option Nat
  | 0 => none
  | n + 1 => match fstE E n with
    | some i => some i
    | none => if E n = 0 then none else some n
theorem fstE_none {E : Nat → Nat} : ∀ {n : Nat}, (∀ j, j < n → E j = 0) → fstE E n = none
  | 0, _ => rfl
  | n + 1, h => by
    unfold fstE
    rw [fstE_none (n := n) (fun j hj => h j (by omega)), if_pos (h n (by omega))]
theorem fstE_some {E : Nat → Nat} {i : Nat} (h0 : ∀ j, j < i → E j = 0) (hi : E i ≠ 0) : ∀ {n : Nat}, i < n → fstE E n = some i
  | 0, h => by omega
  | n + 1, h => by
    unfold fstE
    rcases Nat.lt_or_ge i n with hh | hh
    · rw [fstE_some h0 hi hh]
    · have : i = n := by omega
      subst this
      rw [fstE_none h0]
      simp only
      rw [if_neg hi]
theorem fstE_of_none {E : Nat → Nat} : ∀ {n : Nat}, fstE E n = none → ∀ j, j < n → E j = 0
  | 0, _, j, hj => by omega
  | n + 1, h, j, hj => by
    unfold fstE at h
    cases h1 : fstE E n with
    | some i => rw [h1] at h; cases h
    | none =>
      rw [h1] at h
      simp only at h
      by_cases h2 : E n = 0
      · rcases Nat.lt_or_ge j n with hh | hh
        · exact fstE_of_none h1 j hh
        · have : j = n := by omega
          rw [this]; exact h2
      · rw [if_neg h2] at h; cases h
theorem fstE_of_some {E : Nat → Nat} {i : Nat} : ∀ {n : Nat}, fstE E n = some i → i < n ∧ E i ≠ 0 ∧ ∀ j, j < i → E j = 0
  | 0, h => by cases h
  | n + 1, h => by
    unfold fstE at h
    cases h1 : fstE E n with
    | some k =>
      rw [h1] at h
      obtain ⟨a, b, c⟩ := fstE_of_some h1
      simp only [Option.some.injEq] at h
      subst h
      exact ⟨by omega, b, c⟩
    | none =>
      rw [h1] at h
      simp only at h
      by_cases h2 : E n = 0
      · rw [if_pos h2] at h; cases h
      · rw [if_neg h2] at h
        simp only [Option.some.injEq] at h
        subst h
        exact ⟨by omega, h2, fstE_of_none h1⟩
def MsAt (w : World) (v : Value) (L : List Bm) : Prop :=
  ∃ (a : Option Addr) (c : Nat), v = .slice a L.length c ∧ L.length ≤ c ∧ (L ≠ [] → ∃ b o, a = some ⟨b, o, none⟩ ∧ ∀ j (h : j < L.length), w.cell? ⟨b, o + j * 2, none⟩ = some (.string L[j].1) ∧ w.cell? ⟨b, o + j * 2 + 1, none⟩ = some (.string L[j].2))
theorem MsAt.below {w w' : World} {v : Value} {L : List Bm} (h : MsAt w v L) (hb : Below w.heap.size w w') : MsAt w' v L := by
  obtain ⟨a, c, e, hc, h⟩ := h
  refine ⟨a, c, e, hc, fun hL => ?_⟩
  obtain ⟨b, o, e2, h2⟩ := h hL
  exact ⟨b, o, e2, fun j hj => ⟨cell_below hb (h2 j hj).1, cell_below hb (h2 j hj).2⟩⟩
end Ve
end Go.Proofs.YtpafkniapacfdaaGreatDoor


namespace Go.Proofs.YtpafkniapacfdaaGreatDoor
open Go.RowKit
namespace Ve
theorem modSame (p v q u : ByteArray) (w : World) : (Op.equalIn 10000 42 (.agg #[.string p, .string v]) (.agg #[.string q, .string u])).run Tryz.prog w = .ok (decide (p = q ∧ v = u)) w := by
  have u3 := Tryz.underlying9
  have a3 := Tryz.isAgg9
  have z3 := Tryz.sizeOf9
  have hS : Tryz.prog.underlying 42 = some (.struct (Tryz.prog.fieldsOf 42)) := by kernel_rfl
  have hp : Tryz.prog.stoodInHeld 42 = false := by kernel_rfl
  rw [show (10000 : Nat) = 9999 + 1 from rfl, run_equalIn_agg w 9999 42 _ _ hS hp]
  simp only [Program.fieldsOf, Tryz.underlying42]
  by_cases h1 : p = q
  · subst h1
    by_cases h2 : v = u
    · subst h2
      have e1 := str_refl p
      have e2 := str_refl v
      go_simp
    · have e1 := str_refl p
      have e2 := str_ne h2
      go_simp
  · have e1 := str_ne h1
    go_simp
theorem modEql (p v q u : ByteArray) (w : World) : (binOp .eql 42 (.agg #[.string p, .string v]) (.agg #[.string q, .string u])).run Tryz.prog w = .ok (.bool (decide (p = q ∧ v = u))) w := by
  rw [run_eql_struct, modSame]; rfl
theorem modGuard : Tryz.prog.eqGuardType Tryz.prog.depth 42 = false := by kernel_rfl
end Ve
end Go.Proofs.YtpafkniapacfdaaGreatDoor


namespace Go.Proofs.YtpafkniapacfdaaGreatDoor
namespace Ve
end Ve
end Go.Proofs.YtpafkniapacfdaaGreatDoor
