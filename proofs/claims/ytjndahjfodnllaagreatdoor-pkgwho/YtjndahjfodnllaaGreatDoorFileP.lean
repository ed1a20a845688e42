/-
  Files, plain: a module as two texts; what is wrong with a requirement, with what is excluded, with a file, and where.
-/
import Derived.Test.YtjndahjfodnllaaGreatDoorAhead
import Derived.Test.YtjndahjfodnllaaGreatDoorFileQ
namespace Go.Proofs.YtjndahjfodnllaaGreatDoor
open Go.RowKit
namespace Ve

def mErr (m : Bm) : Nat := modErr m.1.data.toList m.2.data.toList
def mAhead (a b : Bm) : Bool := aheadB a.1.data.toList a.2.data.toList b.1.data.toList b.2.data.toList
/-- A path that is no less than another one. -/
def noLess (a b : ByteArray) : Bool := !decide (Lib.compareBytes a.data.toList b.data.toList < 0)
/-- What is wrong with a requirement behind another one. -/
def reqW (own : ByteArray) (prev : Option Bm) (m : Bm) : Nat :=
  if mErr m = 0 then (if m.1 = own then 3 else match prev with
    | none => 0
    | some p => if noLess p.1 m.1 then 8 else 0) else mErr m
/-- What is wrong with what is excluded. -/
def exW (prev : Option Bm) (m : Bm) : Nat :=
  if mErr m = 0 then (match prev with
    | none => 0
    | some p => if mAhead p m then 0 else 8) else mErr m
/-- The one ahead. -/
def prevOf (l : List Bm) (i : Nat) : Option Bm := if i = 0 then none else l[i - 1]?
def reqE (own : ByteArray) (l : List Bm) (i : Nat) : Nat := match l[i]? with
  | none => 0
  | some m => reqW own (prevOf l i) m
def exE (l : List Bm) (i : Nat) : Nat := match l[i]? with
  | none => 0
  | some m => exW (prevOf l i) m
/-- Is a module among others? -/
def hasB (x : List Bm) (m : Bm) : Bool := x.any fun y => decide (m.1 = y.1 ∧ m.2 = y.2)
theorem hasB_iff {x : List Bm} {m : Bm} : hasB x m = true ↔ m ∈ x := by
  unfold hasB
  rw [List.any_eq_true]
  constructor
  · rintro ⟨y, hy, h⟩
    have h := of_decide_eq_true h
    have : m = y := by cases m; cases y; simp only at h; rw [h.1, h.2]
    rw [this]; exact hy
  · intro h
    exact ⟨m, h, decide_eq_true ⟨rfl, rfl⟩⟩
theorem hasB_not {x : List Bm} {m : Bm} (h : m ∉ x) : hasB x m = false := by
  cases e : hasB x m
  · rfl
  · exact absurd (hasB_iff.1 e) h
def clE (x l : List Bm) (i : Nat) : Nat := match l[i]? with
  | none => 0
  | some m => if hasB x m then 9 else 0
/-- The first place with an error. -/
def fstE (E : Nat → Nat) : Nat → Option Nat
  | 0 => none
  | n + 1 => match fstE E n with
    | some i => some i
    | none => if E n = 0 then none else some n
theorem fstE_none {E : Nat → Nat} : ∀ {n : Nat}, (∀ j, j < n → E j = 0) → fstE E n = none
  | 0, _ => rfl
  | n + 1, h => by
    unfold fstE
    rw [fstE_none (n := n) (fun j hj => h j (by omega)), if_pos (h n (by omega))]
theorem fstE_some {E : Nat → Nat} {i : Nat} (h0 : ∀ j, j < i → E j = 0) (hi : E i ≠ 0) : ∀ {n : Nat}, i < n → fstE E n = some i
  | 0, h => by omega
  | n + 1, h => by
    unfold fstE
    rcases Nat.lt_or_ge i n with hh | hh
    · rw [fstE_some h0 hi hh]
    · have : i = n := by omega
      subst this
      rw [fstE_none h0]
      simp only
      rw [if_neg hi]
theorem fstE_of_none {E : Nat → Nat} : ∀ {n : Nat}, fstE E n = none → ∀ j, j < n → E j = 0
  | 0, _, j, hj => by omega
  | n + 1, h, j, hj => by
    unfold fstE at h
    cases h1 : fstE E n with
    | some i => rw [h1] at h; cases h
    | none =>
      rw [h1] at h
      simp only at h
      by_cases h2 : E n = 0
      · rcases Nat.lt_or_ge j n with hh | hh
        · exact fstE_of_none h1 j hh
        · have : j = n := by omega
          rw [this]; exact h2
      · rw [if_neg h2] at h; cases h
theorem fstE_of_some {E : Nat → Nat} {i : Nat} : ∀ {n : Nat}, fstE E n = some i → i < n ∧ E i ≠ 0 ∧ ∀ j, j < i → E j = 0
  | 0, h => by cases h
  | n + 1, h => by
    unfold fstE at h
    cases h1 : fstE E n with
    | some k =>
      rw [h1] at h
      obtain ⟨a, b, c⟩ := fstE_of_some h1
      simp only [Option.some.injEq] at h
      subst h
      exact ⟨by omega, b, c⟩
    | none =>
      rw [h1] at h
      simp only at h
      by_cases h2 : E n = 0
      · rw [if_pos h2] at h; cases h
      · rw [if_neg h2] at h
        simp only [Option.some.injEq] at h
        subst h
        exact ⟨by omega, h2, fstE_of_none h1⟩
/-- What is wrong with a file: a number, and where. -/
def fileF (p : ByteArray) (R X : List Bm) : Nat × Option Nat :=
  if pathErr p.data.toList = 0 then
    (if 20 < R.length ∨ 20 < X.length then (7, none)
     else match fstE (reqE p R) R.length with
      | some i => (reqE p R i, some i)
      | none => match fstE (exE X) X.length with
        | some i => (exE X i, some i)
        | none => match fstE (clE X R) R.length with
          | some i => (9, some i)
          | none => (0, none))
  else (pathErr p.data.toList, none)

/-- Modules lie in a slice. -/
def MsAt (w : World) (v : Value) (L : List Bm) : Prop :=
  ∃ (a : Option Addr) (c : Nat), v = .slice a L.length c ∧ L.length ≤ c ∧ (L ≠ [] → ∃ b o, a = some ⟨b, o, none⟩ ∧ ∀ j (h : j < L.length), w.cell? ⟨b, o + j * 2, none⟩ = some (.string L[j].1) ∧ w.cell? ⟨b, o + j * 2 + 1, none⟩ = some (.string L[j].2))
theorem MsAt.below {w w' : World} {v : Value} {L : List Bm} (h : MsAt w v L) (hb : Below w.heap.size w w') : MsAt w' v L := by
  obtain ⟨a, c, e, hc, h⟩ := h
  refine ⟨a, c, e, hc, fun hL => ?_⟩
  obtain ⟨b, o, e2, h2⟩ := h hL
  exact ⟨b, o, e2, fun j hj => ⟨cell_below hb (h2 j hj).1, cell_below hb (h2 j hj).2⟩⟩
end Ve
end Go.Proofs.YtjndahjfodnllaaGreatDoor
