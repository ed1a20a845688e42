
import Derived.Test.YtpafkniapacfdaaGreatDoorSs31
import Derived.Test.YtpafkniapacfdaaGreatDoorSs20
import Derived.Test.YtpafkniapacfdaaGreatDoorSs17
import Derived.Test.YtpafkniapacfdaaGreatDoorSs23
import Derived.Test.YtpafkniapacfdaaGreatDoorSs10
import Derived.Test.YtpafkniapacfdaaGreatDoorSs30
import Derived.Test.YtpafkniapacfdaaGreatDoorSs3
import Derived.Test.YtpafkniapacfdaaGreatDoorSs29
import Derived.Test.YtpafkniapacfdaaGreatDoorSs8
import Derived.Test.YtpafkniapacfdaaGreatDoorSs25
namespace Go.Proofs.YtpafkniapacfdaaGreatDoor
open Go.RowKit
namespace Ve
end Ve
end Go.Proofs.YtpafkniapacfdaaGreatDoor


namespace Go.Proofs.YtpafkniapacfdaaGreatDoor
open Go.RowKit
namespace Ve
def slF (Q : List Raw) (R : List Bm) : Nat × Option Nat := (codeE (nonE Q R) R.length, fstE (nonE Q R) R.length)
end Ve
end Go.Proofs.YtpafkniapacfdaaGreatDoor


namespace Go.Proofs.YtpafkniapacfdaaGreatDoor
open Go.RowKit Go.Maps
namespace Ve
theorem code_at2 (A : Nat → Addr) (x : Value) (c : Nat) (o : Option Nat) (w : World) (S : Er.Sen w A) (h : ErrAt w A x c o) (hc : c ≤ 10) :
    Calls Tryz.prog 44 #[x] w fun e w' => e = .returned (.tuple #[.int .i64 (c : Nat), .int .i64 (atOf o)]) ∧ Below w.heap.size w w' := by
  cases o with
  | none =>
    have h : x = errA A c := h
    subst h
    cases c with
    | zero => exact (Er.code_nil w).mono fun e w' h => ⟨h.1, by rw [h.2]; exact Below.refl _ _⟩
    | succ j => exact Er.code_sen A j w S (by omega)
  | some i =>
    obtain ⟨h0, b, rfl, h1, h2⟩ := h
    obtain ⟨j, rfl⟩ : ∃ j, c = j + 1 := ⟨c - 1, by omega⟩
    rw [errA_if A h0] at h2
    exact Er.code_fault b 0 i A j w S (by omega) (lt_of_cell h1) h1 h2
theorem modErr_err (p v : List UInt8) : modErr p v = 0 ∨ modErr p v = 1 ∨ modErr p v = 2 ∨ modErr p v = 4 := by
  unfold modErr
  by_cases h0 : pathErr p = 0
  · rw [if_pos h0]
    by_cases h1 : verErr v = 0
    · rw [if_pos h1]
      cases fitsB (nAt v 0) (pathN p)
      · right; right; right; rfl
      · left; rfl
    · rw [if_neg h1]
      rcases verErr_err v with h | h | h <;> omega
  · rw [if_neg h0]; exact pathErr_err p
theorem mErr_le (m : Bm) : mErr m ≤ 10 := by
  have := modErr_err m.1.data.toList m.2.data.toList
  unfold mErr; omega
theorem reqE_le (own : ByteArray) (L : List Bm) (i : Nat) : reqE own L i ≤ 10 := by
  unfold reqE
  split
  · omega
  · rename_i m _
    have := mErr_le m
    unfold reqW
    repeat' split
    all_goals omega
theorem codeE_le {E : Nat → Nat} {n : Nat} (h : ∀ i, E i ≤ 10) : codeE E n ≤ 10 := by
  cases h1 : fstE E n with
  | none => unfold codeE; rw [h1]; simp
  | some j => rw [codeE_some h1]; exact h j
theorem packErr_le (Z : List (List UInt8)) : packErr Z ≤ 10 := by
  unfold packErr
  repeat' split
  all_goals omega
theorem entR_le (e : Ent) : entR e ≤ 10 := by
  unfold entR
  repeat' split
  all_goals first | omega | exact codeE_le (reqE_le _ _) | exact packErr_le _
theorem entE_le (L : List Ent) (i : Nat) : entE L i ≤ 10 := by
  unfold entE
  split
  · omega
  · unfold entW
    repeat' split
    all_goals first | omega | exact mErr_le _ | exact entR_le _
theorem nonW_le (Q : List Raw) (m : Bm) : nonW Q m ≤ 10 := by
  unfold nonW
  split <;> omega
theorem nonE_le (Q : List Raw) (R : List Bm) (i : Nat) : nonE Q R i ≤ 10 := by
  unfold nonE
  split
  · omega
  · exact nonW_le _ _
theorem reqE2_le (Q : List Raw) (L : List Ent) (i : Nat) : reqE2 Q L i ≤ 10 := by
  unfold reqE2
  split
  · omega
  · exact codeE_le (nonE_le _ _)
theorem chk_le (Q : List Raw) (L : List Ent) : (chk Q L).1 ≤ 10 := by
  unfold chk
  repeat' split
  all_goals first | (simp only; omega) | exact entE_le _ _ | exact codeE_le (reqE2_le _ _)
end Ve
end Go.Proofs.YtpafkniapacfdaaGreatDoor


namespace Go.Proofs.YtpafkniapacfdaaGreatDoor
open Go.RowKit
namespace Ve
theorem idx_is {P : Raw → Bool} {L : List Raw} {k : Nat} (h : idxOf P L = (k : Int)) : ∃ hk : k < L.length, P L[k] = true := by
  unfold idxOf at h
  cases h1 : fstE (idxE P L) L.length with
  | none => rw [h1] at h; simp only at h; omega
  | some j =>
    rw [h1] at h
    simp only at h
    have e : j = k := by omega
    subst e
    obtain ⟨a, b, _⟩ := fstE_of_some h1
    refine ⟨a, ?_⟩
    rw [idxE_at a] at b
    cases hp : P L[j] with
    | true => rfl
    | false => rw [hp] at b; exact absurd rfl b
theorem okI_iff {L : List Ent} (h : okI L = true) : (L.length ≤ 30 ∨ L.length = 101) ∧ ∀ e, e ∈ L → e.1.1.size ≤ 70 ∧ e.1.2.size ≤ 60 ∧ e.2.1.length ≤ 25 ∧ (∀ m, m ∈ e.2.1 → m.1.size ≤ 70 ∧ m.2.size ≤ 60) ∧ e.2.2.1.length ≤ 15 ∧ ∀ x, x ∈ e.2.2.1 → x.size ≤ 70 := by
  unfold okI at h
  rw [Bool.and_eq_true] at h
  obtain ⟨h1, h2⟩ := h
  refine ⟨by simpa [okN] using h1, fun e he => ?_⟩
  have h3 := List.all_eq_true.1 h2 e he
  unfold okE at h3
  simp only [Bool.and_eq_true, decide_eq_true_eq] at h3
  obtain ⟨⟨⟨⟨a, b⟩, c⟩, d⟩, f⟩ := h3
  obtain ⟨c1, c2⟩ := okL_iff c
  refine ⟨a, b, c1, c2, d, fun x hx => ?_⟩
  have := List.all_eq_true.1 f x hx
  simpa using this
theorem okI_sh {L : List Ent} (h : okI L = true) : ∀ e, e ∈ L → ShE e := fun e he => by
  obtain ⟨a, b, c, d, f, g⟩ := (okI_iff h).2 e he
  exact ⟨by omega, by omega, by omega, fun m hm => ⟨by have := (d m hm).1; omega, by have := (d m hm).2; omega⟩, by omega, fun x hx => by have := g x hx; omega⟩
theorem okI_fits {L : List Ent} (h : okI L = true) : ∀ e, e ∈ L → Fits e := fun e he => by
  obtain ⟨a, b, c, d, f, g⟩ := (okI_iff h).2 e he
  exact ⟨by omega, by omega⟩
end Ve
end Go.Proofs.YtpafkniapacfdaaGreatDoor
