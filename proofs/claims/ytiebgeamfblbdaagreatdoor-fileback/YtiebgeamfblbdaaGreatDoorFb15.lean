/-
  RefF RefG RefH
-/
import Derived.Test.YtiebgeamfblbdaaGreatDoorFb9
namespace Go.Proofs.YtiebgeamfblbdaaGreatDoor
open Go.RowKit
namespace Ve
theorem rest_drop {l : List UInt8} (h : marked l = true) : restOf l = l.drop 1 := by unfold restOf; rw [if_pos h]
theorem one_no {c : UInt8} {l : List UInt8} (h : l.contains c = false) : one c l = (l, [], false) := by
  unfold one
  have h1 : ∀ x, x ∈ l → (x != c) = true := by
    intro x hx
    simp at h ⊢
    intro e; subst e; exact h hx
  have e1 : l.takeWhile (· != c) = l := by
    induction l with
    | nil => rfl
    | cons a r ih =>
      have := h1 a (List.mem_cons_self)
      simp only [List.takeWhile_cons, this, if_true]
      rw [ih (by simp at h ⊢; exact h.2) (fun x hx => h1 x (List.mem_cons_of_mem _ hx))]
  have e2 := List.takeWhile_append_dropWhile (p := (· != c)) (l := l)
  rw [e1] at e2
  have e3 : l.dropWhile (· != c) = [] := by
    have := congrArg List.length e2
    simp at this
    exact this
  rw [e1, e3, h]; rfl
end Ve
end Go.Proofs.YtiebgeamfblbdaaGreatDoor
namespace Go.Proofs.YtiebgeamfblbdaaGreatDoor
open Go.RowKit
namespace Ve
def ncode (p : List UInt8) : Nat := (num p).2
theorem numsErr_ncode (ps : List (List UInt8)) : numsErr ps = worst 0 (ps.map ncode) := numsErr_worst ps
end Ve
end Go.Proofs.YtiebgeamfblbdaaGreatDoor
namespace Go.Proofs.YtiebgeamfblbdaaGreatDoor
open Go.RowKit
namespace Ve
theorem one_yes {c : UInt8} {l : List UInt8} (h : l.contains c = true) : ∃ j, ∃ hj : j < l.length, l[j] = c ∧ (∀ k (hk : k < l.length), k < j → l[k] ≠ c) ∧ (one c l).1 = l.take j ∧ (one c l).2.1 = l.drop (j + 1) := by
  induction l with
  | nil => simp at h
  | cons a r ih =>
    by_cases e : a = c
    · subst e
      exact ⟨0, by simp, rfl, fun k hk h0 => absurd h0 (by omega), by simp [one], by simp [one]⟩
    · have hr : r.contains c = true := by
        simp at h ⊢
        rcases h with h | h
        · exact absurd h.symm e
        · exact h
      obtain ⟨j, hj, h1, h2, h3, h4⟩ := ih hr
      refine ⟨j + 1, by simp; omega, by simpa using h1, ?_, ?_, ?_⟩
      · intro k hk hkj
        cases k with
        | zero => simpa using e
        | succ k => simpa using h2 k (by simp at hk; omega) (by omega)
      · have : (a != c) = true := by simp [e]
        simp only [one, List.takeWhile_cons, this, if_true, List.take_succ_cons] at h3 ⊢
        rw [h3]
      · have : (a != c) = true := by simp [e]
        simp only [one, List.dropWhile_cons, this, if_true, List.drop_succ_cons] at h4 ⊢
        rw [h4]
end Ve
end Go.Proofs.YtiebgeamfblbdaaGreatDoor
