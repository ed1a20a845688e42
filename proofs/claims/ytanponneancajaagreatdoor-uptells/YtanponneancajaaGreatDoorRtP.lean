/-
  Texts that rise, plain: a list is as sorted, each once, just where each is less than the next one.
-/
import Derived.Test.YtanponneancajaaGreatDoorIxE
import Derived.Test.YtanponneancajaaGreatDoorFileR
namespace Go.Proofs.YtanponneancajaaGreatDoor
open Go.RowKit
namespace Ve

theorem cb_lt_iff : ∀ (a b : List UInt8), Lib.compareBytes a b < 0 ↔ a < b
  | [], [] => by simp [Lib.compareBytes]
  | [], b :: bs => by simp [Lib.compareBytes]
  | a :: r, [] => by simp [Lib.compareBytes]
  | a :: r, b :: bs => by
    simp only [Lib.compareBytes]
    rw [List.cons_lt_cons_iff]
    by_cases h1 : a < b
    · rw [if_pos h1]; simp [h1]
    · rw [if_neg h1]
      by_cases h2 : b < a
      · rw [if_pos h2]
        have : ¬ a = b := fun e => by subst e; exact absurd h2 (UInt8.lt_irrefl _)
        simp [h1, this]
      · rw [if_neg h2]
        have : a = b := u8_eq h1 h2
        subst this
        rw [cb_lt_iff r bs]
        simp [h1]
theorem range_get (S : List (List UInt8)) : (List.range S.length).map (fun j => S.toArray[j]!) = S := by
  apply List.ext_getElem
  · simp
  · intro j h1 h2
    simp [h2]
/-- Each less than the next one. -/
def rsT (Z : List (List UInt8)) : Prop := ∀ j (h : j + 1 < Z.length), Lib.compareBytes Z[j] Z[j + 1] < 0
theorem rsT_pair {Z : List (List UInt8)} (h : rsT Z) : Z.Pairwise fun x y => x < y := by
  have go : ∀ (d i : Nat) (hi : i + d + 1 < Z.length), Z[i] < Z[i + d + 1] := fun d => by
    induction d with
    | zero => intro i hi; exact (cb_lt_iff _ _).1 (h i hi)
    | succ d ih =>
      intro i hi
      exact List.lt_trans (ih i (by omega)) ((cb_lt_iff _ _).1 (h (i + d + 1) hi))
  rw [List.pairwise_iff_getElem]
  intro i j hi hj hij
  obtain ⟨d, rfl⟩ : ∃ d, j = i + d + 1 := ⟨j - i - 1, by omega⟩
  exact go d i hj
theorem ris_iff (Z : List (List UInt8)) : Z = risB Z ↔ rsT Z := by
  have hsrt : (srtB Z).Pairwise fun x y => x ≤ y := by
    have h := List.pairwise_mergeSort (le := fun x y : List UInt8 => decide (x ≤ y)) (fun a b c h1 h2 => by simp only [decide_eq_true_eq] at *; exact List.le_trans h1 h2) (fun a b => by simp only [Bool.or_eq_true, decide_eq_true_eq]; exact List.le_total a b) Z
    unfold srtB
    exact h.imp fun h => of_decide_eq_true h
  have hlen : (srtB Z).length = Z.length := by unfold srtB; exact List.length_mergeSort Z
  constructor
  · intro h
    have hl : (risB Z).length = (srtB Z).length := by rw [← h, hlen]
    unfold risB Lib.compact Lib.compactUpTo at hl
    rw [List.length_map] at hl
    have hk := List.length_filter_eq_length_iff.1 (hl.trans (by simp))
    have hk' : ∀ j, j < (srtB Z).length → Lib.keeps (srtB Z).toArray j = true := fun j hj => hk j (List.mem_range.2 hj)
    have hS : Z = srtB Z := by
      have h5 : risB Z = srtB Z := by
        unfold risB Lib.compact
        rw [Lib.compactUpTo_all _ _ hk', range_get]
      exact h.trans h5
    intro j hj
    have h1 := hk' (j + 1) (by rw [hlen]; exact hj)
    have h2 : (srtB Z)[j + 1]'(by rw [hlen]; exact hj) ≠ (srtB Z)[j]'(by rw [hlen]; omega) := by
      have h3 : decide (j + 1 = 0 ∨ (srtB Z).toArray[j + 1]! ≠ (srtB Z).toArray[j + 1 - 1]!) = true := h1
      rcases of_decide_eq_true h3 with h4 | h4
      · omega
      · intro e
        apply h4
        rw [getElem!_pos _ _ (by simp [hlen]; exact hj), getElem!_pos _ _ (by simp [hlen]; omega)]
        simpa using e
    have h3 := List.pairwise_iff_getElem.1 hsrt j (j + 1) (by rw [hlen]; omega) (by rw [hlen]; exact hj) (by omega)
    have e1 : Z[j] = (srtB Z)[j]'(by rw [hlen]; omega) := by congr 1
    have e2 : Z[j + 1] = (srtB Z)[j + 1]'(by rw [hlen]; exact hj) := by congr 1
    rw [cb_lt_iff, e1, e2]
    rcases List.le_iff_lt_or_eq.1 h3 with h6 | h6
    · exact h6
    · exact absurd h6.symm h2
  · intro h
    have hp := rsT_pair h
    have hS : srtB Z = Z := by
      unfold srtB
      exact List.mergeSort_of_pairwise (hp.imp fun h => decide_eq_true (List.le_of_lt h))
    unfold risB Lib.compact
    rw [hS, Lib.compactUpTo_all, range_get]
    intro j hj
    cases j with
    | zero => exact Lib.keeps_lt_one _ 0 (by omega)
    | succ j =>
      refine Lib.keeps_pos ?_
      rw [getElem!_pos _ _ (by simpa using hj), getElem!_pos _ _ (by simp; omega)]
      intro e
      have h1 := List.pairwise_iff_getElem.1 hp j (j + 1) (by omega) hj (by omega)
      have e' : Z[j + 1] = Z[j] := by simpa using e
      rw [e'] at h1
      exact absurd h1 (List.lt_irrefl _)
end Ve
end Go.Proofs.YtanponneancajaaGreatDoor
