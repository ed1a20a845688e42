/-
  What has and IsUnder of the document's answer say; what rises of the statements says.
-/
import Derived.Test.YtanponneancajaaGreatDoorMlP
import Derived.Test.YtanponneancajaaGreatDoorOrdE
namespace Go.Proofs.YtanponneancajaaGreatDoor
open Go.RowKit Go.Maps
namespace Ve

theorem fpOf_kind (L : List Bm) (p : ByteArray) : (fpOf L p = -1 ∧ ∀ x, x ∈ L → decide (x.1 = p) = false) ∨ ∃ k, ∃ hk : k < L.length, fpOf L p = (k : Int) ∧ decide (L[k].1 = p) = true ∧ ∀ j (hj : j < L.length), j < k → decide (L[j].1 = p) = false := by
  unfold fpOf
  cases h : fstE (fpE L p) L.length with
  | none =>
    refine Or.inl ⟨rfl, fun x hx => decide_eq_false fun e => ?_⟩
    obtain ⟨j, hj, rfl⟩ := List.getElem_of_mem hx
    have := fstE_of_none h j hj
    rw [fpE_at hj, if_pos e] at this; cases this
  | some k =>
    obtain ⟨h1, h2, h3⟩ := fstE_of_some h
    refine Or.inr ⟨k, h1, rfl, decide_eq_true ?_, fun j hj hjk => decide_eq_false fun e => ?_⟩
    · rw [fpE_at h1] at h2
      by_cases e : L[k].1 = p
      · exact e
      · rw [if_neg e] at h2; exact absurd rfl h2
    · have := h3 j hjk
      rw [fpE_at hj, if_pos e] at this; cases this
end Ve
end Go.Proofs.YtanponneancajaaGreatDoor
