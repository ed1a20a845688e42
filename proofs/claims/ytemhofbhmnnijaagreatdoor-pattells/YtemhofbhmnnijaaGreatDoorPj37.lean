
import Derived.Test.YtemhofbhmnnijaaGreatDoorPj36
import Derived.Test.YtemhofbhmnnijaaGreatDoorPj26
namespace Go.Proofs.YtemhofbhmnnijaaGreatDoor
namespace Ve
theorem joinTail_ne {c : UInt8} : ∀ X : List (List UInt8), X ≠ [] → Lib.joinTail [c] X = c :: Lib.join X [c]
  | [], h => absurd rfl h
  | x :: r, _ => by rw [Lib.join_cons]; simp [Lib.joinTail]
theorem join_cut (c : UInt8) (l : List UInt8) : Lib.join (cutAt c l) [c] = l := by
  induction l with
  | nil => simp [cutAt, Lib.join_one]
  | cons b l ih =>
    unfold cutAt
    by_cases h : b = c
    · rw [if_pos h, Lib.join_cons, joinTail_ne _ (cutAt_ne c l), ih, h]; rfl
    · rw [if_neg h]
      obtain ⟨x, r, e⟩ : ∃ x r, cutAt c l = x :: r := by
        cases e : cutAt c l with
        | nil => exact absurd e (cutAt_ne c l)
        | cons x r => exact ⟨x, r, rfl⟩
      rw [e] at ih ⊢
      rw [Lib.join_cons] at ih
      simp only [ahead, Lib.join_cons]
      rw [← ih]
      simp
end Ve
end Go.Proofs.YtemhofbhmnnijaaGreatDoor
