
import Derived.Test.YtemhofbhmnnijaaGreatDoorPj18
namespace Go.Proofs.YtemhofbhmnnijaaGreatDoor
open Go.RowKit
namespace Ve
theorem same_all (sx sa : Option Addr) (cx cp : Nat) (X2 X : List ByteArray) (w : World) (hn : X.length ≤ 1000000)
    (h2 : X2 = [] ∨ ∃ g, sx = some ⟨g, 0, none⟩ ∧ ∀ j (hj : j < X2.length), w.cell? ⟨g, j, none⟩ = some (.string X2[j])) (h1 : X ≠ [] → ∃ bk o, sa = some ⟨bk, o, none⟩ ∧ ∀ j (h : j < X.length), w.cell? ⟨bk, o + j, none⟩ = some (.string X[j])) :
    Calls Tryz.prog 12 #[.slice sx X2.length cx, .slice sa X.length cp] w fun e w' => e = .returned (.bool (decide (X2 = X))) ∧ Below w.heap.size w w' := by
  by_cases hl : X2.length = X.length
  · by_cases hX : X = []
    · subst hX
      have : X2 = [] := List.length_eq_zero_iff.1 hl
      subst this
      exact (same_none sx sa cx cp w).mono fun e w' ⟨e1, e2⟩ => ⟨by rw [e1]; rfl, by rw [e2]; exact Below.refl _ _⟩
    · obtain ⟨bk, o, rfl, hc⟩ := h1 hX
      rcases h2 with rfl | ⟨g, rfl, hg⟩
      · exact absurd (List.length_eq_zero_iff.1 hl.symm) hX
      · rw [← hl]
        exact same_some g 0 cx bk o cp X2 X w hl (by omega) (fun j h => by rw [Nat.zero_add]; exact hg j h) hc
  · have hd : decide (X2 = X) = false := by
      rw [decide_eq_false_iff_not]; intro h; exact hl (by rw [h])
    rw [hd]
    exact (same_len sx sa _ cx _ cp w (beq_eq_false_iff_ne.2 (by omega))).mono fun e w' ⟨e1, e2⟩ => ⟨e1, by rw [e2]; exact Below.refl _ _⟩
end Ve
end Go.Proofs.YtemhofbhmnnijaaGreatDoor
