
import Derived.Test.YtemhofbhmnnijaaGreatDoorPj12
import Derived.Test.YtemhofbhmnnijaaGreatDoorPj11
namespace Go.Proofs.YtemhofbhmnnijaaGreatDoor
open Go.RowKit
namespace Ve
end Ve
end Go.Proofs.YtemhofbhmnnijaaGreatDoor


namespace Go.Proofs.YtemhofbhmnnijaaGreatDoor
open Go.RowKit
namespace Ve
def TxAt (w : World) (v : Value) (X : List ByteArray) : Prop :=
  ∃ (a : Option Addr) (c : Nat), v = .slice a X.length c ∧ X.length ≤ c ∧ (X ≠ [] → ∃ b o, a = some ⟨b, o, none⟩ ∧ ∀ j (h : j < X.length), w.cell? ⟨b, o + j, none⟩ = some (.string X[j]))
theorem TxAt.below {w w' : World} {v : Value} {X : List ByteArray} (h : TxAt w v X) (hb : Below w.heap.size w w') : TxAt w' v X := by
  obtain ⟨a, c, e, hc, h⟩ := h
  refine ⟨a, c, e, hc, fun hL => ?_⟩
  obtain ⟨b, o, e2, h2⟩ := h hL
  exact ⟨b, o, e2, fun j hj => cell_below hb (h2 j hj)⟩
theorem own_tx {w : World} {B : Nat} {e : TypeId} {v : Value} {X : List ByteArray} (h : w.ownsRow B e 1 v X.length (X.map Value.string)) : TxAt w v X := by
  obtain ⟨_, ⟨hv, hn0⟩ | ⟨g, cap, cur, hv, hg, hblk, hcap, hcm, hcs, hct⟩⟩ := h
  · exact ⟨none, 0, by rw [hv, hn0], by omega, fun hL => absurd (List.length_eq_zero_iff.1 hn0) hL⟩
  · refine ⟨_, cap, hv, hcap, fun _ => ⟨g, 0, rfl, fun j hj => ?_⟩⟩
    have h1 : (X.map Value.string)[j]? = some (.string X[j]) := by simp [hj]
    rw [← hct, List.getElem?_take, if_pos (by omega)] at h1
    simp only [World.cell?, hblk]
    rw [← h1]; simp
end Ve
end Go.Proofs.YtemhofbhmnnijaaGreatDoor
