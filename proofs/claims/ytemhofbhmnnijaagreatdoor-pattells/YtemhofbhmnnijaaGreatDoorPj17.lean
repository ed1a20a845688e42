
import Derived.Test.YtemhofbhmnnijaaGreatDoorPj13
import Derived.Test.YtemhofbhmnnijaaGreatDoorPj9
import Derived.Test.YtemhofbhmnnijaaGreatDoorPj16
import Derived.Lib.SmallJoins
import Derived.SliceStrings
namespace Go.Proofs.YtemhofbhmnnijaaGreatDoor
open Go.RowKit
namespace Ve
theorem tok_wild : ∀ l : List UInt8, (tok l).any Option.isNone = true ↔ ∃ i, i < l.length ∧ dots.isPrefixOf (l.drop i) = true
  | [] => by rw [tok_nil]; simp
  | c :: r => by
    cases h : dots.isPrefixOf (c :: r)
    · rw [tok_one h]
      simp only [List.any_cons, Option.isNone_some, Bool.false_or]
      rw [tok_wild r]
      constructor
      · rintro ⟨i, hi, hp⟩; exact ⟨i + 1, by simp only [List.length_cons]; omega, hp⟩
      · rintro ⟨i, hi, hp⟩
        cases i with
        | zero => rw [List.drop_zero, h] at hp; cases hp
        | succ i => exact ⟨i, by simp only [List.length_cons] at hi; omega, hp⟩
    · rw [tok_any h]
      simp only [List.any_cons, Option.isNone_none, Bool.true_or, true_iff]
      exact ⟨0, by simp, h⟩
theorem tok_tame : ∀ l : List UInt8, (tok l).any Option.isNone = false → tok l = l.map some
  | [], _ => rfl
  | c :: r, h => by
    cases hp : dots.isPrefixOf (c :: r)
    · rw [tok_one hp] at h ⊢
      simp only [List.any_cons, Option.isNone_some, Bool.false_or] at h
      rw [tok_tame r h]; rfl
    · rw [tok_any hp] at h
      simp at h
theorem mtB_some : ∀ (l s : List UInt8), mtB (l.map some) s = true ↔ s = l
  | [], s => by rw [List.map_nil, mtB_nil, List.isEmpty_iff]
  | c :: l, s => by
    rw [List.map_cons, mtB_one]
    constructor
    · rintro ⟨x, r, rfl, rfl, h⟩
      rw [(mtB_some l r).1 h]
    · rintro rfl
      exact ⟨c, l, rfl, rfl, (mtB_some l l).2 rfl⟩
end Ve
end Go.Proofs.YtemhofbhmnnijaaGreatDoor


namespace Go.Proofs.YtemhofbhmnnijaaGreatDoor
open Go.ChangeShapes Go.WideShapes Go.ChangeAt Go.RowKit Go.Joins
namespace Ve
theorem tCellsStr : Tryz.prog.cellsOf 9 = 1 := by kernel_rfl
set_option maxRecDepth 100000 in
theorem open_txt {H : Type} {enc : TypeId × Value → H} {w : World} {base fuel : Nat} {held : Bool} {v : Value} {x : DataW H × List MemPlace}
    (h : DataW.trod enc Tryz.prog w base (fun _ => true) held fuel 22 [v] = some x) : ∃ X, TxAt w v X := by
  rcases open_strings Tryz.underlying22 Tryz.underlying9 tCellsStr h with ⟨hcs, _⟩ | ⟨a, len, cap, ss, hcs, _, hl, _, hm, _, hx, _⟩
  · simp only [List.cons.injEq, and_true] at hcs
    subst hcs
    exact ⟨[], ⟨none, 0, rfl, Nat.le_refl _, fun h => absurd rfl h⟩⟩
  · simp only [List.cons.injEq, and_true] at hcs
    subst hcs
    simp only [if_true] at hm
    have hlen : (ss.take len).length = len := by rw [List.length_take]; omega
    refine ⟨ss.take len, ⟨some a, cap, by rw [hlen], by rw [hlen]; exact hl, fun hne => ?_⟩⟩
    have h0l : 0 < len := by rw [← hlen]; exact List.length_pos_iff.2 hne
    obtain ⟨b, off, spot⟩ := a
    have hspot : spot = none := by simpa [Addr.add] using World.cell?_spot (hx 0 (by omega))
    subst hspot
    refine ⟨b, off, rfl, fun j hj => ?_⟩
    have hj2 : j < len := by rw [← hlen]; exact hj
    have g := hx j (by omega)
    rw [Addr.add_lit, List.getD_eq_getElem?_getD, List.getElem?_eq_getElem (by omega)] at g
    rw [List.getElem_take]
    exact g
end Ve
end Go.Proofs.YtemhofbhmnnijaaGreatDoor
