
import Derived.Test.YtjndahjfodnllaaGreatDoorPo2
import Derived.Deep.RegionHeld
import Derived.Laws.AppendOwnNone
import Derived.Test.YtjndahjfodnllaaGreatDoorVerM
import Derived.Lib.SliceRun
import Derived.Test.YtjndahjfodnllaaGreatDoorPo1
import Derived.Test.YtjndahjfodnllaaGreatDoorAhead
import Derived.Test.YtjndahjfodnllaaGreatDoorRefF
import Derived.Test.YtjndahjfodnllaaGreatDoorRefI
import Derived.Test.YtjndahjfodnllaaGreatDoorVerO
import Derived.Test.YtjndahjfodnllaaGreatDoorVerR
import Derived.Test.YtjndahjfodnllaaGreatDoorVerQ
namespace Go.Proofs.YtjndahjfodnllaaGreatDoor
open Go.RowKit
namespace Ve
theorem owns_mono {w : World} {b b' : Nat} {e : TypeId} {size : Nat} {v : Value} {n : Nat} {xs : List Value} (h : w.ownsRow b e size v n xs) (hb : b' ≤ b) : w.ownsRow b' e size v n xs := by
  refine ⟨h.1, ?_⟩
  rcases h.2 with h | ⟨g, cap, cur, h1, h2, h3⟩
  · exact Or.inl h
  · exact Or.inr ⟨g, cap, cur, h1, Nat.le_trans hb h2, h3⟩
def Kept (L : List ByteArray) (k : Nat) (X : List ByteArray) : Prop := rises (bl X) ∧ ∀ t, t ∈ bl X ↔ t ∈ bl (L.take k) ∧ verErr t = 0
end Ve
end Go.Proofs.YtjndahjfodnllaaGreatDoor


namespace Go.Proofs.YtjndahjfodnllaaGreatDoor
open Go.RowKit
namespace Ve
end Ve
end Go.Proofs.YtjndahjfodnllaaGreatDoor


namespace Go.Proofs.YtjndahjfodnllaaGreatDoor
open Go.RowKit
namespace Ve
end Ve
end Go.Proofs.YtjndahjfodnllaaGreatDoor


namespace Go.Proofs.YtjndahjfodnllaaGreatDoor
namespace Ve
end Ve
end Go.Proofs.YtjndahjfodnllaaGreatDoor


namespace Go.Proofs.YtjndahjfodnllaaGreatDoor
open Go.RowKit
namespace Ve
theorem Rw.cell {w0 W : World} {g : Nat} {D : List Rc} (h : Rw w0 W g D) (j : Nat) (hj : j < D.length) (c : Nat) (hc : c < 4) : W.cell? ⟨g, j * 4 + c, none⟩ = (rcells D[j])[c]? := by
  match c, hc with
  | 0, _ => exact h.c0 j hj
  | 1, _ => exact h.c1 j hj
  | 2, _ => exact h.c2 j hj
  | 3, _ => exact h.c3 j hj
end Ve
end Go.Proofs.YtjndahjfodnllaaGreatDoor


namespace Go.Proofs.YtjndahjfodnllaaGreatDoor
open Go.RowKit
namespace Ve
end Ve
end Go.Proofs.YtjndahjfodnllaaGreatDoor


namespace Go.Proofs.YtjndahjfodnllaaGreatDoor
open Go.RowKit
namespace Ve
end Ve
end Go.Proofs.YtjndahjfodnllaaGreatDoor


namespace Go.Proofs.YtjndahjfodnllaaGreatDoor
open Go.RowKit
namespace Ve
def verL (L : List Raw) : List ByteArray := L.map fun r => r.1.2
end Ve
end Go.Proofs.YtjndahjfodnllaaGreatDoor


namespace Go.Proofs.YtjndahjfodnllaaGreatDoor
open Go.RowKit
namespace Ve
def packT (t s : ByteArray) : ByteArray := if s = ⟨#[46]⟩ then t else t ++ ⟨#[47]⟩ ++ s
def packL (e : Ent) : List ByteArray := e.2.2.1.map (packT e.1.1)
theorem packL_len (e : Ent) : (packL e).length = e.2.2.1.length := by simp [packL]
def entOf (Q : List Raw) (L : List Ent) (m : Bm) : Ent := (L[(idxOf (isM m) Q).toNat]?).getD ((⟨#[]⟩, ⟨#[]⟩), [], [], false)
theorem entOf_at {Q : List Raw} {L : List Ent} {m : Bm} {k : Nat} (h : idxOf (isM m) Q = (k : Int)) (hk : k < L.length) : entOf Q L m = L[k] := by
  unfold entOf
  rw [h, show ((k : Int)).toNat = k from rfl, List.getElem?_eq_getElem hk]; rfl
def pkOf (Q : List Raw) (L : List Ent) (m : Bm) : List ByteArray := packL (entOf Q L m)
def slF (Q : List Raw) (R : List Bm) : Nat × Option Nat := (codeE (nonE Q R) R.length, fstE (nonE Q R) R.length)
def bstS (Q : List Raw) (L : List Ent) (p : ByteArray) (b m : Bm) : Bm := if inB p (pkOf Q L m) && decide (b.1.size < m.1.size) then m else b
def bstN (Q : List Raw) (L : List Ent) (p : ByteArray) (R : List Bm) (k : Nat) : Bm := (R.take k).foldl (bstS Q L p) (⟨#[]⟩, ⟨#[]⟩)
theorem bstN_next {Q : List Raw} {L : List Ent} {p : ByteArray} {R : List Bm} {k : Nat} (h : k < R.length) : bstN Q L p R (k + 1) = bstS Q L p (bstN Q L p R k) R[k] := by
  unfold bstN
  rw [List.take_succ_eq_append_getElem h, List.foldl_append]; rfl
def hvL (Q : List Raw) (L : List Ent) (R : List Bm) (p : ByteArray) : List Bm := R.filter fun m => inB p (pkOf Q L m)
theorem hv_all (Q : List Raw) (L : List Ent) (R : List Bm) (p : ByteArray) : (hvL Q L R p).length ≤ R.length := List.length_filter_le _ _
def ofF (Q : List Raw) (L : List Ent) (R : List Bm) (p : ByteArray) : Nat × Option Nat :=
  if (chk Q L).1 ≠ 0 then chk Q L
  else if pathErr p.data.toList ≠ 0 ∧ pathErr p.data.toList ≠ 4 then (pathErr p.data.toList, none)
  else if (slF Q R).1 ≠ 0 then slF Q R
  else if (bstN Q L p R R.length).1.size = 0 then (5, none) else (0, none)
def ofM (Q : List Raw) (L : List Ent) (R : List Bm) (p : ByteArray) : Bm := if (ofF Q L R p).1 = 0 then bstN Q L p R R.length else (⟨#[]⟩, ⟨#[]⟩)
def alF (Q : List Raw) (L : List Ent) (R : List Bm) : Nat × Option Nat := if (chk Q L).1 ≠ 0 then chk Q L else slF Q R
def alN (Q : List Raw) (L : List Ent) (R : List Bm) : List ByteArray := (R.flatMap (pkOf Q L)).foldl insT []
def alX (Q : List Raw) (L : List Ent) (R : List Bm) : List ByteArray := if (alF Q L R).1 = 0 then alN Q L R else []
theorem alN_mem {Q : List Raw} {L : List Ent} {R : List Bm} {s : ByteArray} : s ∈ alN Q L R ↔ ∃ m, m ∈ R ∧ s ∈ pkOf Q L m := by
  unfold alN
  rw [fold_mem, List.mem_flatMap]
  constructor
  · rintro (h | h)
    · cases h
    · exact h
  · intro h; exact Or.inr h
theorem bst_is {Q : List Raw} {L : List Ent} {p : ByteArray} {R : List Bm} : ∀ k, k ≤ R.length → (bstN Q L p R k = (⟨#[]⟩, ⟨#[]⟩) ∨ (∃ j, ∃ h : j < R.length, j < k ∧ R[j] = bstN Q L p R k ∧ inB p (pkOf Q L R[j]) = true)) ∧
    ∀ j (h : j < R.length), j < k → inB p (pkOf Q L R[j]) = true → R[j].1.size ≤ (bstN Q L p R k).1.size
  | 0, _ => ⟨Or.inl rfl, fun j _ h => absurd h (Nat.not_lt_zero _)⟩
  | k + 1, hk => by
    obtain ⟨i1, i2⟩ := bst_is (Q := Q) (L := L) (p := p) (R := R) k (by omega)
    rw [bstN_next (by omega)]
    unfold bstS
    cases hi : inB p (pkOf Q L R[k])
    · rw [Bool.false_and, if_neg (by simp)]
      refine ⟨?_, fun j h hj hin => ?_⟩
      · rcases i1 with h | ⟨j, h, h1, h2⟩
        · exact Or.inl h
        · exact Or.inr ⟨j, h, by omega, h2⟩
      · rcases Nat.lt_or_ge j k with h3 | h3
        · exact i2 j h h3 hin
        · have : j = k := by omega
          subst this
          rw [hi] at hin; cases hin
    · by_cases hs : (bstN Q L p R k).1.size < R[k].1.size
      · rw [decide_eq_true hs, Bool.and_true, if_pos rfl]
        refine ⟨Or.inr ⟨k, by omega, by omega, rfl, hi⟩, fun j h hj hin => ?_⟩
        rcases Nat.lt_or_ge j k with h3 | h3
        · have := i2 j h h3 hin
          omega
        · have : j = k := by omega
          subst this
          exact Nat.le_refl _
      · rw [decide_eq_false hs, Bool.and_false, if_neg (by simp)]
        refine ⟨?_, fun j h hj hin => ?_⟩
        · rcases i1 with h | ⟨j, h, h1, h2⟩
          · exact Or.inl h
          · exact Or.inr ⟨j, h, by omega, h2⟩
        · rcases Nat.lt_or_ge j k with h3 | h3
          · exact i2 j h h3 hin
          · have : j = k := by omega
            subst this
            omega
end Ve
end Go.Proofs.YtjndahjfodnllaaGreatDoor


namespace Go.Proofs.YtjndahjfodnllaaGreatDoor
namespace Ve
end Ve
end Go.Proofs.YtjndahjfodnllaaGreatDoor


namespace Go.Proofs.YtjndahjfodnllaaGreatDoor
open Go.RowKit
namespace Ve
end Ve
end Go.Proofs.YtjndahjfodnllaaGreatDoor


namespace Go.Proofs.YtjndahjfodnllaaGreatDoor
open Go.RowKit
namespace Ve
end Ve
end Go.Proofs.YtjndahjfodnllaaGreatDoor


namespace Go.Proofs.YtjndahjfodnllaaGreatDoor
open Go.RowKit
namespace Ve
end Ve
end Go.Proofs.YtjndahjfodnllaaGreatDoor


namespace Go.Proofs.YtjndahjfodnllaaGreatDoor
open Go.RowKit
namespace Ve
end Ve
end Go.Proofs.YtjndahjfodnllaaGreatDoor


namespace Go.Proofs.YtjndahjfodnllaaGreatDoor
open Go.RowKit
namespace Ve
end Ve
end Go.Proofs.YtjndahjfodnllaaGreatDoor
