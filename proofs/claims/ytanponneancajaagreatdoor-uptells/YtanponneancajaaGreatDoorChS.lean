/-
  Two indexes of one content in memory: the same is told.
-/
import Derived.Test.YtanponneancajaaGreatDoorIxH
import Derived.Test.YtanponneancajaaGreatDoorFoA
namespace Go.Proofs.YtanponneancajaaGreatDoor
open Go.RowKit Go.Maps
namespace Ve

theorem isM_same {Q Q' : List Raw} (h : Q.map (fun r => r.1) = Q'.map (fun r => r.1)) (m : Bm) : idxOf (isM m) Q = idxOf (isM m) Q' := by
  have hl : Q.length = Q'.length := by have := congrArg List.length h; simpa using this
  have hf : idxE (isM m) Q = idxE (isM m) Q' := funext fun i => by
    have hi := congrArg (fun X : List Bm => X[i]?) h
    simp only [List.getElem?_map] at hi
    unfold idxE
    cases h1 : Q[i]? with
    | none =>
      rw [h1] at hi
      cases h2 : Q'[i]? with
      | none => rfl
      | some r => rw [h2] at hi; simp at hi
    | some r =>
      rw [h1] at hi
      cases h2 : Q'[i]? with
      | none => rw [h2] at hi; simp at hi
      | some r' =>
        rw [h2] at hi
        have : r.1 = r'.1 := by simpa using hi
        show (if isM m r then 1 else 0) = if isM m r' then 1 else 0
        rw [show isM m r = isM m r' by unfold isM; rw [this]]
  unfold idxOf
  rw [hf, hl]
theorem nonE_same {Q Q' : List Raw} (h : Q.map (fun r => r.1) = Q'.map (fun r => r.1)) (R : List Bm) : nonE Q R = nonE Q' R := funext fun i => by
  unfold nonE nonW
  split
  · rfl
  · rw [isM_same h]
theorem chk_same {Q Q' : List Raw} {L : List Ent} (h : Q.map (fun r => r.1) = Q'.map (fun r => r.1)) : chk Q L = chk Q' L := by
  have hr : reqE2 Q L = reqE2 Q' L := funext fun i => by
    unfold reqE2
    split
    · rfl
    · rw [nonE_same h]
  unfold chk
  rw [hr]
end Ve
end Go.Proofs.YtanponneancajaaGreatDoor
