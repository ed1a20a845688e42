/-
  The modules and marks of an index: what is told of them is the same wherever they lie.
-/
import Derived.Test.YtanponneancajaaGreatDoorIxP
import Derived.Test.YtanponneancajaaGreatDoorChS
namespace Go.Proofs.YtanponneancajaaGreatDoor
open Go.RowKit Go.Maps
namespace Ve

/-- An entry's module and mark. -/
def keyR (r : Raw) : Bm × Bool := (r.1, r.2.2.2)
def bestK (K : List (Bm × Bool)) : List (Bm × Bool) := if 0 < ((K.filter fun k => !k.2).filter fun k => !preB k.1.2).length then (K.filter fun k => !k.2).filter fun k => !preB k.1.2 else if 0 < (K.filter fun k => !k.2).length then K.filter fun k => !k.2 else K
theorem key_filter (P : Bm × Bool → Bool) (p : Raw → Bool) (h : ∀ r, p r = P (keyR r)) (Q : List Raw) : (Q.filter p).map keyR = (Q.map keyR).filter P := by
  rw [List.filter_map]
  congr 1
  apply List.filter_congr
  intro r _
  exact h r
theorem key_best (R : List Raw) : (bestR R).map keyR = bestK (R.map keyR) := by
  have e1 := key_filter (fun k => !k.2) isS (fun _ => rfl) R
  have e2 := key_filter (fun k => !preB k.1.2) isD (fun _ => rfl) (R.filter isS)
  rw [e1] at e2
  unfold bestR bestK
  rw [← e2, ← e1, List.length_map, List.length_map]
  split
  · rfl
  · split <;> rfl
theorem key_ver (R : List Raw) : verL R = (R.map keyR).map fun k => k.1.2 := by
  unfold verL
  rw [List.map_map]; rfl
theorem key_mod {Q Q' : List Raw} (h : Q.map keyR = Q'.map keyR) : Q.map (fun r => r.1) = Q'.map (fun r => r.1) := by
  have := congrArg (List.map Prod.fst) h
  rw [List.map_map, List.map_map] at this
  exact this
theorem keys_of {w : World} {v : Value} {Q : List Raw} {L : List Ent} (I : Ixs w v Q L) : Q.map keyR = L.map fun e => (e.1, e.2.2.2) := by
  apply List.ext_getElem
  · simp [I.ln]
  · intro j h1 h2
    have hq : j < Q.length := by simpa using h1
    have hl : j < L.length := by rw [← I.ln]; exact hq
    simp only [List.getElem_map]
    have h := I.ok j hq hl
    exact Prod.ext h.m h.bk
end Ve
end Go.Proofs.YtanponneancajaaGreatDoor
