/-
  What is refused, what is reached, plain: as one function each; two indexes of the same modules.
-/
import Derived.Test.YtanponneancajaaGreatDoorChS
import Derived.Test.YtanponneancajaaGreatDoorGaA
import Derived.Test.YtanponneancajaaGreatDoorGrH
namespace Go.Proofs.YtanponneancajaaGreatDoor
open Go.RowKit Go.Maps
namespace Ve

/-- Two indexes of the same modules. -/
theorem reqQ_same {Q Q' : List Raw} {L : List Ent} (h : Q.map (fun r => r.1) = Q'.map (fun r => r.1)) : reqQ Q L = reqQ Q' L := funext fun m => by
  unfold reqQ
  rw [isM_same h m]
theorem chkG_same {Q Q' : List Raw} {L : List Ent} (h : Q.map (fun r => r.1) = Q'.map (fun r => r.1)) (roots : List Bm) : chkG Q L roots = chkG Q' L roots := by
  unfold chkG
  rw [chk_same h, nonE_same h]
theorem ms_nil0 (w : World) : MsAt w (.slice none 0 0) [] := ⟨none, 0, rfl, Nat.le_refl _, fun h => absurd rfl h⟩
/-- What is refused. -/
def rF (Q : List Raw) (L : List Ent) (roots : List Bm) : Nat × Option Nat := if (chkG Q L roots).1 = 0 then (0, none) else chkG Q L roots
theorem rF_good {Q : List Raw} {L : List Ent} {roots : List Bm} (h : (chkG Q L roots).1 = 0) : rF Q L roots = (0, none) := if_pos h
theorem rF_bad {Q : List Raw} {L : List Ent} {roots : List Bm} (h : ¬ (chkG Q L roots).1 = 0) : rF Q L roots = chkG Q L roots := if_neg h
theorem rF_same {Q Q' : List Raw} {L : List Ent} (h : Q.map (fun r => r.1) = Q'.map (fun r => r.1)) (roots : List Bm) : rF Q L roots = rF Q' L roots := by unfold rF; rw [chkG_same h]
open Classical in
/-- What is reached. -/
noncomputable def rX (Q : List Raw) (L : List Ent) (roots : List Bm) : List Bm := if (chkG Q L roots).1 = 0 then (univ L).filter (fun m => decide (Rch (reqQ Q L) roots m)) else []
theorem rX_same {Q Q' : List Raw} {L : List Ent} (h : Q.map (fun r => r.1) = Q'.map (fun r => r.1)) (roots : List Bm) : rX Q L roots = rX Q' L roots := by unfold rX; rw [chkG_same h, reqQ_same h]
theorem rX_bad {Q : List Raw} {L : List Ent} {roots : List Bm} (h : ¬ (chkG Q L roots).1 = 0) : rX Q L roots = [] := if_neg h
theorem rX_go {w : World} {v : Value} {Q : List Raw} {L : List Ent} {roots : List Bm} {T : By} (I : Ixs w v Q L) (h : (chkG Q L roots).1 = 0) (hT : Came (reqQ Q L) (univ L) roots T) : goM T Q = rX Q L roots := by
  unfold rX
  rw [if_pos h, ← univ_eq I]
  unfold goM goQ
  rw [List.filter_map]
  congr 1
  apply List.filter_congr
  intro r _
  show cameB T r.1 = _
  simp only [Function.comp]
  by_cases hr : Rch (reqQ Q L) roots r.1
  · rw [(hT.cameB _).2 hr]; simp [hr]
  · cases hc : cameB T r.1
    · simp [hr]
    · exact absurd ((hT.cameB _).1 hc) hr
theorem rX_len {Q : List Raw} {L : List Ent} {roots : List Bm} : (rX Q L roots).length ≤ L.length := by
  unfold rX
  split
  · refine Nat.le_trans (List.length_filter_le _ _) ?_
    rw [univ_len]; exact Nat.le_refl _
  · simp
theorem rX_in {Q : List Raw} {L : List Ent} {roots : List Bm} {m : Bm} (h : m ∈ rX Q L roots) : (chkG Q L roots).1 = 0 ∧ m ∈ univ L := by
  unfold rX at h
  by_cases hc : (chkG Q L roots).1 = 0
  · rw [if_pos hc] at h
    exact ⟨hc, (List.mem_filter.1 h).1⟩
  · rw [if_neg hc] at h; simp at h
end Ve
end Go.Proofs.YtanponneancajaaGreatDoor
