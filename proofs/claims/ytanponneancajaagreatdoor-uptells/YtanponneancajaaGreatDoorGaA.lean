/-
  Modules appended to an own row; the document's IsAhead; what is reached rises.
-/
import Derived.Test.YtanponneancajaaGreatDoorGwA
import Derived.Test.YtanponneancajaaGreatDoorOrdE
import Derived.Test.YtanponneancajaaGreatDoorBoA
namespace Go.Proofs.YtanponneancajaaGreatDoor
open Go.RowKit Go.Maps
namespace Ve

theorem univ_eq {w : World} {v : Value} {Q : List Raw} {L : List Ent} (I : Ixs w v Q L) : Q.map (fun r => r.1) = univ L := by
  apply List.ext_getElem
  · simp [univ, I.ln]
  · intro j h1 h2
    have hq : j < Q.length := by simpa using h1
    have hl : j < L.length := by rw [← I.ln]; exact hq
    simp only [univ, List.getElem_map]
    exact (I.ok j hq hl).m
theorem univ_rises {Q : List Raw} {L : List Ent} (h : (chk Q L).1 = 0) : (univ L).Pairwise fun a b => mAhead a b = true := by
  rw [List.pairwise_iff_getElem]
  intro i j hi hj hij
  have hi2 : i < L.length := by simpa [univ] using hi
  have hj2 : j < L.length := by simpa [univ] using hj
  obtain ⟨d, rfl⟩ : ∃ d, j = i + d + 1 := ⟨j - i - 1, by omega⟩
  have := ahead_all (chk_each0 h).2 d i hj2
  simpa [univ] using this
theorem goM_rises {w : World} {v : Value} {Q : List Raw} {L : List Ent} {T : By} (I : Ixs w v Q L) (h : (chk Q L).1 = 0) : (goM T Q).Pairwise fun a b => mAhead a b = true := by
  have h1 := univ_rises h
  rw [← univ_eq I] at h1
  have h2 : (goM T Q).Sublist (Q.map fun r => r.1) := by
    unfold goM goQ
    exact List.Sublist.map _ List.filter_sublist
  exact h1.sublist h2
/-- What two lists of roots reach together is what each of them reaches. -/
theorem came_app {req : Bm → List Bm} {U a b : List Bm} {Ta Tb Tc : By} (ha : Came req U a Ta) (hb : Came req U b Tb) (hc : Came req U (a ++ b) Tc) (m : Bm) : cameB Tc m = (cameB Ta m || cameB Tb m) := by
  rw [Bool.eq_iff_iff, Bool.or_eq_true, hc.cameB, ha.cameB, hb.cameB]
  exact Rch.app
theorem goM_has {w : World} {v : Value} {Q : List Raw} {L : List Ent} {T : By} (I : Ixs w v Q L) {m : Bm} (hm : m ∈ univ L) : hasM (goM T Q) m = cameB T m := by
  rw [Bool.eq_iff_iff, hasM_iff]
  constructor
  · intro h
    obtain ⟨r, hr, rfl⟩ := List.mem_map.1 h
    exact (List.mem_filter.1 hr).2
  · intro h
    obtain ⟨e, he, rfl⟩ := List.mem_map.1 hm
    obtain ⟨j, hj, rfl⟩ := List.getElem_of_mem he
    have hjq : j < Q.length := by rw [I.ln]; exact hj
    have hm1 := (I.ok j hjq hj).m
    refine List.mem_map.2 ⟨Q[j], List.mem_filter.2 ⟨List.getElem_mem hjq, ?_⟩, hm1⟩
    show cameB T Q[j].1 = true
    rw [hm1]
    exact h
end Ve
end Go.Proofs.YtanponneancajaaGreatDoor
