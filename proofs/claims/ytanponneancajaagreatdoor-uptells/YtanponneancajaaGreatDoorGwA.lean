/-
  What is reached, in the order of an index; plain.
-/
import Derived.Test.YtanponneancajaaGreatDoorGrI
import Derived.Test.YtanponneancajaaGreatDoorGrJ
import Derived.Test.YtanponneancajaaGreatDoorGrK
namespace Go.Proofs.YtanponneancajaaGreatDoor
open Go.RowKit Go.Maps
namespace Ve

theorem goM_mem {w : World} {v : Value} {Q : List Raw} {L : List Ent} {roots : List Bm} {T : By} (I : Ixs w v Q L) (h : Came (reqQ Q L) (univ L) roots T) {m : Bm} : m ∈ goM T Q ↔ Rch (reqQ Q L) roots m := by
  constructor
  · intro hm
    obtain ⟨r, hr, rfl⟩ := List.mem_map.1 hm
    exact (h.cameB _).1 (List.mem_filter.1 hr).2
  · intro hm
    have hc := (h.cameB m).2 hm
    have hu := h.b.un m (cameB_iff.1 hc)
    obtain ⟨e, he, rfl⟩ := List.mem_map.1 hu
    obtain ⟨j, hj, rfl⟩ := List.getElem_of_mem he
    have hjq : j < Q.length := by rw [I.ln]; exact hj
    have hm1 := (I.ok j hjq hj).m
    refine List.mem_map.2 ⟨Q[j], List.mem_filter.2 ⟨List.getElem_mem hjq, ?_⟩, hm1⟩
    show cameB T Q[j].1 = true
    rw [hm1]
    exact hc
theorem goM_univ {w : World} {v : Value} {Q : List Raw} {L : List Ent} {T : By} (I : Ixs w v Q L) {m : Bm} (h : m ∈ goM T Q) : m ∈ univ L := by
  obtain ⟨r, hr, rfl⟩ := List.mem_map.1 h
  obtain ⟨j, hj, rfl⟩ := List.getElem_of_mem (List.mem_filter.1 hr).1
  obtain ⟨hj', e⟩ := ixs_get I hj
  exact List.mem_map.2 ⟨L[j], List.getElem_mem hj', e.symm⟩
theorem goM_same {Q : List Raw} {T T' : By} (h : ∀ m, cameB T m = cameB T' m) : goM T Q = goM T' Q := by
  unfold goM goQ
  rw [show (fun r : Raw => cameB T r.1) = fun r => cameB T' r.1 from funext fun r => h r.1]
theorem goM_len (T : By) (Q : List Raw) : (goM T Q).length ≤ Q.length := by
  unfold goM goQ
  rw [List.length_map]
  exact List.length_filter_le _ _
theorem chkG_in {w : World} {v : Value} {Q : List Raw} {L : List Ent} {R : List Bm} (I : Ixs w v Q L) (hc : (chk Q L).1 = 0) (h : ∀ m, m ∈ R → m ∈ univ L) : (chkG Q L R).1 = 0 := by
  rw [chkG_ok hc]
  have : fstE (nonE Q R) R.length = none := fstE_none fun j hj => by
    rw [nonE_at hj]
    unfold nonW
    obtain ⟨k, hk⟩ := (found_iff I R[j]).1 (h _ (List.getElem_mem hj))
    rw [hk, if_neg (by omega)]
  exact codeE_none this
/-- Of what is reached the same is reached. -/
theorem goM_again {w : World} {v : Value} {Q : List Raw} {L : List Ent} {roots : List Bm} {T T' : By} (I : Ixs w v Q L) (h : Came (reqQ Q L) (univ L) roots T) (h' : Came (reqQ Q L) (univ L) (goM T Q) T') : goM T' Q = goM T Q :=
  goM_same fun m => by
    have e : cameB T' m = true ↔ cameB T m = true := by
      rw [h'.cameB, h.cameB]
      exact Rch.again (fun m => goM_mem I h)
    cases h1 : cameB T' m with
    | true => exact (e.1 h1).symm
    | false =>
      cases h2 : cameB T m with
      | true => rw [e.2 h2] at h1; cases h1
      | false => rfl
end Ve
end Go.Proofs.YtanponneancajaaGreatDoor
