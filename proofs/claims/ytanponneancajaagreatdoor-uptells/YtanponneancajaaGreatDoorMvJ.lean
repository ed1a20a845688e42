/-
  What mvs.check and mvs.Closed answer.
-/
import Derived.Test.YtanponneancajaaGreatDoorMvI
namespace Go.Proofs.YtanponneancajaaGreatDoor
open Go.RowKit Go.Maps
namespace Ve

/-- What is wrong with an index, roots and a selection. -/
def chkC (Q : List Raw) (L : List Ent) (roots sel : List Bm) : Nat × Option Nat := if (chkG Q L roots).1 ≠ 0 then chkG Q L roots else if codeE (nonE Q sel) sel.length ≠ 0 then (codeE (nonE Q sel) sel.length, fstE (nonE Q sel) sel.length) else if risB2 sel then (0, none) else (8, none)
theorem univ_right {Q : List Raw} {L : List Ent} (h : (chk Q L).1 = 0) : ∀ m, m ∈ univ L → mErr m = 0 := fun m hm => by
  obtain ⟨e, he, rfl⟩ := List.mem_map.1 hm
  obtain ⟨j, hj, rfl⟩ := List.getElem_of_mem he
  exact entE_mod hj ((chk_each0 h).2 j hj)
theorem chkC_bad {Q : List Raw} {L : List Ent} {roots sel : List Bm} (h : (chkG Q L roots).1 ≠ 0) : chkC Q L roots sel = chkG Q L roots := by unfold chkC; rw [if_pos h]
theorem chkC_sel {Q : List Raw} {L : List Ent} {roots sel : List Bm} (h : (chkG Q L roots).1 = 0) (h2 : codeE (nonE Q sel) sel.length ≠ 0) : chkC Q L roots sel = (codeE (nonE Q sel) sel.length, fstE (nonE Q sel) sel.length) := by unfold chkC; rw [if_neg (by simp [h]), if_pos h2]
theorem chkC_ris {Q : List Raw} {L : List Ent} {roots sel : List Bm} (h : (chkG Q L roots).1 = 0) (h2 : codeE (nonE Q sel) sel.length = 0) : chkC Q L roots sel = if risB2 sel then (0, none) else (8, none) := by unfold chkC; rw [if_neg (by simp [h]), if_neg (by simp [h2])]
/-- Is a selection closed? -/
def closB (Q : List Raw) (L : List Ent) (roots sel : List Bm) : Bool := undB roots sel && sel.all fun m => undB (reqQ Q L m) sel
theorem reqQ_sz {Q : List Raw} {L : List Ent} (sh : ∀ e, e ∈ L → ShE e) (m : Bm) : (reqQ Q L m).length ≤ 1000000 ∧ ∀ x, x ∈ reqQ Q L m → x.1.size < 999999 ∧ x.2.size < 999999 := by
  unfold reqQ
  split
  · exact ⟨by simp, fun x hx => by cases hx⟩
  · cases h : L[(idxOf (isM m) Q).toNat]? with
    | none => exact ⟨by simp, fun x hx => by simp at hx⟩
    | some e =>
      have he := sh e (List.mem_of_getElem? h)
      exact ⟨he.rn, fun x hx => he.rs x hx⟩
theorem chkC_good {w : World} {v : Value} {Q : List Raw} {L : List Ent} {roots sel : List Bm} (I : Ixs w v Q L) (h : (chkC Q L roots sel).1 = 0) : (chkG Q L roots).1 = 0 ∧ (∀ m, m ∈ sel → m ∈ univ L) ∧ risB2 sel = true := by
  by_cases h1 : (chkG Q L roots).1 = 0
  · have hc := (rgt_of I h1).c
    by_cases h2 : codeE (nonE Q sel) sel.length = 0
    · rw [chkC_ris h1 h2] at h
      refine ⟨h1, (rgt_of I (show (chkG Q L sel).1 = 0 by rw [chkG_ok hc]; exact h2)).r, ?_⟩
      cases hs : risB2 sel
      · rw [hs] at h; exact absurd h (by decide)
      · rfl
    · rw [chkC_sel h1 h2] at h; exact absurd h h2
  · rw [chkC_bad h1] at h; exact absurd h h1
theorem chkC_of {w : World} {v : Value} {Q : List Raw} {L : List Ent} {roots sel : List Bm} (I : Ixs w v Q L) (h1 : (chkG Q L roots).1 = 0) (h2 : ∀ m, m ∈ sel → m ∈ univ L) (h3 : risB2 sel = true) : (chkC Q L roots sel).1 = 0 := by
  have hc := (rgt_of I h1).c
  have h4 := chkG_in I hc h2
  rw [chkG_ok hc] at h4
  rw [chkC_ris h1 h4, h3]
  rfl
end Ve
end Go.Proofs.YtanponneancajaaGreatDoor
