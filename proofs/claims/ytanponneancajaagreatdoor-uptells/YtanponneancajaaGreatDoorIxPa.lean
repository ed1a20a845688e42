/-
  An index that is right, plain: its modules are unlike, and rise.
-/
import Derived.Test.YtanponneancajaaGreatDoorIxH
import Derived.Test.YtanponneancajaaGreatDoorFileR
import Derived.Test.YtanponneancajaaGreatDoorVerS
namespace Go.Proofs.YtanponneancajaaGreatDoor
open Go.RowKit
namespace Ve

/-! The index. -/
theorem mAhead_trans {a b c : Bm} (h1 : mAhead a b = true) (h2 : mAhead b c = true) : mAhead a c = true := by
  unfold mAhead aheadB at *
  by_cases e1 : a.1.data.toList = b.1.data.toList
  · rw [if_pos e1] at h1
    rw [e1]
    by_cases e2 : b.1.data.toList = c.1.data.toList
    · rw [if_pos e2] at h2 ⊢
      unfold lessB at *
      simp only [Bool.and_eq_true, decide_eq_true_eq] at *
      exact ⟨h1.1, h2.2.1, ordV_trans h1.2.2 h2.2.2⟩
    · rw [if_neg e2] at h2 ⊢; exact h2
  · rw [if_neg e1] at h1
    by_cases e2 : b.1.data.toList = c.1.data.toList
    · rw [← e2, if_neg e1]; exact h1
    · rw [if_neg e2] at h2
      have h3 := cbt _ _ _ (of_decide_eq_true h1) (of_decide_eq_true h2)
      by_cases e3 : a.1.data.toList = c.1.data.toList
      · rw [e3] at h3
        have := lt_irrefl c.1
        unfold lt at this
        exact absurd h3 (of_decide_eq_false this)
      · rw [if_neg e3]; exact decide_eq_true h3
theorem mAhead_irr (a : Bm) : mAhead a a = false := by
  unfold mAhead aheadB
  rw [if_pos rfl]
  unfold lessB
  have : ¬ ordV a.2.data.toList a.2.data.toList < 0 := fun h => ordV_irr h h
  rw [decide_eq_false this, Bool.and_false, Bool.and_false]
/-- What a right index gives. -/
theorem chk_each0 {Q : List Raw} {L : List Ent} (h : (chk Q L).1 = 0) : L.length ≤ 100 ∧ ∀ i, i < L.length → entE L i = 0 := by
  by_cases h1 : 100 < L.length
  · rw [chk_full h1] at h; exact absurd h (by decide)
  · refine ⟨by omega, ?_⟩
    cases hf : fstE (entE L) L.length with
    | some i =>
      rw [chk_each h1 hf] at h
      exact absurd h (fstE_of_some hf).2.1
    | none => exact fstE_of_none hf
theorem entE_mod {L : List Ent} {i : Nat} (hi : i < L.length) (h : entE L i = 0) : mErr L[i].1 = 0 := by
  by_cases hm : mErr L[i].1 = 0
  · exact hm
  · unfold entE at h
    rw [List.getElem?_eq_getElem hi] at h
    simp only at h
    rw [entW_bad hm] at h
    exact absurd h hm
theorem entE_ahead {L : List Ent} {k : Nat} (hk : k + 1 < L.length) (h : entE L (k + 1) = 0) : mAhead (L[k]'(by omega)).1 L[k + 1].1 = true := by
  have hm := entE_mod hk h
  rw [entE_1 hk] at h
  cases ha : mAhead (L[k]'(by omega)).1 L[k + 1].1
  · rw [entW_order hm ha] at h; exact absurd h (by decide)
  · rfl
theorem ahead_all {L : List Ent} (h : ∀ i, i < L.length → entE L i = 0) : ∀ (d i : Nat) (hi : i + d + 1 < L.length), mAhead (L[i]'(by omega)).1 (L[i + d + 1]'hi).1 = true
  | 0, i, hi => entE_ahead hi (h _ hi)
  | d + 1, i, hi => mAhead_trans (ahead_all h d i (by omega)) (entE_ahead (k := i + d + 1) hi (h _ hi))
/-- An index that is right. -/
structure Good (Q : List Raw) : Prop where
  ver : ∀ r, r ∈ Q → verErr r.1.2.data.toList = 0
  path : ∀ r, r ∈ Q → pathErr r.1.1.data.toList = 0
  one : ∀ i j (hi : i < Q.length) (hj : j < Q.length), Q[i].1 = Q[j].1 → i = j
theorem mErr_zero {m : Bm} (h : mErr m = 0) : pathErr m.1.data.toList = 0 ∧ verErr m.2.data.toList = 0 := by
  unfold mErr modErr at h
  by_cases h0 : pathErr m.1.data.toList = 0
  · rw [if_pos h0] at h
    by_cases h1 : verErr m.2.data.toList = 0
    · exact ⟨h0, h1⟩
    · rw [if_neg h1] at h; exact absurd h h1
  · rw [if_neg h0] at h; exact absurd h h0
theorem good_of {w : World} {v : Value} {Q : List Raw} {L : List Ent} (I : Ixs w v Q L) (h : (chk Q L).1 = 0) : Good Q := by
  obtain ⟨_, he⟩ := chk_each0 h
  have hm : ∀ i (hi : i < Q.length), Q[i].1 = (L[i]'(by rw [← I.ln]; exact hi)).1 := fun i hi => (I.ok i hi (by rw [← I.ln]; exact hi)).m
  have hz : ∀ i (hi : i < Q.length), pathErr Q[i].1.1.data.toList = 0 ∧ verErr Q[i].1.2.data.toList = 0 := fun i hi => by
    rw [hm i hi]; exact mErr_zero (entE_mod _ (he i (by rw [← I.ln]; exact hi)))
  refine ⟨fun r hr => ?_, fun r hr => ?_, ?_⟩
  · obtain ⟨i, hi, rfl⟩ := List.getElem_of_mem hr
    exact (hz i hi).2
  · obtain ⟨i, hi, rfl⟩ := List.getElem_of_mem hr
    exact (hz i hi).1
  · have key : ∀ i j (hi : i < Q.length) (hj : j < Q.length), i < j → Q[i].1 ≠ Q[j].1 := fun i j hi hj hij e => by
      have ha := ahead_all he (j - i - 1) i (by rw [← I.ln]; omega)
      have hjj : i + (j - i - 1) + 1 = j := by omega
      simp only [hjj] at ha
      rw [← hm i hi, ← hm j hj, e, mAhead_irr] at ha
      cases ha
    intro i j hi hj e
    rcases Nat.lt_trichotomy i j with h1 | h1 | h1
    · exact absurd e (key i j hi hj h1)
    · exact h1
    · exact absurd e.symm (key j i hj hi h1)
theorem Good.same {Q : List Raw} (g : Good Q) {r s : Raw} (hr : r ∈ Q) (hs : s ∈ Q) (h : r.1 = s.1) : r = s := by
  obtain ⟨i, hi, rfl⟩ := List.getElem_of_mem hr
  obtain ⟨j, hj, rfl⟩ := List.getElem_of_mem hs
  have := g.one i j hi hj h
  subst this; rfl
/-- The entry of a module is found. -/
theorem Good.find {Q : List Raw} (g : Good Q) {r : Raw} (hr : r ∈ Q) : ∃ n, ∃ hn : n < Q.length, idxOf (isM r.1) Q = (n : Int) ∧ Q[n] = r := by
  obtain ⟨i, hi, e⟩ := List.getElem_of_mem hr
  refine ⟨i, hi, idx_hit hi (fun j hj hji => ?_) (by rw [e]; unfold isM; simp), e⟩
  unfold isM
  rw [decide_eq_false]
  rintro ⟨h1, h2⟩
  have := g.one j i hj hi (by rw [e]; exact Prod.ext h1 h2)
  omega
end Ve
end Go.Proofs.YtanponneancajaaGreatDoor
