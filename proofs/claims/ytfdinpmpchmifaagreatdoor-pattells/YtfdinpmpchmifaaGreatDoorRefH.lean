/-
  What the document's answer says of a text with a pre that has not three numbers ahead of it (VerOf); where the first dash stands.
-/
import Derived.Test.YtfdinpmpchmifaaGreatDoorRefG
namespace Go.Proofs.YtfdinpmpchmifaaGreatDoor
open Go.RowKit
namespace Ve

theorem one_yes {c : UInt8} {l : List UInt8} (h : l.contains c = true) : ∃ j, ∃ hj : j < l.length, l[j] = c ∧ (∀ k (hk : k < l.length), k < j → l[k] ≠ c) ∧ (one c l).1 = l.take j ∧ (one c l).2.1 = l.drop (j + 1) := by
  induction l with
  | nil => simp at h
  | cons a r ih =>
    by_cases e : a = c
    · subst e
      exact ⟨0, by simp, rfl, fun k hk h0 => absurd h0 (by omega), by simp [one], by simp [one]⟩
    · have hr : r.contains c = true := by
        simp at h ⊢
        rcases h with h | h
        · exact absurd h.symm e
        · exact h
      obtain ⟨j, hj, h1, h2, h3, h4⟩ := ih hr
      refine ⟨j + 1, by simp; omega, by simpa using h1, ?_, ?_, ?_⟩
      · intro k hk hkj
        cases k with
        | zero => simpa using e
        | succ k => simpa using h2 k (by simp at hk; omega) (by omega)
      · have : (a != c) = true := by simp [e]
        simp only [one, List.takeWhile_cons, this, if_true, List.take_succ_cons] at h3 ⊢
        rw [h3]
      · have : (a != c) = true := by simp [e]
        simp only [one, List.dropWhile_cons, this, if_true, List.drop_succ_cons] at h4 ⊢
        rw [h4]
theorem dash {s : ByteArray} (hm : marked s.data.toList = true) (h : hasPre s.data.toList = true) : ∃ dj : Nat, ∃ _ : 1 ≤ dj, ∃ hdl : dj < s.size, ((s[dj].toNat : Int) == 45) = true ∧ (∀ k, k < dj → ∀ hk : k < s.size, ((s[k].toNat : Int) == 45) = false) ∧
    (s.extract 1 dj).data.toList = (one 45 (s.data.toList.drop 1)).1 ∧ (s.extract (dj + 1) s.size).data.toList = (one 45 (s.data.toList.drop 1)).2.1 ∧ coreOf s.data.toList = cutAt 46 (s.extract 1 dj).data.toList := by
  have hr := rest_drop hm
  obtain ⟨hp, hv⟩ := marked_pos hm
  have hc : (s.data.toList.drop 1).contains 45 = true := by unfold hasPre one at h; rw [hr] at h; exact h
  obtain ⟨j, hj, h1, h2, h3, h4⟩ := one_yes hc
  have hl : (s.data.toList.drop 1).length = s.size - 1 := by simp
  have hjs : j + 1 < s.size := by omega
  have at_ : ∀ k (hk : k < (s.data.toList.drop 1).length), (s.data.toList.drop 1)[k] = s[k + 1]'(by omega) := by
    intro k hk
    rw [List.getElem_drop]
    simp only [Nat.add_comm 1 k]
    rfl
  have e2 : (s.extract 1 (j + 1)).data.toList = (one 45 (s.data.toList.drop 1)).1 := by rw [h3, extract_list]; rfl
  refine ⟨j + 1, by omega, hjs, ?_, ?_, e2, ?_, ?_⟩
  · rw [← at_ j hj, h1]; rfl
  · intro k hk hks
    rw [beq_eq_false_iff_ne]
    intro e
    have e3 : s[k] = 45 := by apply UInt8.toNat_inj.1; show s[k].toNat = 45; omega
    cases k with
    | zero => rw [e3] at hv; cases hv
    | succ k => exact h2 k (by omega) (by omega) (by rw [at_ k (by omega)]; exact e3)
  · rw [h4, ext_drop, List.drop_drop, Nat.add_comm 1 (j + 1)]
  · rw [e2]; unfold coreOf; rw [hr]

end Ve
end Go.Proofs.YtfdinpmpchmifaaGreatDoor
