/-
  What a right module's text holds (plain): one sign between path and version, so it is read as it was written; of two unlike right ones one is ahead. No Go here.
-/
import Derived.Test.YtmgpapghdbopiaaDoorModE
import Derived.Test.YtmgpapghdbopiaaDoorOrdP
namespace Go.Proofs.YtmgpapghdbopiaaDoor
namespace Ve

theorem mem_cut (c x : UInt8) : ∀ l : List UInt8, x ∈ l → x = c ∨ ∃ p, p ∈ cutAt c l ∧ x ∈ p
  | [], h => by cases h
  | b :: l, h => by
    obtain ⟨y, r, e⟩ : ∃ y r, cutAt c l = y :: r := by
      cases e : cutAt c l with
      | nil => exact absurd e (cutAt_ne c l)
      | cons y r => exact ⟨y, r, rfl⟩
    unfold cutAt
    by_cases hb : b = c
    · rw [if_pos hb]
      rcases List.mem_cons.1 h with h | h
      · exact Or.inl (h.trans hb)
      · rcases mem_cut c x l h with h | ⟨p, hp, hx⟩
        · exact Or.inl h
        · exact Or.inr ⟨p, List.mem_cons_of_mem _ hp, hx⟩
    · rw [if_neg hb, e]
      rcases List.mem_cons.1 h with h | h
      · exact Or.inr ⟨b :: y, by simp [ahead], by simp [h]⟩
      · rcases mem_cut c x l h with h | ⟨p, hp, hx⟩
        · exact Or.inl h
        · rw [e] at hp
          rcases List.mem_cons.1 hp with hp | hp
          · exact Or.inr ⟨b :: y, by simp [ahead], by rw [← hp]; exact List.mem_cons_of_mem _ hx⟩
          · exact Or.inr ⟨p, by simp [ahead, hp], hx⟩
theorem mem_one {c x : UInt8} {l : List UInt8} (h : x ∈ l) : x = c ∨ x ∈ (one c l).1 ∨ ((one c l).2.2 = true ∧ x ∈ (one c l).2.1) := by
  cases e : (one c l).2.2
  · rw [one_none e]; exact Or.inr (Or.inl h)
  · have h2 := h
    rw [one_back e] at h2
    rcases List.mem_append.1 h2 with h3 | h3
    · exact Or.inr (Or.inl h3)
    · rcases List.mem_cons.1 h3 with h4 | h4
      · exact Or.inl h4
      · exact Or.inr (Or.inr ⟨rfl, h4⟩)
theorem path_no {l : List UInt8} {c : UInt8} (h : pathErr l = 0) (hc : el c = false) (h47 : c ≠ 47) : c ∉ l := by
  intro hx
  have hb : badE l = false := by
    cases e : badE l
    · rfl
    · unfold pathErr at h; rw [e] at h; simp at h
  rcases mem_cut 47 c l hx with h | ⟨p, hp, hx⟩
  · exact h47 h
  · have h1 := List.any_eq_false.1 hb p hp
    have ok : elemOk p = true := by simpa using h1
    unfold elemOk at ok
    simp only [Bool.and_eq_true] at ok
    have h2 := List.all_eq_true.1 ok.2.2 c hx
    rw [hc] at h2; cases h2
theorem ver_parts {l : List UInt8} (h : verErr l = 0) : marked l = true ∧ numsErr (coreOf l) = 0 ∧ pre (preOf l) = 0 := by
  unfold verErr at h
  by_cases hc : marked l = false ∨ (coreOf l).length ≠ 3
  · rw [if_pos hc] at h; omega
  rw [if_neg hc] at h
  have hm : marked l = true := by
    cases e : marked l
    · exact absurd (Or.inl e) hc
    · rfl
  refine ⟨hm, ?_⟩
  cases e : hasPre l
  · rw [e] at h
    exact ⟨h, by unfold preOf; rw [e]; rfl⟩
  · rw [e] at h
    have h' : worse (numsErr (coreOf l)) (pre (preOf l)) = 0 := h
    unfold worse at h'
    by_cases q : numsErr (coreOf l) = 1 ∨ pre (preOf l) = 0
    · rw [if_pos q] at h'
      refine ⟨h', ?_⟩
      rcases q with q | q
      · omega
      · exact q
    · rw [if_neg q] at h'; exact absurd (Or.inr h') q
theorem ver_no {l : List UInt8} {c : UInt8} (h : verErr l = 0) (hp : par c = false) (hd : dig c = false) (h1 : c ≠ 118) (h2 : c ≠ 46) (h3 : c ≠ 45) : c ∉ l := by
  intro hx
  obtain ⟨hm, hn, hpr⟩ := ver_parts h
  have hr : c ∈ restOf l := by
    rw [rest_drop hm]
    cases l with
    | nil => cases hx
    | cons b r =>
      have hb : b = 118 := by simpa [marked] using hm
      rcases List.mem_cons.1 hx with e | e
      · exact absurd (e.trans hb) h1
      · simpa using e
  rcases mem_one (c := 45) hr with e | e | ⟨e0, e⟩
  · exact h3 e
  · rcases mem_cut 46 c _ e with e | ⟨p, hp1, hx1⟩
    · exact h2 e
    · have h4 := (num0 (ncode0 hn p hp1)).2.2.2
      have h5 := List.all_eq_true.1 h4 c hx1
      rw [hd] at h5; cases h5
  · rcases mem_cut 46 c _ e with e | ⟨p, hp1, hx1⟩
    · exact h2 e
    · have hpo : preOf l = cutAt 46 (one 45 (restOf l)).2.1 := by unfold preOf; rw [if_pos (show hasPre l = true from e0)]
      rw [← hpo] at hp1
      have h4 := pre_parts hpr p hp1
      unfold part at h4
      split at h4
      · cases h4
      · rename_i hn1
        have h6 : allPar p = true := by
          cases e : allPar p
          · exact absurd (Or.inr (Or.inr e)) hn1
          · rfl
        have h5 := List.all_eq_true.1 h6 c hx1
        rw [hp] at h5; cases h5

theorem mod_right {p v : List UInt8} (h : modErr p v = 0) : pathErr p = 0 ∧ verErr v = 0 := by
  unfold modErr at h
  by_cases h0 : pathErr p = 0
  · rw [if_pos h0] at h
    by_cases h1 : verErr v = 0
    · exact ⟨h0, h1⟩
    · rw [if_neg h1] at h; exact absurd h h1
  · rw [if_neg h0] at h; exact absurd h h0
theorem mod_no {p v : List UInt8} (h : modErr p v = 0) : (64 : UInt8) ∉ p ∧ (64 : UInt8) ∉ v :=
  ⟨path_no (mod_right h).1 (by decide) (by decide), ver_no (mod_right h).2 (by decide) (by decide) (by decide) (by decide) (by decide)⟩
theorem text_one {p v : List UInt8} (h : modErr p v = 0) : one 64 (p ++ 64 :: v) = (p, v, true) :=
  one_at (by have := (mod_no h).1; simpa using this)
theorem text_count {p v : List UInt8} (h : modErr p v = 0) : (p ++ 64 :: v).count 64 = 1 := by
  rw [List.count_append, List.count_cons_self, List.count_eq_zero.2 (mod_no h).1, List.count_eq_zero.2 (mod_no h).2]
theorem text_right {p v : List UInt8} (h : modErr p v = 0) : readErr (p ++ 64 :: v) = 0 := by
  unfold readErr
  rw [if_pos (text_count h), text_one h]; exact h
theorem modText_is {p v : List UInt8} (h : modErr p v = 0) : modText p v = p ++ 64 :: v := by unfold modText; rw [if_pos h]
theorem modText_no {p v : List UInt8} (h : modErr p v ≠ 0) : modText p v = [] := by unfold modText; rw [if_neg h]
theorem read_right {l : List UInt8} (h : readErr l = 0) : modErr (one 64 l).1 (one 64 l).2.1 = 0 ∧ modText (one 64 l).1 (one 64 l).2.1 = l := by
  unfold readErr at h
  by_cases hc : l.count 64 = 1
  · rw [if_pos hc] at h
    refine ⟨h, ?_⟩
    rw [modText_is h]
    have hm : (one 64 l).2.2 = true := by
      have : (64 : UInt8) ∈ l := List.count_pos_iff.1 (by omega)
      show l.contains 64 = true
      simpa using this
    exact (one_back hm).symm
  · rw [if_neg hc] at h; cases h
theorem text_same {p v q u : List UInt8} (h : modErr p v = 0) (h' : modErr q u = 0) : modText p v = modText q u ↔ p = q ∧ v = u := by
  rw [modText_is h, modText_is h']
  constructor
  · intro e
    have e1 := text_one h
    rw [e, text_one h'] at e1
    injection e1 with a b
    injection b with b _
    exact ⟨a.symm, b.symm⟩
  · rintro ⟨rfl, rfl⟩; rfl
theorem ahead_two {p v q u : List UInt8} (h : modErr p v = 0) (h' : modErr q u = 0) : (aheadB p v q u != aheadB q u p v) = !decide (p = q ∧ v = u) := by
  have hv := (mod_right h).2
  have hu := (mod_right h').2
  unfold aheadB
  by_cases hpq : p = q
  · rw [if_pos hpq, if_pos hpq.symm]
    unfold lessB
    rw [decide_eq_true hv, decide_eq_true hu, ordV_swap v u]
    have hz := ordV_zero hv hu
    by_cases hvu : v = u
    · rw [decide_eq_true (show p = q ∧ v = u from ⟨hpq, hvu⟩), hz.2 hvu]; rfl
    · rw [decide_eq_false (show ¬ (p = q ∧ v = u) from fun e => hvu e.2)]
      rcases ordV_range v u with e | e | e
      · rw [e]; rfl
      · exact absurd (hz.1 e) hvu
      · rw [e]; rfl
  · rw [if_neg hpq, if_neg (fun e => hpq e.symm), cb_swap p q, decide_eq_false (show ¬ (p = q ∧ v = u) from fun e => hpq e.1)]
    rcases cb_range p q with e | e | e
    · rw [e]; rfl
    · exact absurd ((cb_zero p q).1 e) hpq
    · rw [e]; rfl
end Ve
end Go.Proofs.YtmgpapghdbopiaaDoor
