/-
  A version's text read and written again is that text (plain). No Go here.
-/
import Derived.Test.YtmgpapghdbopiaaGreatDoorVerO
import Derived.Test.YtmgpapghdbopiaaGreatDoorRefH
namespace Go.Proofs.YtmgpapghdbopiaaGreatDoor
namespace Ve

theorem val_dec : ∀ (n : Nat) (p : List UInt8), p.length = n + 1 → p.all dig = true → (n = 0 ∨ p.headD 0 ≠ 48) → Lib.decDigits (valTo 0 p).toNat = p
  | 0, p, hl, hd, _ => by
    obtain ⟨c, rfl⟩ := List.length_eq_one_iff.1 hl
    have hc : dig c = true := by simpa using hd
    have hb := dig_bd hc
    have : valTo 0 [c] = (c.toNat : Int) - 48 := by simp [valTo]
    rw [this, Lib.decDigits_one (by omega)]
    congr 1
    apply UInt8.toNat_inj.1
    rw [show 48 + ((c.toNat : Int) - 48).toNat = c.toNat by omega]
    simp
  | n + 1, p, hl, hd, hz => by
    have hne : p ≠ [] := by intro h; subst h; simp at hl
    obtain ⟨q, c, rfl⟩ : ∃ q c, p = q ++ [c] := ⟨p.dropLast, p.getLast hne, (List.dropLast_concat_getLast hne).symm⟩
    rw [all_snoc, Bool.and_eq_true] at hd
    have hql : q.length = n + 1 := by simpa using hl
    have hh : q.headD 0 ≠ 48 := by
      rcases hz with h | h
      · cases h
      · cases q with
        | nil => simp at hql
        | cons x r => simpa using h
    have ih := val_dec n q hql hd.1 (Or.inr hh)
    have hb := dig_bd hd.2
    have hpos : 1 ≤ valTo 0 q := by
      cases q with
      | nil => simp at hql
      | cons x r =>
        have hx := dig_bd (c := x) (by have := hd.1; simp at this; exact this.1)
        have hx0 : x ≠ 48 := by simpa using hh
        have hx1 : x.toNat ≠ 48 := fun e => hx0 (UInt8.toNat_inj.1 (by rw [e]; rfl))
        have h2 := (valTo_bd r ((x.toNat : Int) - 48) (by have := hd.1; simp only [List.all_cons, Bool.and_eq_true] at this; exact this.2) (by omega)).1
        have h3 : valTo 0 (x :: r) = valTo ((x.toNat : Int) - 48) r := by simp [valTo]
        have h4 : (1 : Int) ≤ 10 ^ r.length := by
          have : (0 : Int) < 10 ^ r.length := Int.pow_pos (by omega)
          omega
        rw [h3]
        have h5 : (1 : Int) * 1 ≤ ((x.toNat : Int) - 48) * 10 ^ r.length := Int.mul_le_mul (by omega) h4 (by omega) (by omega)
        omega
    rw [valTo_snoc]
    have e1 : (10 * valTo 0 q + ((c.toNat : Int) - 48)).toNat / 10 = (valTo 0 q).toNat := by omega
    have e2 : (10 * valTo 0 q + ((c.toNat : Int) - 48)).toNat % 10 = c.toNat - 48 := by omega
    rw [dec_big (by omega), e1, e2, ih]
    congr 2
    apply UInt8.toNat_inj.1
    rw [show 48 + (c.toNat - 48) = c.toNat by omega]
    simp

theorem itoa_num (p : List UInt8) (h : (num p).2 = 0) : Lib.itoa (num p).1 = p ∧ 0 ≤ (num p).1 ∧ (num p).1 ≤ 999999 := by
  have hd : digs p = true := by
    cases e : digs p
    · unfold num at h; rw [e] at h; simp at h
    · rfl
  have hz : zero p = false := by
    cases e : zero p
    · rfl
    · unfold num at h; rw [e] at h; simp at h
  have hs := num_six p hd hz
  by_cases h6 : 6 < p.length
  · rw [if_pos h6] at hs; rw [hs] at h; cases h
  · rw [if_neg h6] at hs
    have hda : p.all dig = true := by unfold digs at hd; simp only [Bool.and_eq_true] at hd; exact hd.2
    have hpos : 0 < p.length := by unfold digs at hd; simp only [Bool.and_eq_true, decide_eq_true_eq] at hd; exact hd.1
    have hb := val_le p hda (by omega)
    rw [hs]
    refine ⟨?_, hb.1, by show valTo 0 p ≤ 999999; omega⟩
    show Lib.itoa (valTo 0 p) = p
    rw [itoa_dec _ hb.1]
    refine val_dec (p.length - 1) p (by omega) hda ?_
    by_cases h1 : p.length - 1 = 0
    · exact Or.inl h1
    · refine Or.inr fun e => ?_
      unfold zero at hz
      rw [e] at hz
      simp at hz
      omega

theorem joinTail_ne {c : UInt8} : ∀ X : List (List UInt8), X ≠ [] → Lib.joinTail [c] X = c :: Lib.join X [c]
  | [], h => absurd rfl h
  | x :: r, _ => by rw [Lib.join_cons]; simp [Lib.joinTail]
theorem join_cut (c : UInt8) (l : List UInt8) : Lib.join (cutAt c l) [c] = l := by
  induction l with
  | nil => simp [cutAt, Lib.join_one]
  | cons b l ih =>
    unfold cutAt
    by_cases h : b = c
    · rw [if_pos h, Lib.join_cons, joinTail_ne _ (cutAt_ne c l), ih, h]; rfl
    · rw [if_neg h]
      obtain ⟨x, r, e⟩ : ∃ x r, cutAt c l = x :: r := by
        cases e : cutAt c l with
        | nil => exact absurd e (cutAt_ne c l)
        | cons x r => exact ⟨x, r, rfl⟩
      rw [e] at ih ⊢
      rw [Lib.join_cons] at ih
      simp only [ahead, Lib.join_cons]
      rw [← ih]
      simp
theorem one_back {c : UInt8} {l : List UInt8} (h : (one c l).2.2 = true) : l = (one c l).1 ++ c :: (one c l).2.1 := by
  obtain ⟨j, hj, e, _, e1, e2⟩ := one_yes (c := c) (l := l) h
  rw [e1, e2, ← e, List.getElem_cons_drop, List.take_append_drop]
theorem one_none {c : UInt8} {l : List UInt8} (h : (one c l).2.2 = false) : (one c l).1 = l := by rw [one_no h]

theorem worst0 {b : Nat} {cs : List Nat} (h : worst b cs = 0) : 1 ∉ cs ∧ 2 ∉ cs := by
  unfold worst at h
  by_cases h1 : b = 1 ∨ 1 ∈ cs
  · rw [if_pos h1] at h; omega
  · rw [if_neg h1] at h
    by_cases h2 : b = 2 ∨ 2 ∈ cs
    · rw [if_pos h2] at h; omega
    · exact ⟨fun h => h1 (Or.inr h), fun h => h2 (Or.inr h)⟩
theorem ncode0 {ps : List (List UInt8)} (h : numsErr ps = 0) : ∀ p, p ∈ ps → (num p).2 = 0 := by
  intro p hp
  rw [numsErr_ncode] at h
  obtain ⟨h1, h2⟩ := worst0 h
  have hm : ncode p ∈ ps.map ncode := List.mem_map_of_mem hp
  rcases num_err p with e | e | e
  · exact e
  · exact absurd (show ncode p = 1 from e) (fun e => h1 (e ▸ hm))
  · exact absurd (show ncode p = 2 from e) (fun e => h2 (e ▸ hm))

theorem text_back (l : List UInt8) (h : verErr l = 0) : textOf (nAt l 0) (nAt l 1) (nAt l 2) (preOf l) = l := by
  unfold verErr at h
  by_cases hc : marked l = false ∨ (coreOf l).length ≠ 3
  · rw [if_pos hc] at h; omega
  rw [if_neg hc] at h
  have hm : marked l = true := by
    cases e : marked l
    · exact absurd (Or.inl e) hc
    · rfl
  have h3 : (coreOf l).length = 3 := by
    rcases Nat.decEq (coreOf l).length 3 with h | h
    · exact absurd (Or.inr h) hc
    · exact h
  have hl : l = 118 :: restOf l := by
    rw [rest_drop hm]
    cases l with
    | nil => cases hm
    | cons b r =>
      have : b = 118 := by simpa [marked] using hm
      rw [this]; rfl
  obtain ⟨hn, hp⟩ : numsErr (coreOf l) = 0 ∧ pre (preOf l) = 0 := by
    cases e : hasPre l
    · rw [e] at h
      exact ⟨h, by unfold preOf; rw [e]; rfl⟩
    · rw [e] at h
      have h' : worse (numsErr (coreOf l)) (pre (preOf l)) = 0 := h
      unfold worse at h'
      by_cases q : numsErr (coreOf l) = 1 ∨ pre (preOf l) = 0
      · rw [if_pos q] at h'
        refine ⟨h', ?_⟩
        rcases q with q | q
        · omega
        · exact q
      · rw [if_neg q] at h'; exact absurd (Or.inr h') q
  obtain ⟨p0, p1, p2, hco⟩ : ∃ p0 p1 p2, coreOf l = [p0, p1, p2] := by
    match e : coreOf l, h3 with
    | [a, b, c], _ => exact ⟨a, b, c, rfl⟩
  have hz := ncode0 hn
  rw [hco] at hz
  have n0 : nAt l 0 = (num p0).1 := by simp [nAt, numsOf, hco]
  have n1 : nAt l 1 = (num p1).1 := by simp [nAt, numsOf, hco]
  have n2 : nAt l 2 = (num p2).1 := by simp [nAt, numsOf, hco]
  obtain ⟨i0, l0, u0⟩ := itoa_num p0 (hz p0 (by simp))
  obtain ⟨i1, l1, u1⟩ := itoa_num p1 (hz p1 (by simp))
  obtain ⟨i2, l2, u2⟩ := itoa_num p2 (hz p2 (by simp))
  have hin : (inBB (num p0).1 && inBB (num p1).1 && inBB (num p2).1) = true := by simp [inBB, l0, u0, l1, u1, l2, u2]
  have hj : (one 45 (restOf l)).1 = core (num p0).1 (num p1).1 (num p2).1 := by
    have e := join_cut 46 (one 45 (restOf l)).1
    have hco' : cutAt 46 (one 45 (restOf l)).1 = [p0, p1, p2] := hco
    rw [hco'] at e
    rw [← e, Lib.join_cons]
    unfold core
    rw [i0, i1, i2]
    simp [Lib.joinTail]
  rw [n0, n1, n2, textOf_pre, hin, hp]
  show core3 _ _ _ ++ preText (preOf l) = l
  rw [core3_eq]
  conv => rhs; rw [hl]
  congr 1
  cases e : hasPre l
  · have e1 : (one 45 (restOf l)).2.2 = false := e
    have e2 := one_none e1
    have e3 : preOf l = [] := by unfold preOf; rw [e]; rfl
    rw [e3, ← hj, e2]
    simp [preText]
  · have e1 : (one 45 (restOf l)).2.2 = true := e
    have e2 := one_back e1
    have e3 : preOf l = cutAt 46 (one 45 (restOf l)).2.1 := by unfold preOf; rw [e]; rfl
    have e4 : preText (preOf l) = 45 :: (one 45 (restOf l)).2.1 := by
      rw [e3]
      have e5 := join_cut 46 (one 45 (restOf l)).2.1
      obtain ⟨x, r, ex⟩ : ∃ x r, cutAt 46 (one 45 (restOf l)).2.1 = x :: r := by
        cases ex : cutAt 46 (one 45 (restOf l)).2.1 with
        | nil => exact absurd ex (cutAt_ne _ _)
        | cons x r => exact ⟨x, r, rfl⟩
      rw [ex] at e5 ⊢
      simp only [preText]
      rw [e5]; rfl
    rw [e4, ← hj]
    exact e2.symm
end Ve
end Go.Proofs.YtmgpapghdbopiaaGreatDoor
