/-
  Three numbers and a pre, written as a text and read again: the text that Text answers is the one that VerOf reads as it was (plain); and what VerOf answers, all its ways together.
-/
import Derived.Test.YtmgpapghdbopiaaDoorVerM
import Derived.Test.YtmgpapghdbopiaaDoorRefB
import Derived.Test.YtmgpapghdbopiaaDoorRefG
namespace Go.Proofs.YtmgpapghdbopiaaDoor
open Go.RowKit
namespace Ve

theorem dig_of {n : Nat} (h : n < 10) : dig (UInt8.ofNat (48 + n)) = true := by
  have : (UInt8.ofNat (48 + n)).toNat = 48 + n := by simp [UInt8.toNat_ofNat']; omega
  simp only [dig, digB, this, decide_eq_true_eq]
  omega
theorem dec_dig (u : Nat) : (Lib.decDigits u).all dig = true := by
  induction u using Nat.strongRecOn with
  | _ u ih =>
    by_cases h : u < 10
    · rw [Lib.decDigits_one h, List.all_cons, dig_of h]; rfl
    · rw [dec_big h, all_snoc, ih _ (by omega), dig_of (by omega)]; rfl
theorem dec_head (u : Nat) (hu : 0 < u) : ∃ c r, Lib.decDigits u = c :: r ∧ c ≠ 48 := by
  induction u using Nat.strongRecOn with
  | _ u ih =>
    by_cases h : u < 10
    · refine ⟨_, _, Lib.decDigits_one h, fun e => ?_⟩
      have := congrArg UInt8.toNat e
      have h2 : (UInt8.ofNat (48 + u)).toNat = 48 + u := by simp [UInt8.toNat_ofNat']; omega
      rw [h2] at this
      have h3 : (48 : UInt8).toNat = 48 := rfl
      omega
    · obtain ⟨c, r, h1, h2⟩ := ih (u / 10) (by omega) (by omega)
      exact ⟨c, r ++ [UInt8.ofNat (48 + u % 10)], by rw [dec_big h, h1]; rfl, h2⟩
theorem dec_zero (u : Nat) : zero (Lib.decDigits u) = false := by
  unfold zero
  by_cases hu : u = 0
  · subst hu; rw [Lib.decDigits_one (by omega)]; rfl
  · obtain ⟨c, r, h1, h2⟩ := dec_head u (by omega)
    rw [h1]
    simp [h2]
theorem dec_pos (u : Nat) : 0 < (Lib.decDigits u).length := by rw [Lib.decDigits_length]; exact Lib.nDigits_pos u
theorem itoa_dec (a : Int) (h : 0 ≤ a) : Lib.itoa a = Lib.decDigits a.toNat := by unfold Lib.itoa; rw [if_neg (by omega)]
theorem ncode_itoa (a : Int) (h0 : 0 ≤ a) (h1 : a ≤ 999999) : ncode (Lib.itoa a) = 0 := by
  have h6 := itoa_le a h0 h1
  rw [itoa_dec a h0] at h6 ⊢
  unfold ncode
  rw [num_six _ (by unfold digs allDig; rw [dec_dig]; simp [dec_pos]) (dec_zero _), if_neg (by omega)]
theorem all_no {f : UInt8 → Bool} {l : List UInt8} {c : UInt8} (h : l.all f = true) (hc : f c = false) : l.contains c = false := by
  cases hl : l.contains c
  · rfl
  · have := List.all_eq_true.1 h c (by simpa using hl)
    rw [hc] at this; cases this
theorem itoa_no (a : Int) (h0 : 0 ≤ a) (c : UInt8) (hc : dig c = false) : (Lib.itoa a).contains c = false := by rw [itoa_dec a h0]; exact all_no (dec_dig _) hc

theorem one_at {c : UInt8} {a b : List UInt8} (h : a.contains c = false) : one c (a ++ c :: b) = (a, b, true) := by
  have h1 : ∀ x, x ∈ a → (x != c) = true := by
    intro x hx
    simp at h ⊢
    intro e; subst e; exact h hx
  have e1 : (a ++ c :: b).takeWhile (· != c) = a := by
    rw [List.takeWhile_append_of_pos h1]; simp
  have e2 : (a ++ c :: b).dropWhile (· != c) = c :: b := by
    rw [List.dropWhile_append_of_pos h1]; simp
  unfold one
  rw [e1, e2]
  simp
theorem cut_join (c : UInt8) : ∀ (ps : List (List UInt8)), ps ≠ [] → (∀ p, p ∈ ps → p.contains c = false) → cutAt c (Lib.join ps [c]) = ps
  | [], h, _ => absurd rfl h
  | [p], _, h => by rw [Lib.join_one]; exact cut_last c p (h p (by simp))
  | p :: q :: r, _, h => by
    have : Lib.join (p :: q :: r) [c] = p ++ c :: Lib.join (q :: r) [c] := by
      rw [Lib.join_cons, Lib.join_cons]; simp [Lib.joinTail]
    rw [this, cut_step c p _ (h p (by simp)), cut_join c (q :: r) (by simp) (fun x hx => h x (by simp at hx ⊢; exact Or.inr hx))]
theorem part_no {p : List UInt8} (h : part p = 0) : p.contains 46 = false := by
  unfold part at h
  split at h
  · cases h
  · rename_i hn
    have : allPar p = true := by
      cases e : allPar p
      · exact absurd (Or.inr (Or.inr e)) hn
      · rfl
    exact all_no this (by decide)
theorem pre_parts {ps : List (List UInt8)} (h : pre ps = 0) : ∀ p, p ∈ ps → part p = 0 := by
  intro p hp
  unfold pre at h
  rw [preTo_worst _ (by split <;> simp)] at h
  unfold worst at h
  have hm : part p ∈ ps.map part := List.mem_map_of_mem hp
  rcases part_err p with e | e | e
  · exact e
  · rw [e] at hm; rw [if_pos (Or.inr hm)] at h; cases h
  · rw [e] at hm
    exfalso
    generalize (if 5 < ps.length then 2 else 0) = q at h
    by_cases g : q = 1 ∨ 1 ∈ ps.map part
    · rw [if_pos g] at h; omega
    · rw [if_neg g, if_pos (Or.inr hm)] at h; omega

def core (a b c : Int) : List UInt8 := Lib.itoa a ++ 46 :: (Lib.itoa b ++ 46 :: Lib.itoa c)
theorem core3_eq (a b c : Int) (l : List UInt8) : core3 a b c ++ l = 118 :: (core a b c ++ l) := by simp [core3, core]
theorem core_no (a b c : Int) (a0 : 0 ≤ a) (b0 : 0 ≤ b) (c0 : 0 ≤ c) : (core a b c).contains 45 = false := by
  have h1 := itoa_no a a0 45 (by decide)
  have h2 := itoa_no b b0 45 (by decide)
  have h3 := itoa_no c c0 45 (by decide)
  simp at h1 h2 h3
  simp [core, h1, h2, h3]
theorem core_cut (a b c : Int) (a0 : 0 ≤ a) (b0 : 0 ≤ b) (c0 : 0 ≤ c) : cutAt 46 (core a b c) = [Lib.itoa a, Lib.itoa b, Lib.itoa c] := by
  unfold core
  rw [cut_step 46 _ _ (itoa_no a a0 46 (by decide)), cut_step 46 _ _ (itoa_no b b0 46 (by decide)), cut_last 46 _ (itoa_no c c0 46 (by decide))]
theorem nums0 (a b c : Int) (a0 : 0 ≤ a) (a1 : a ≤ 999999) (b0 : 0 ≤ b) (b1 : b ≤ 999999) (c0 : 0 ≤ c) (c1 : c ≤ 999999) : numsErr [Lib.itoa a, Lib.itoa b, Lib.itoa c] = 0 := by
  rw [numsErr_ncode]
  simp [ncode_itoa, a0, a1, b0, b1, c0, c1, worst]

theorem read_core (a b c : Int) (ps : List (List UInt8)) (a0 : 0 ≤ a) (a1 : a ≤ 999999) (b0 : 0 ≤ b) (b1 : b ≤ 999999) (c0 : 0 ≤ c) (c1 : c ≤ 999999) :
    (ps = [] → verErr (core3 a b c ++ preText ps) = 0 ∧ preOf (core3 a b c ++ preText ps) = []) ∧
    (ps ≠ [] → verErr (core3 a b c ++ preText ps) = pre (cutAt 46 (Lib.join ps [46])) ∧ preOf (core3 a b c ++ preText ps) = cutAt 46 (Lib.join ps [46])) := by
  have hm : ∀ l, marked (118 :: l) = true := fun l => rfl
  have hr : ∀ l, restOf (118 :: l) = l := fun l => rfl
  rw [core3_eq]
  refine ⟨fun h => ?_, fun h => ?_⟩
  · subst h
    have e : one 45 (core a b c ++ preText []) = (core a b c, [], false) := by
      simp only [preText, List.append_nil]
      exact one_no (core_no a b c a0 b0 c0)
    have hc : coreOf (118 :: (core a b c ++ preText [])) = [Lib.itoa a, Lib.itoa b, Lib.itoa c] := by
      unfold coreOf; rw [hr, e]; exact core_cut a b c a0 b0 c0
    have hp : hasPre (118 :: (core a b c ++ preText [])) = false := by unfold hasPre; rw [hr, e]
    refine ⟨?_, by unfold preOf; rw [hp]; rfl⟩
    unfold verErr
    rw [hm, hc, hp, nums0 a b c a0 a1 b0 b1 c0 c1]
    simp
  · obtain ⟨p, r, rfl⟩ : ∃ p r, ps = p :: r := by cases ps with | nil => exact absurd rfl h | cons p r => exact ⟨p, r, rfl⟩
    have e : one 45 (core a b c ++ preText (p :: r)) = (core a b c, Lib.join (p :: r) [46], true) := by
      simp only [preText, List.singleton_append]
      exact one_at (core_no a b c a0 b0 c0)
    have hc : coreOf (118 :: (core a b c ++ preText (p :: r))) = [Lib.itoa a, Lib.itoa b, Lib.itoa c] := by
      unfold coreOf; rw [hr, e]; exact core_cut a b c a0 b0 c0
    have hp : hasPre (118 :: (core a b c ++ preText (p :: r))) = true := by unfold hasPre; rw [hr, e]
    have hpo : preOf (118 :: (core a b c ++ preText (p :: r))) = cutAt 46 (Lib.join (p :: r) [46]) := by unfold preOf; rw [hp, hr, e]; rfl
    refine ⟨?_, hpo⟩
    unfold verErr
    rw [hm, hc, hp, hpo, nums0 a b c a0 a1 b0 b1 c0 c1]
    rcases pre_err (cutAt 46 (Lib.join (p :: r) [46])) with e | e | e <;> simp [worse, e]

theorem textOf_law (a b c : Int) (ps : List (List UInt8)) (a0 : 0 ≤ a) (a1 : a ≤ 999999) (b0 : 0 ≤ b) (b1 : b ≤ 999999) (c0 : 0 ≤ c) (c1 : c ≤ 999999) :
    (verErr (core3 a b c ++ preText ps) = 0 → preOf (core3 a b c ++ preText ps) = ps → textOf a b c ps = core3 a b c ++ preText ps) ∧
    (verErr (core3 a b c ++ preText ps) ≠ 0 ∨ preOf (core3 a b c ++ preText ps) ≠ ps → textOf a b c ps = []) := by
  have hb : (inBB a && inBB b && inBB c) = true := by simp [inBB, a0, a1, b0, b1, c0, c1]
  obtain ⟨h1, h2⟩ := read_core a b c ps a0 a1 b0 b1 c0 c1
  by_cases hp : ps = []
  · obtain ⟨e1, e2⟩ := h1 hp
    refine ⟨fun _ _ => ?_, fun h => ?_⟩
    · rw [textOf_pre, hb, hp]; rfl
    · rcases h with h | h
      · exact absurd e1 h
      · exact absurd (e2.trans hp.symm) h
  · obtain ⟨e1, e2⟩ := h2 hp
    refine ⟨fun g1 g2 => ?_, fun h => ?_⟩
    · have : pre ps = 0 := by rw [e1] at g1; rw [e2] at g2; rw [g2] at g1; exact g1
      rw [textOf_pre, hb, this]; rfl
    · rw [textOf_pre, hb]
      by_cases h0 : pre ps = 0
      · exfalso
        have hc := cut_join 46 ps hp fun p hp => part_no (pre_parts h0 p hp)
        rw [e1, e2, hc] at h
        rcases h with h | h
        · exact h h0
        · exact h rfl
      · rw [if_neg (by simp [h0])]
theorem textOf_out (a b c : Int) (ps : List (List UInt8)) (h : (inBB a && inBB b && inBB c) = false) : textOf a b c ps = [] := by rw [textOf_pre, h]; rfl

end Ve
end Go.Proofs.YtmgpapghdbopiaaDoor
