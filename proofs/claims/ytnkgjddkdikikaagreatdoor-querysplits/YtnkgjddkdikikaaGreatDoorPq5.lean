/-
  VerB PreT RefH VerG RefA RefE VerR RefG VerM VerO RefF VerQ VerS OrdP OrdI OrdD OrdQ
-/
import Derived.Shelf.SlSortCmp.WholeK
import Derived.Shelf.SlGeneric
import Derived.Laws.AppendOwnNone
import Derived.Test.YtnkgjddkdikikaaGreatDoorPq2
import Derived.Test.YtnkgjddkdikikaaGreatDoorPq3
import Derived.WalkSmall
import Derived.Shelf.Strconv.Itoa3
import Derived.Deep.RegionHeld
import Derived.Test.YtnkgjddkdikikaaGreatDoorPq4
import Derived.Test.YtnkgjddkdikikaaGreatDoorPq7
import Derived.Test.YtnkgjddkdikikaaGreatDoorPq10
import Derived.Test.YtnkgjddkdikikaaGreatDoorPq13
namespace Go.Proofs.YtnkgjddkdikikaaGreatDoor
open Go.RowKit
namespace Ve
def inBB (n : Int) : Bool := decide (0 ≤ n ∧ n ≤ 999999)
end Ve
end Go.Proofs.YtnkgjddkdikikaaGreatDoor
namespace Go.Proofs.YtnkgjddkdikikaaGreatDoor
open Go.RowKit
namespace Ve
theorem dec_big {u : Nat} (h : ¬ u < 10) : Lib.decDigits u = Lib.decDigits (u / 10) ++ [UInt8.ofNat (48 + u % 10)] := by rw [Lib.decDigits, dif_neg h]
def preText : List (List UInt8) → List UInt8
  | [] => []
  | p :: r => [45] ++ Lib.join (p :: r) [46]
end Ve
end Go.Proofs.YtnkgjddkdikikaaGreatDoor
namespace Go.Proofs.YtnkgjddkdikikaaGreatDoor
open Go.RowKit
namespace Ve
theorem one_yes {c : UInt8} {l : List UInt8} (h : l.contains c = true) : ∃ j, ∃ hj : j < l.length, l[j] = c ∧ (∀ k (hk : k < l.length), k < j → l[k] ≠ c) ∧ (one c l).1 = l.take j ∧ (one c l).2.1 = l.drop (j + 1) := by
  induction l with
  | nil => simp at h
  | cons a r ih =>
    by_cases e : a = c
    · subst e
      exact ⟨0, by simp, rfl, fun k hk h0 => absurd h0 (by omega), by simp [one], by simp [one]⟩
    · have hr : r.contains c = true := by
        simp at h ⊢
        rcases h with h | h
        · exact absurd h.symm e
        · exact h
      obtain ⟨j, hj, h1, h2, h3, h4⟩ := ih hr
      refine ⟨j + 1, by simp; omega, by simpa using h1, ?_, ?_, ?_⟩
      · intro k hk hkj
        cases k with
        | zero => simpa using e
        | succ k => simpa using h2 k (by simp at hk; omega) (by omega)
      · have : (a != c) = true := by simp [e]
        simp only [one, List.takeWhile_cons, this, if_true, List.take_succ_cons] at h3 ⊢
        rw [h3]
      · have : (a != c) = true := by simp [e]
        simp only [one, List.dropWhile_cons, this, if_true, List.drop_succ_cons] at h4 ⊢
        rw [h4]
end Ve
end Go.Proofs.YtnkgjddkdikikaaGreatDoor
namespace Go.Proofs.YtnkgjddkdikikaaGreatDoor
open Go.RowKit Go.Sort
namespace Ve
def core3 (a b c : Int) : List UInt8 := [118] ++ Lib.itoa a ++ [46] ++ Lib.itoa b ++ [46] ++ Lib.itoa c
def textOf (a b c : Int) (ps : List (List UInt8)) : List UInt8 :=
  if inBB a && inBB b && inBB c && pre ps == 0 then (if ps.isEmpty then core3 a b c else core3 a b c ++ [45] ++ Lib.join ps [46]) else []
end Ve
end Go.Proofs.YtnkgjddkdikikaaGreatDoor
namespace Go.Proofs.YtnkgjddkdikikaaGreatDoor
open Go.RowKit
namespace Ve
def valTo (n : Int) (l : List UInt8) : Int := l.foldl (fun n c => 10 * n + ((c.toNat : Int) - 48)) n
theorem valTo_snoc (n : Int) (l : List UInt8) (c : UInt8) : valTo n (l ++ [c]) = 10 * valTo n l + ((c.toNat : Int) - 48) := by simp [valTo, List.foldl_append]
theorem dig_bd {c : UInt8} (h : dig c = true) : 48 ≤ (c.toNat : Int) ∧ (c.toNat : Int) ≤ 57 := by simpa [dig, digB] using h
theorem valTo_bd : ∀ (l : List UInt8) (n : Int), l.all dig = true → 0 ≤ n → n * 10 ^ l.length ≤ valTo n l ∧ valTo n l < (n + 1) * 10 ^ l.length := by
  intro l
  induction l with
  | nil => intro n _ h; simp [valTo]; omega
  | cons c r ih =>
    intro n ha h0
    simp only [List.all_cons, Bool.and_eq_true] at ha
    have hc := dig_bd ha.1
    have := ih (10 * n + ((c.toNat : Int) - 48)) ha.2 (by omega)
    show n * 10 ^ (r.length + 1) ≤ valTo (10 * n + ((c.toNat : Int) - 48)) r ∧ valTo (10 * n + ((c.toNat : Int) - 48)) r < (n + 1) * 10 ^ (r.length + 1)
    have hp : (0 : Int) < 10 ^ r.length := Int.pow_pos (by decide)
    have e1 : n * 10 ^ (r.length + 1) = (10 * n) * 10 ^ r.length := by rw [Int.pow_succ]; rw [Int.mul_comm (10 ^ r.length) 10, ← Int.mul_assoc, Int.mul_comm n 10]
    have e2 : (n + 1) * 10 ^ (r.length + 1) = (10 * (n + 1)) * 10 ^ r.length := by rw [Int.pow_succ]; rw [Int.mul_comm (10 ^ r.length) 10, ← Int.mul_assoc, Int.mul_comm (n + 1) 10]
    rw [e1, e2]
    constructor
    · exact Int.le_trans (Int.mul_le_mul_of_nonneg_right (by omega) (Int.le_of_lt hp)) this.1
    · exact Int.lt_of_lt_of_le this.2 (Int.mul_le_mul_of_nonneg_right (by omega) (Int.le_of_lt hp))
theorem numTo_val : ∀ (l : List UInt8) (n : Int), l.all dig = true → 0 ≤ n → numTo (min n 1000000) l = min (valTo n l) 1000000 := by
  intro l
  induction l with
  | nil => intro n _ _; rfl
  | cons c r ih =>
    intro n ha h0
    simp only [List.all_cons, Bool.and_eq_true] at ha
    have hc := dig_bd ha.1
    have := ih (10 * n + ((c.toNat : Int) - 48)) ha.2 (by omega)
    show numTo (min (min n 1000000 * 10 + ((c.toNat : Int) - 48)) 1000000) r = min (valTo (10 * n + ((c.toNat : Int) - 48)) r) 1000000
    rw [← this]
    congr 1
    omega
theorem num_six (l : List UInt8) (h : digs l = true) (h0 : zero l = false) : num l = if 6 < l.length then (0, 2) else (valTo 0 l, 0) := by
  have had : l.all dig = true := by unfold digs at h; simp at h; exact h.2
  have hpos : 0 < l.length := by unfold digs at h; simp at h; exact h.1
  have e := numTo_val l 0 had (by omega)
  rw [show min (0 : Int) 1000000 = 0 by omega] at e
  have hb := valTo_bd l 0 had (by omega)
  unfold num
  rw [h, h0, e]
  simp only [Bool.not_true, Bool.or_false, Bool.false_eq_true, if_false]
  by_cases h6 : 6 < l.length
  · rw [if_pos h6]
    have hbig : 999999 < valTo 0 l := by
      cases l with
      | nil => simp at hpos
      | cons c r =>
        simp only [List.all_cons, Bool.and_eq_true] at had
        have hc := dig_bd had.1
        have hc48 : (c.toNat : Int) ≠ 48 := by
          intro hh
          have : c = 48 := by apply UInt8.toNat_inj.1; show c.toNat = 48; omega
          subst this
          simp [zero] at h0
          have : r.length + 1 > 6 := h6
          have h7 : r ≠ [] := by intro hr; subst hr; simp at this
          exact h7 h0
        have hv := (valTo_bd r (10 * 0 + ((c.toNat : Int) - 48)) had.2 (by omega)).1
        have hr : 6 ≤ r.length := by simp at h6; omega
        have hp : (1000000 : Int) ≤ 10 ^ r.length := by
          have := Nat.pow_le_pow_right (n := 10) (by omega) hr
          have h8 : ((10 ^ 6 : Nat) : Int) ≤ ((10 ^ r.length : Nat) : Int) := by exact_mod_cast this
          simpa using h8
        have h9 : (10 : Int) ^ r.length ≤ (10 * 0 + ((c.toNat : Int) - 48)) * 10 ^ r.length := by
          have := Int.mul_le_mul_of_nonneg_right (a := 1) (b := 10 * 0 + ((c.toNat : Int) - 48)) (c := 10 ^ r.length) (by omega) (by omega)
          simpa using this
        show 999999 < valTo (10 * 0 + ((c.toNat : Int) - 48)) r
        omega
    rw [if_neg (by omega)]
  · rw [if_neg h6]
    have hp : (10 : Int) ^ l.length ≤ 1000000 := by
      have := Nat.pow_le_pow_right (n := 10) (by omega) (show l.length ≤ 6 by omega)
      have h8 : ((10 ^ l.length : Nat) : Int) ≤ ((10 ^ 6 : Nat) : Int) := by exact_mod_cast this
      simpa using h8
    have : valTo 0 l < 1000000 := by have := hb.2; simp at this; omega
    rw [if_pos (by omega), show min (valTo 0 l) 1000000 = valTo 0 l by omega]
theorem val_le (l : List UInt8) (h : l.all dig = true) (h6 : l.length ≤ 6) : 0 ≤ valTo 0 l ∧ valTo 0 l < 1000000 := by
  have hb := valTo_bd l 0 h (by omega)
  have hp : (10 : Int) ^ l.length ≤ 1000000 := by
    have := Nat.pow_le_pow_right (n := 10) (by omega) h6
    have h8 : ((10 ^ l.length : Nat) : Int) ≤ ((10 ^ 6 : Nat) : Int) := by exact_mod_cast this
    simpa using h8
  have h1 := hb.1
  have h2 := hb.2
  simp at h1 h2
  omega
end Ve
end Go.Proofs.YtnkgjddkdikikaaGreatDoor
namespace Go.Proofs.YtnkgjddkdikikaaGreatDoor
open Go.RowKit
namespace Ve
def worst (b : Nat) (cs : List Nat) : Nat := if b = 1 ∨ 1 ∈ cs then 1 else if b = 2 ∨ 2 ∈ cs then 2 else 0
theorem worst_fold {α : Type} (f : α → Nat) (hf : ∀ x, f x = 0 ∨ f x = 1 ∨ f x = 2) : ∀ (ps : List α) (b : Nat), (b = 0 ∨ b = 1 ∨ b = 2) → ps.foldl (fun b p => worse b (f p)) b = worst b (ps.map f) := by
  intro ps
  induction ps with
  | nil =>
    intro b hb
    rcases hb with rfl | rfl | rfl <;> simp [worst]
  | cons p r ih =>
    intro b hb
    rw [List.foldl_cons, ih _ (worse_err hb (hf p))]
    rcases hb with rfl | rfl | rfl <;> rcases hf p with h | h | h <;> simp [worst, worse, h]
theorem numsErr_worst (ps : List (List UInt8)) : numsErr ps = worst 0 (ps.map fun p => (num p).2) := worst_fold _ num_err ps 0 (Or.inl rfl)
end Ve
end Go.Proofs.YtnkgjddkdikikaaGreatDoor
namespace Go.Proofs.YtnkgjddkdikikaaGreatDoor
namespace Ve
theorem cb_range : ∀ (a b : List UInt8), Lib.compareBytes a b = -1 ∨ Lib.compareBytes a b = 0 ∨ Lib.compareBytes a b = 1
  | [], [] => by simp [Lib.compareBytes]
  | [], _ :: _ => by simp [Lib.compareBytes]
  | _ :: _, [] => by simp [Lib.compareBytes]
  | a :: x, b :: y => by
    unfold Lib.compareBytes
    split
    · simp
    · split
      · simp
      · exact cb_range x y
end Ve
end Go.Proofs.YtnkgjddkdikikaaGreatDoor
namespace Go.Proofs.YtnkgjddkdikikaaGreatDoor
open Go.RowKit
namespace Ve
def ncode (p : List UInt8) : Nat := (num p).2
theorem numsErr_ncode (ps : List (List UInt8)) : numsErr ps = worst 0 (ps.map ncode) := numsErr_worst ps
end Ve
end Go.Proofs.YtnkgjddkdikikaaGreatDoor
namespace Go.Proofs.YtnkgjddkdikikaaGreatDoor
open Go.RowKit
namespace Ve
theorem textOf_pre (a b c : Int) (ps : List (List UInt8)) : textOf a b c ps = if inBB a && inBB b && inBB c && pre ps == 0 then core3 a b c ++ preText ps else [] := by
  unfold textOf
  cases ps with
  | nil => simp [preText]
  | cons p r => simp [preText]
end Ve
end Go.Proofs.YtnkgjddkdikikaaGreatDoor
namespace Go.Proofs.YtnkgjddkdikikaaGreatDoor
open Go.RowKit
namespace Ve
theorem itoa_dec (a : Int) (h : 0 ≤ a) : Lib.itoa a = Lib.decDigits a.toNat := by unfold Lib.itoa; rw [if_neg (by omega)]
def core (a b c : Int) : List UInt8 := Lib.itoa a ++ 46 :: (Lib.itoa b ++ 46 :: Lib.itoa c)
theorem core3_eq (a b c : Int) (l : List UInt8) : core3 a b c ++ l = 118 :: (core a b c ++ l) := by simp [core3, core]
end Ve
end Go.Proofs.YtnkgjddkdikikaaGreatDoor
namespace Go.Proofs.YtnkgjddkdikikaaGreatDoor
open Go.RowKit
namespace Ve
theorem rest_drop {l : List UInt8} (h : marked l = true) : restOf l = l.drop 1 := by unfold restOf; rw [if_pos h]
theorem one_no {c : UInt8} {l : List UInt8} (h : l.contains c = false) : one c l = (l, [], false) := by
  unfold one
  have h1 : ∀ x, x ∈ l → (x != c) = true := by
    intro x hx
    simp at h ⊢
    intro e; subst e; exact h hx
  have e1 : l.takeWhile (· != c) = l := by
    induction l with
    | nil => rfl
    | cons a r ih =>
      have := h1 a (List.mem_cons_self)
      simp only [List.takeWhile_cons, this, if_true]
      rw [ih (by simp at h ⊢; exact h.2) (fun x hx => h1 x (List.mem_cons_of_mem _ hx))]
  have e2 := List.takeWhile_append_dropWhile (p := (· != c)) (l := l)
  rw [e1] at e2
  have e3 : l.dropWhile (· != c) = [] := by
    have := congrArg List.length e2
    simp at this
    exact this
  rw [e1, e3, h]; rfl
end Ve
end Go.Proofs.YtnkgjddkdikikaaGreatDoor
namespace Go.Proofs.YtnkgjddkdikikaaGreatDoor
namespace Ve
theorem val_dec : ∀ (n : Nat) (p : List UInt8), p.length = n + 1 → p.all dig = true → (n = 0 ∨ p.headD 0 ≠ 48) → Lib.decDigits (valTo 0 p).toNat = p
  | 0, p, hl, hd, _ => by
    obtain ⟨c, rfl⟩ := List.length_eq_one_iff.1 hl
    have hc : dig c = true := by simpa using hd
    have hb := dig_bd hc
    have : valTo 0 [c] = (c.toNat : Int) - 48 := by simp [valTo]
    rw [this, Lib.decDigits_one (by omega)]
    congr 1
    apply UInt8.toNat_inj.1
    rw [show 48 + ((c.toNat : Int) - 48).toNat = c.toNat by omega]
    simp
  | n + 1, p, hl, hd, hz => by
    have hne : p ≠ [] := by intro h; subst h; simp at hl
    obtain ⟨q, c, rfl⟩ : ∃ q c, p = q ++ [c] := ⟨p.dropLast, p.getLast hne, (List.dropLast_concat_getLast hne).symm⟩
    rw [all_snoc, Bool.and_eq_true] at hd
    have hql : q.length = n + 1 := by simpa using hl
    have hh : q.headD 0 ≠ 48 := by
      rcases hz with h | h
      · cases h
      · cases q with
        | nil => simp at hql
        | cons x r => simpa using h
    have ih := val_dec n q hql hd.1 (Or.inr hh)
    have hb := dig_bd hd.2
    have hpos : 1 ≤ valTo 0 q := by
      cases q with
      | nil => simp at hql
      | cons x r =>
        have hx := dig_bd (c := x) (by have := hd.1; simp at this; exact this.1)
        have hx0 : x ≠ 48 := by simpa using hh
        have hx1 : x.toNat ≠ 48 := fun e => hx0 (UInt8.toNat_inj.1 (by rw [e]; rfl))
        have h2 := (valTo_bd r ((x.toNat : Int) - 48) (by have := hd.1; simp only [List.all_cons, Bool.and_eq_true] at this; exact this.2) (by omega)).1
        have h3 : valTo 0 (x :: r) = valTo ((x.toNat : Int) - 48) r := by simp [valTo]
        have h4 : (1 : Int) ≤ 10 ^ r.length := by
          have : (0 : Int) < 10 ^ r.length := Int.pow_pos (by omega)
          omega
        rw [h3]
        have h5 : (1 : Int) * 1 ≤ ((x.toNat : Int) - 48) * 10 ^ r.length := Int.mul_le_mul (by omega) h4 (by omega) (by omega)
        omega
    rw [valTo_snoc]
    have e1 : (10 * valTo 0 q + ((c.toNat : Int) - 48)).toNat / 10 = (valTo 0 q).toNat := by omega
    have e2 : (10 * valTo 0 q + ((c.toNat : Int) - 48)).toNat % 10 = c.toNat - 48 := by omega
    rw [dec_big (by omega), e1, e2, ih]
    congr 2
    apply UInt8.toNat_inj.1
    rw [show 48 + (c.toNat - 48) = c.toNat by omega]
    simp
theorem itoa_num (p : List UInt8) (h : (num p).2 = 0) : Lib.itoa (num p).1 = p ∧ 0 ≤ (num p).1 ∧ (num p).1 ≤ 999999 := by
  have hd : digs p = true := by
    cases e : digs p
    · unfold num at h; rw [e] at h; simp at h
    · rfl
  have hz : zero p = false := by
    cases e : zero p
    · rfl
    · unfold num at h; rw [e] at h; simp at h
  have hs := num_six p hd hz
  by_cases h6 : 6 < p.length
  · rw [if_pos h6] at hs; rw [hs] at h; cases h
  · rw [if_neg h6] at hs
    have hda : p.all dig = true := by unfold digs at hd; simp only [Bool.and_eq_true] at hd; exact hd.2
    have hpos : 0 < p.length := by unfold digs at hd; simp only [Bool.and_eq_true, decide_eq_true_eq] at hd; exact hd.1
    have hb := val_le p hda (by omega)
    rw [hs]
    refine ⟨?_, hb.1, by show valTo 0 p ≤ 999999; omega⟩
    show Lib.itoa (valTo 0 p) = p
    rw [itoa_dec _ hb.1]
    refine val_dec (p.length - 1) p (by omega) hda ?_
    by_cases h1 : p.length - 1 = 0
    · exact Or.inl h1
    · refine Or.inr fun e => ?_
      unfold zero at hz
      rw [e] at hz
      simp at hz
      omega
theorem one_back {c : UInt8} {l : List UInt8} (h : (one c l).2.2 = true) : l = (one c l).1 ++ c :: (one c l).2.1 := by
  obtain ⟨j, hj, e, _, e1, e2⟩ := one_yes (c := c) (l := l) h
  rw [e1, e2, ← e, List.getElem_cons_drop, List.take_append_drop]
theorem one_none {c : UInt8} {l : List UInt8} (h : (one c l).2.2 = false) : (one c l).1 = l := by rw [one_no h]
theorem worst0 {b : Nat} {cs : List Nat} (h : worst b cs = 0) : 1 ∉ cs ∧ 2 ∉ cs := by
  unfold worst at h
  by_cases h1 : b = 1 ∨ 1 ∈ cs
  · rw [if_pos h1] at h; omega
  · rw [if_neg h1] at h
    by_cases h2 : b = 2 ∨ 2 ∈ cs
    · rw [if_pos h2] at h; omega
    · exact ⟨fun h => h1 (Or.inr h), fun h => h2 (Or.inr h)⟩
theorem ncode0 {ps : List (List UInt8)} (h : numsErr ps = 0) : ∀ p, p ∈ ps → (num p).2 = 0 := by
  intro p hp
  rw [numsErr_ncode] at h
  obtain ⟨h1, h2⟩ := worst0 h
  have hm : ncode p ∈ ps.map ncode := List.mem_map_of_mem hp
  rcases num_err p with e | e | e
  · exact e
  · exact absurd (show ncode p = 1 from e) (fun e => h1 (e ▸ hm))
  · exact absurd (show ncode p = 2 from e) (fun e => h2 (e ▸ hm))
theorem text_back (l : List UInt8) (h : verErr l = 0) : textOf (nAt l 0) (nAt l 1) (nAt l 2) (preOf l) = l := by
  unfold verErr at h
  by_cases hc : marked l = false ∨ (coreOf l).length ≠ 3
  · rw [if_pos hc] at h; omega
  rw [if_neg hc] at h
  have hm : marked l = true := by
    cases e : marked l
    · exact absurd (Or.inl e) hc
    · rfl
  have h3 : (coreOf l).length = 3 := by
    rcases Nat.decEq (coreOf l).length 3 with h | h
    · exact absurd (Or.inr h) hc
    · exact h
  have hl : l = 118 :: restOf l := by
    rw [rest_drop hm]
    cases l with
    | nil => cases hm
    | cons b r =>
      have : b = 118 := by simpa [marked] using hm
      rw [this]; rfl
  obtain ⟨hn, hp⟩ : numsErr (coreOf l) = 0 ∧ pre (preOf l) = 0 := by
    cases e : hasPre l
    · rw [e] at h
      exact ⟨h, by unfold preOf; rw [e]; rfl⟩
    · rw [e] at h
      have h' : worse (numsErr (coreOf l)) (pre (preOf l)) = 0 := h
      unfold worse at h'
      by_cases q : numsErr (coreOf l) = 1 ∨ pre (preOf l) = 0
      · rw [if_pos q] at h'
        refine ⟨h', ?_⟩
        rcases q with q | q
        · omega
        · exact q
      · rw [if_neg q] at h'; exact absurd (Or.inr h') q
  obtain ⟨p0, p1, p2, hco⟩ : ∃ p0 p1 p2, coreOf l = [p0, p1, p2] := by
    match e : coreOf l, h3 with
    | [a, b, c], _ => exact ⟨a, b, c, rfl⟩
  have hz := ncode0 hn
  rw [hco] at hz
  have n0 : nAt l 0 = (num p0).1 := by simp [nAt, numsOf, hco]
  have n1 : nAt l 1 = (num p1).1 := by simp [nAt, numsOf, hco]
  have n2 : nAt l 2 = (num p2).1 := by simp [nAt, numsOf, hco]
  obtain ⟨i0, l0, u0⟩ := itoa_num p0 (hz p0 (by simp))
  obtain ⟨i1, l1, u1⟩ := itoa_num p1 (hz p1 (by simp))
  obtain ⟨i2, l2, u2⟩ := itoa_num p2 (hz p2 (by simp))
  have hin : (inBB (num p0).1 && inBB (num p1).1 && inBB (num p2).1) = true := by simp [inBB, l0, u0, l1, u1, l2, u2]
  have hj : (one 45 (restOf l)).1 = core (num p0).1 (num p1).1 (num p2).1 := by
    have e := join_cut 46 (one 45 (restOf l)).1
    have hco' : cutAt 46 (one 45 (restOf l)).1 = [p0, p1, p2] := hco
    rw [hco'] at e
    rw [← e, Lib.join_cons]
    unfold core
    rw [i0, i1, i2]
    simp [Lib.joinTail]
  rw [n0, n1, n2, textOf_pre, hin, hp]
  show core3 _ _ _ ++ preText (preOf l) = l
  rw [core3_eq]
  conv => rhs; rw [hl]
  congr 1
  cases e : hasPre l
  · have e1 : (one 45 (restOf l)).2.2 = false := e
    have e2 := one_none e1
    have e3 : preOf l = [] := by unfold preOf; rw [e]; rfl
    rw [e3, ← hj, e2]
    simp [preText]
  · have e1 : (one 45 (restOf l)).2.2 = true := e
    have e2 := one_back e1
    have e3 : preOf l = cutAt 46 (one 45 (restOf l)).2.1 := by unfold preOf; rw [e]; rfl
    have e4 : preText (preOf l) = 45 :: (one 45 (restOf l)).2.1 := by
      rw [e3]
      have e5 := join_cut 46 (one 45 (restOf l)).2.1
      obtain ⟨x, r, ex⟩ : ∃ x r, cutAt 46 (one 45 (restOf l)).2.1 = x :: r := by
        cases ex : cutAt 46 (one 45 (restOf l)).2.1 with
        | nil => exact absurd ex (cutAt_ne _ _)
        | cons x r => exact ⟨x, r, rfl⟩
      rw [ex] at e5 ⊢
      simp only [preText]
      rw [e5]; rfl
    rw [e4, ← hj]
    exact e2.symm
end Ve
end Go.Proofs.YtnkgjddkdikikaaGreatDoor
namespace Go.Proofs.YtnkgjddkdikikaaGreatDoor
namespace Ve
def rises (l : List (List UInt8)) : Prop := l.Pairwise fun s t => ordV s t < 0
end Ve
end Go.Proofs.YtnkgjddkdikikaaGreatDoor
namespace Go.Proofs.YtnkgjddkdikikaaGreatDoor
namespace Ve
theorem ordPs_zero : ∀ (a b : List (List UInt8)), ordPs a b = 0 ↔ a = b
  | [], [] => by simp [ordPs]
  | [], _ :: _ => by simp [ordPs]
  | _ :: _, [] => by simp [ordPs]
  | x :: xs, y :: ys => by
    unfold ordPs
    rw [fst_zero, ordPart_zero, ordPs_zero xs ys]
    simp
theorem ordPre_zero (a b : List (List UInt8)) : ordPre a b = 0 ↔ a = b := by
  unfold ordPre
  by_cases h : a = [] ∨ b = []
  · rw [if_pos h, ci_zero]
    constructor
    · intro e
      rcases h with h | h
      · subst h; simp at e; exact e.symm
      · subst h; simp at e; exact List.length_eq_zero_iff.1 (by omega)
    · intro e; subst e; rfl
  · rw [if_neg h]; exact ordPs_zero a b
theorem ordV_zero {s t : List UInt8} (hs : verErr s = 0) (ht : verErr t = 0) : ordV s t = 0 ↔ s = t := by
  unfold ordV ordN
  rw [fst_zero, fst_zero, fst_zero, ci_zero, ci_zero, ci_zero, ordPre_zero]
  constructor
  · rintro ⟨h0, h1, h2, h3⟩
    rw [← text_back s hs, ← text_back t ht, h0, h1, h2, h3]
  · intro h; subst h; exact ⟨rfl, rfl, rfl, rfl⟩
end Ve
end Go.Proofs.YtnkgjddkdikikaaGreatDoor
namespace Go.Proofs.YtnkgjddkdikikaaGreatDoor
open Go.RowKit
namespace Ve
abbrev Rc := List UInt8 × Value
def rcells (r : Rc) : List Value := [.int .i64 (nAt r.1 0), .int .i64 (nAt r.1 1), .int .i64 (nAt r.1 2), r.2]
def RcAt (W : World) (g : Nat) (r : Rc) : Prop := verErr r.1 = 0 ∧ r.1.length ≤ 80 ∧ StrsAt W r.2 (strs (preOf r.1)) ∧ ∀ b o s n c, r.2 = .slice (some ⟨b, o, s⟩) n c → b ≠ g
structure Rw (w0 W : World) (g : Nat) (D : List Rc) : Prop where
  bl : Below w0.heap.size w0 W
  lo : w0.heap.size ≤ g
  hi : g < W.heap.size
  fz : ∀ o, W.frozen? ⟨g, o, none⟩ = false
  rc : ∀ r, r ∈ D → RcAt W g r
  c0 : ∀ j (h : j < D.length), W.cell? ⟨g, j * 4, none⟩ = some (.int .i64 (nAt D[j].1 0))
  c1 : ∀ j (h : j < D.length), W.cell? ⟨g, j * 4 + 1, none⟩ = some (.int .i64 (nAt D[j].1 1))
  c2 : ∀ j (h : j < D.length), W.cell? ⟨g, j * 4 + 2, none⟩ = some (.int .i64 (nAt D[j].1 2))
  c3 : ∀ j (h : j < D.length), W.cell? ⟨g, j * 4 + 3, none⟩ = some D[j].2
theorem Rw.at {w0 W : World} {g : Nat} {D : List Rc} (h : Rw w0 W g D) {j : Nat} {r : Rc} (hj : D[j]? = some r) :
    W.cell? ⟨g, j * 4, none⟩ = some (.int .i64 (nAt r.1 0)) ∧ W.cell? ⟨g, j * 4 + 1, none⟩ = some (.int .i64 (nAt r.1 1)) ∧ W.cell? ⟨g, j * 4 + 2, none⟩ = some (.int .i64 (nAt r.1 2)) ∧ W.cell? ⟨g, j * 4 + 3, none⟩ = some r.2 := by
  obtain ⟨hl, rfl⟩ := List.getElem?_eq_some_iff.1 hj
  exact ⟨h.c0 j hl, h.c1 j hl, h.c2 j hl, h.c3 j hl⟩
end Ve
end Go.Proofs.YtnkgjddkdikikaaGreatDoor
namespace Go.Proofs.YtnkgjddkdikikaaGreatDoor
open Go.RowKit
namespace Ve
structure Os (w W : World) (P Q ga gb ca cb : Nat) (X Y : List ByteArray) : Prop where
  bl : Below w.heap.size w W
  p3 : W.cell? ⟨P, 3, none⟩ = some (.slice (some ⟨ga, 0, none⟩) X.length ca)
  q3 : W.cell? ⟨Q, 3, none⟩ = some (.slice (some ⟨gb, 0, none⟩) Y.length cb)
  xs : ∀ j (hj : j < X.length), W.cell? ⟨ga, j, none⟩ = some (.string X[j])
  ys : ∀ j (hj : j < Y.length), W.cell? ⟨gb, j, none⟩ = some (.string Y[j])
end Ve
end Go.Proofs.YtnkgjddkdikikaaGreatDoor
namespace Go.Proofs.YtnkgjddkdikikaaGreatDoor
open Go.RowKit
namespace Ve
def flat (D : List Rc) : List Value := D.flatMap rcells
theorem flat_get : ∀ (D : List Rc) (j c : Nat) (hj : j < D.length) (_ : c < 4), (flat D)[j * 4 + c]? = (rcells D[j])[c]?
  | [], _, _, hj, _ => absurd hj (Nat.not_lt_zero _)
  | r :: R, 0, c, _, hc => by
    have : flat (r :: R) = rcells r ++ flat R := rfl
    rw [this, List.getElem?_append_left (by show 0 * 4 + c < 4; omega)]
    simp
  | r :: R, j + 1, c, hj, hc => by
    have : flat (r :: R) = rcells r ++ flat R := rfl
    have hl : (rcells r).length = 4 := rfl
    rw [this, List.getElem?_append_right (by rw [hl]; omega), hl, show (j + 1) * 4 + c - 4 = j * 4 + c by omega]
    exact flat_get R j c (by simpa using hj) hc
structure Fd (w0 W : World) (v : Value) (D : List Rc) : Prop where
  own : W.ownsRow w0.heap.size 37 4 v D.length (flat D)
  nl : D = [] → v = .slice none 0 0
  bl : Below w0.heap.size w0 W
  rc : ∀ r, r ∈ D → verErr r.1 = 0 ∧ r.1.length ≤ 80 ∧ StrsAt W r.2 (strs (preOf r.1))
theorem own_cells {w : World} {base : Nat} {e : TypeId} {v : Value} {D : List Rc} (h : w.ownsRow base e 4 v D.length (flat D)) (hD : D ≠ []) : ∃ g cap, v = .slice (some ⟨g, 0, none⟩) D.length cap ∧ base ≤ g ∧ g < w.heap.size ∧ D.length ≤ cap ∧ cap ≤ maxLen ∧ (∀ o, w.frozen? ⟨g, o, none⟩ = false) ∧
    ∀ j c (hj : j < D.length) (_ : c < 4), w.cell? ⟨g, j * 4 + c, none⟩ = (rcells D[j])[c]? := by
  obtain ⟨_, ⟨_, hn0⟩ | ⟨g, cap, cur, hv, hg, hblk, hcap, hcm, hcs, hct⟩⟩ := h
  · exact absurd (List.length_eq_zero_iff.1 hn0) hD
  · refine ⟨g, cap, hv, hg, lt_of_blk hblk, hcap, hcm, fun o => by simp [World.frozen?, hblk], fun j c hj hc => ?_⟩
    have h1 := flat_get D j c hj hc
    rw [← hct, List.getElem?_take, if_pos (by omega)] at h1
    simp only [World.cell?, hblk]
    rw [← h1]; simp
theorem own_apart {w : World} {base : Nat} {e : TypeId} {v : Value} {D : List Rc} (h : w.ownsRow base e 4 v D.length (flat D)) (hnl : D = [] → v = .slice none 0 0) {p : Value} {X : List ByteArray} (hs : StrsAt w p X) : ∀ b o s n c, p = .slice (some ⟨b, o, s⟩) n c → v.ownBlock ≠ some b := by
  intro b o s n c hp hv
  by_cases hD : D = []
  · rw [hnl hD] at hv; cases hv
  · obtain ⟨g, cap, hvv, _, _, _, _, _, hc⟩ := own_cells h hD
    rw [hvv] at hv
    have hgb : g = b := by simpa [Value.ownBlock] using hv
    rcases hs with ⟨_, h0⟩ | ⟨hX, b', h1, _, h3⟩
    · rw [h0] at hp; cases hp
    · rw [h1] at hp
      have hbb : b' = b := by injection hp with hp _ _; injection hp with hp; injection hp with hp _ _
      have h4 := h3 0 (List.length_pos_iff.2 hX)
      have h5 := hc 0 0 (List.length_pos_iff.2 hD) (by omega)
      rw [hbb, ← hgb] at h4
      rw [show 0 * 4 + 0 = 0 + 0 from rfl, h4] at h5
      simp [rcells] at h5
theorem Fd.rw {w0 W : World} {v : Value} {D : List Rc} (h : Fd w0 W v D) (hD : D ≠ []) : ∃ g cap, v = .slice (some ⟨g, 0, none⟩) D.length cap ∧ Rw w0 W g D := by
  obtain ⟨g, cap, rfl, h1, h2, _, _, h5, h6⟩ := own_cells h.own hD
  refine ⟨g, cap, rfl, h.bl, h1, h2, h5, fun r hr => ⟨(h.rc r hr).1, (h.rc r hr).2.1, (h.rc r hr).2.2, fun b o s n c e => ?_⟩, fun j hj => h6 j 0 hj (by omega), fun j hj => h6 j 1 hj (by omega), fun j hj => h6 j 2 hj (by omega), fun j hj => h6 j 3 hj (by omega)⟩
  have := own_apart h.own h.nl (h.rc r hr).2.2 b o s n c e
  intro e2
  exact this (by simp [Value.ownBlock, e2])
end Ve
end Go.Proofs.YtnkgjddkdikikaaGreatDoor
