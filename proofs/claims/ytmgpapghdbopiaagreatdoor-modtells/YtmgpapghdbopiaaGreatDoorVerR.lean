/-
  The order on parts, pres and versions, as plain functions: what compare of package ver and the document's order compute. No Go here.
-/
import Derived.Test.YtmgpapghdbopiaaGreatDoorPreT
namespace Go.Proofs.YtmgpapghdbopiaaGreatDoor
namespace Ve

theorem cb_range : ∀ (a b : List UInt8), Lib.compareBytes a b = -1 ∨ Lib.compareBytes a b = 0 ∨ Lib.compareBytes a b = 1
  | [], [] => by simp [Lib.compareBytes]
  | [], _ :: _ => by simp [Lib.compareBytes]
  | _ :: _, [] => by simp [Lib.compareBytes]
  | a :: x, b :: y => by
    unfold Lib.compareBytes
    split
    · simp
    · split
      · simp
      · exact cb_range x y
theorem u8_eq {a b : UInt8} (h1 : ¬ a < b) (h2 : ¬ b < a) : a = b := UInt8.le_antisymm (UInt8.not_lt.1 h2) (UInt8.not_lt.1 h1)
theorem cb_zero : ∀ (a b : List UInt8), Lib.compareBytes a b = 0 ↔ a = b
  | [], [] => by simp [Lib.compareBytes]
  | [], _ :: _ => by simp [Lib.compareBytes]
  | _ :: _, [] => by simp [Lib.compareBytes]
  | a :: x, b :: y => by
    unfold Lib.compareBytes
    by_cases h : a < b
    · rw [if_pos h]
      constructor
      · intro e; cases e
      · intro e; injection e with e1 _; subst e1; exact absurd h (UInt8.lt_irrefl a)
    · rw [if_neg h]
      by_cases h2 : b < a
      · rw [if_pos h2]
        constructor
        · intro e; cases e
        · intro e; injection e with e1 _; subst e1; exact absurd h2 (UInt8.lt_irrefl a)
      · rw [if_neg h2, cb_zero x y, u8_eq h h2]
        simp
theorem cb_swap : ∀ (a b : List UInt8), Lib.compareBytes b a = -Lib.compareBytes a b
  | [], [] => by simp [Lib.compareBytes]
  | [], _ :: _ => by simp [Lib.compareBytes]
  | _ :: _, [] => by simp [Lib.compareBytes]
  | a :: x, b :: y => by
    unfold Lib.compareBytes
    by_cases h : a < b
    · have h2 : ¬ b < a := fun h3 => UInt8.lt_irrefl a (UInt8.lt_trans h h3)
      rw [if_pos h, if_neg h2, if_pos h]; rfl
    · by_cases h2 : b < a
      · rw [if_pos h2, if_neg h, if_pos h2]
      · rw [if_neg h, if_neg h2, if_neg h2, if_neg h]; exact cb_swap x y
theorem cb_less : ∀ (a b : List UInt8), Op.bytesLess a b = decide (Lib.compareBytes a b < 0)
  | [], [] => by simp [Lib.compareBytes, Op.bytesLess]
  | [], _ :: _ => by simp [Lib.compareBytes, Op.bytesLess]
  | _ :: _, [] => by simp [Lib.compareBytes, Op.bytesLess]
  | a :: x, b :: y => by
    unfold Lib.compareBytes Op.bytesLess
    by_cases h : a < b
    · rw [if_pos h]; simp [h]
    · rw [if_neg h]
      by_cases h2 : b < a
      · rw [if_pos h2]
        have : (a == b) = false := by
          cases e : (a == b)
          · rfl
          · have := eq_of_beq e; subst this; exact absurd h2 (UInt8.lt_irrefl a)
        simp [h, this]
      · rw [if_neg h2, u8_eq h h2, cb_less x y]
        simp [UInt8.lt_irrefl]
theorem cb_more (a b : List UInt8) : (!(Op.bytesLess a b || a == b)) = decide (0 < Lib.compareBytes a b) := by
  rw [cb_less]
  have e : (a == b) = decide (Lib.compareBytes a b = 0) := by
    rw [Bool.eq_iff_iff]; simp [cb_zero]
  rw [e]
  rcases cb_range a b with h | h | h <;> rw [h] <;> rfl

theorem ci_range (x y : Int) : Lib.compareInt x y = -1 ∨ Lib.compareInt x y = 0 ∨ Lib.compareInt x y = 1 := by
  unfold Lib.compareInt; split
  · simp
  · split <;> simp
theorem ci_zero (x y : Int) : Lib.compareInt x y = 0 ↔ x = y := by
  unfold Lib.compareInt; split
  · constructor <;> intro h <;> omega
  · split
    · constructor <;> intro h <;> omega
    · constructor <;> intro h <;> omega
theorem ci_swap (x y : Int) : Lib.compareInt y x = -Lib.compareInt x y := by
  unfold Lib.compareInt
  by_cases h : x < y
  · rw [if_pos h, if_neg (by omega), if_pos h]; rfl
  · by_cases h2 : y < x
    · rw [if_pos h2, if_neg h, if_pos h2]
    · rw [if_neg h2, if_neg h, if_neg h, if_neg h2]; rfl
theorem ci_lt {x y : Int} (h : x < y) : Lib.compareInt x y = -1 := by unfold Lib.compareInt; rw [if_pos h]
theorem ci_gt {x y : Int} (h : y < x) : Lib.compareInt x y = 1 := by unfold Lib.compareInt; rw [if_neg (by omega), if_pos h]
theorem ci_self (x : Int) : Lib.compareInt x x = 0 := (ci_zero x x).2 rfl

/-- The first that is not nought. -/
def fst (a b : Int) : Int := if a = 0 then b else a
theorem fst0 (b : Int) : fst 0 b = b := rfl
theorem fst_ne {a : Int} (b : Int) (h : a ≠ 0) : fst a b = a := by unfold fst; rw [if_neg h]
theorem fst_range {a b : Int} (ha : a = -1 ∨ a = 0 ∨ a = 1) (hb : b = -1 ∨ b = 0 ∨ b = 1) : fst a b = -1 ∨ fst a b = 0 ∨ fst a b = 1 := by
  unfold fst; split <;> assumption
theorem fst_swap {a b a' b' : Int} (ha : a' = -a) (hb : b' = -b) : fst a' b' = -fst a b := by
  subst ha; subst hb
  unfold fst
  by_cases h : a = 0
  · rw [if_pos h, if_pos (by omega)]
  · rw [if_neg h, if_neg (by omega)]
theorem fst_zero {a b : Int} : fst a b = 0 ↔ a = 0 ∧ b = 0 := by
  unfold fst
  by_cases h : a = 0
  · rw [if_pos h]; simp [h]
  · rw [if_neg h]; simp [h]

/-- Two parts: digits by how many, then by bytes; digits ahead of all else; else by bytes. -/
def ordPart (a b : List UInt8) : Int :=
  if digs a then (if digs b then fst (Lib.compareInt a.length b.length) (Lib.compareBytes a b) else -1) else if digs b then 1 else Lib.compareBytes a b
/-- Part by part. -/
def ordPs : List (List UInt8) → List (List UInt8) → Int
  | [], [] => 0
  | [], _ :: _ => -1
  | _ :: _, [] => 1
  | x :: xs, y :: ys => fst (ordPart x y) (ordPs xs ys)
/-- Two pres: none at all is the greatest. -/
def ordPre (a b : List (List UInt8)) : Int := if a = [] ∨ b = [] then Lib.compareInt b.length a.length else ordPs a b
/-- Two versions. -/
def ordN (x y z : Int) (p : List (List UInt8)) (x' y' z' : Int) (q : List (List UInt8)) : Int :=
  fst (Lib.compareInt x x') (fst (Lib.compareInt y y') (fst (Lib.compareInt z z') (ordPre p q)))
def ordV (s t : List UInt8) : Int := ordN (nAt s 0) (nAt s 1) (nAt s 2) (preOf s) (nAt t 0) (nAt t 1) (nAt t 2) (preOf t)

theorem ordPart_range (a b : List UInt8) : ordPart a b = -1 ∨ ordPart a b = 0 ∨ ordPart a b = 1 := by
  unfold ordPart
  split
  · split
    · exact fst_range (ci_range _ _) (cb_range _ _)
    · simp
  · split
    · simp
    · exact cb_range _ _
theorem ordPs_range : ∀ (a b : List (List UInt8)), ordPs a b = -1 ∨ ordPs a b = 0 ∨ ordPs a b = 1
  | [], [] => by simp [ordPs]
  | [], _ :: _ => by simp [ordPs]
  | _ :: _, [] => by simp [ordPs]
  | a :: x, b :: y => fst_range (ordPart_range a b) (ordPs_range x y)
theorem ordPre_range (a b : List (List UInt8)) : ordPre a b = -1 ∨ ordPre a b = 0 ∨ ordPre a b = 1 := by
  unfold ordPre; split
  · exact ci_range _ _
  · exact ordPs_range _ _
theorem ordN_range (x y z : Int) (p : List (List UInt8)) (x' y' z' : Int) (q : List (List UInt8)) : ordN x y z p x' y' z' q = -1 ∨ ordN x y z p x' y' z' q = 0 ∨ ordN x y z p x' y' z' q = 1 :=
  fst_range (ci_range _ _) (fst_range (ci_range _ _) (fst_range (ci_range _ _) (ordPre_range _ _)))

/-- Texts of digits of one length, as numbers. -/
theorem valTo_cmp : ∀ (p q : List UInt8) (n m : Int), p.length = q.length → p.all dig = true → q.all dig = true →
    (n < m → valTo n p < valTo m q) ∧ (m < n → valTo m q < valTo n p) ∧ (n = m → Lib.compareInt (valTo n p) (valTo m q) = Lib.compareBytes p q)
  | [], [], n, m, _, _, _ => ⟨fun h => h, fun h => h, fun h => by subst h; exact ci_self _⟩
  | [], _ :: _, _, _, h, _, _ => by simp at h
  | _ :: _, [], _, _, h, _, _ => by simp at h
  | c :: p, d :: q, n, m, h, hp, hq => by
    simp only [List.all_cons, Bool.and_eq_true] at hp hq
    have hc := dig_bd hp.1
    have hd := dig_bd hq.1
    obtain ⟨i1, i2, i3⟩ := valTo_cmp p q (10 * n + ((c.toNat : Int) - 48)) (10 * m + ((d.toNat : Int) - 48)) (by simpa using h) hp.2 hq.2
    have e1 : valTo n (c :: p) = valTo (10 * n + ((c.toNat : Int) - 48)) p := rfl
    have e2 : valTo m (d :: q) = valTo (10 * m + ((d.toNat : Int) - 48)) q := rfl
    rw [e1, e2]
    refine ⟨fun h => i1 (by omega), fun h => i2 (by omega), fun h => ?_⟩
    subst h
    unfold Lib.compareBytes
    by_cases h1 : c < d
    · rw [if_pos h1]
      have : c.toNat < d.toNat := UInt8.lt_iff_toNat_lt.1 h1
      exact ci_lt (i1 (by omega))
    · rw [if_neg h1]
      by_cases h2 : d < c
      · rw [if_pos h2]
        have : d.toNat < c.toNat := UInt8.lt_iff_toNat_lt.1 h2
        exact ci_gt (i2 (by omega))
      · rw [if_neg h2]
        have := u8_eq h1 h2
        subst this
        exact i3 rfl

theorem num0 {p : List UInt8} (h : (num p).2 = 0) : digs p = true ∧ zero p = false ∧ (num p).1 = valTo 0 p ∧ p.all dig = true := by
  have hd : digs p = true := by
    cases e : digs p
    · unfold num at h; rw [e] at h; simp at h
    · rfl
  have hz : zero p = false := by
    cases e : zero p
    · rfl
    · unfold num at h; rw [e] at h; simp at h
  have h6 := num_six p hd hz
  have : ¬ 6 < p.length := by
    intro hh; rw [if_pos hh] at h6; rw [h6] at h; cases h
  rw [if_neg this] at h6
  refine ⟨hd, hz, by rw [h6], ?_⟩
  unfold digs at hd
  simp only [Bool.and_eq_true] at hd
  exact hd.2

theorem val_len {p q : List UInt8} (hp : p.all dig = true) (hq : q.all dig = true) (hz : zero q = false) (h : p.length < q.length) (h0 : 0 < p.length) : valTo 0 p < valTo 0 q := by
  have b1 := (valTo_bd p 0 hp (by omega)).2
  cases q with
  | nil => simp at h
  | cons c r =>
    simp only [List.all_cons, Bool.and_eq_true] at hq
    have hc := dig_bd hq.1
    have hr : 1 < (c :: r).length := by simp at h ⊢; omega
    have hne : c ≠ 48 := by
      intro e
      unfold zero at hz
      rw [decide_eq_true hr, e] at hz
      simp at hz
    have hn : c.toNat ≠ 48 := fun e => hne (UInt8.toNat_inj.1 (by rw [e]; rfl))
    have b2 := (valTo_bd r (10 * 0 + ((c.toNat : Int) - 48)) hq.2 (by omega)).1
    have e : valTo 0 (c :: r) = valTo (10 * 0 + ((c.toNat : Int) - 48)) r := rfl
    rw [e]
    have h4 : (10 : Int) ^ p.length ≤ 10 ^ r.length := by
      have : (10 : Nat) ^ p.length ≤ 10 ^ r.length := Nat.pow_le_pow_right (by omega) (by simp at h; omega)
      exact_mod_cast this
    have h5 : (1 : Int) * 10 ^ r.length ≤ (10 * 0 + ((c.toNat : Int) - 48)) * 10 ^ r.length := Int.mul_le_mul_of_nonneg_right (by omega) (by
      have : (0 : Int) < 10 ^ r.length := Int.pow_pos (by omega)
      omega)
    omega

theorem num_cmp {p q : List UInt8} (hp : (num p).2 = 0) (hq : (num q).2 = 0) : Lib.compareInt (num p).1 (num q).1 = fst (Lib.compareInt p.length q.length) (Lib.compareBytes p q) := by
  obtain ⟨p1, p2, p3, p4⟩ := num0 hp
  obtain ⟨q1, q2, q3, q4⟩ := num0 hq
  have lp : 0 < p.length := by unfold digs at p1; simp at p1; exact p1.1
  have lq : 0 < q.length := by unfold digs at q1; simp at q1; exact q1.1
  rw [p3, q3]
  rcases Nat.lt_trichotomy p.length q.length with h | h | h
  · rw [ci_lt (val_len p4 q4 q2 h lp), ci_lt (by omega)]; rfl
  · rw [h, ci_self, fst0]
    exact (valTo_cmp p q 0 0 h p4 q4).2.2 rfl
  · rw [ci_gt (val_len q4 p4 p2 h lq), ci_gt (by omega)]; rfl

theorem part_num {p : List UInt8} (h : part p = 0) (hd : digs p = true) : (num p).2 = 0 := by
  unfold part at h
  split at h
  · cases h
  · rw [if_neg (by rw [hd]; simp)] at h; exact h

/-- The order on parts as the document has it: digits as numbers. -/
def ordPartN (a b : List UInt8) : Int :=
  if digs a then (if digs b then Lib.compareInt (num a).1 (num b).1 else -1) else if digs b then 1 else Lib.compareBytes a b
theorem ordPart_num {a b : List UInt8} (ha : part a = 0) (hb : part b = 0) : ordPartN a b = ordPart a b := by
  unfold ordPartN ordPart
  by_cases h1 : digs a = true
  · rw [if_pos h1, if_pos h1]
    by_cases h2 : digs b = true
    · rw [if_pos h2, if_pos h2, num_cmp (part_num ha h1) (part_num hb h2)]
    · rw [if_neg h2, if_neg h2]
  · rw [if_neg h1, if_neg h1]

end Ve
end Go.Proofs.YtmgpapghdbopiaaGreatDoor
