/-
  What the document's answer computes for digits and numbers (AreDigits, NumberOf), and whether two lists of texts are the same (SameTexts), in the words of the plain functions.
-/
import Derived.Test.YtccnagkfnmffpaaDoorVerB
namespace Go.Proofs.YtccnagkfnmffpaaDoor
open Go.RowKit
namespace Ve

/-- The number, unbounded. -/
def valTo (n : Int) (l : List UInt8) : Int := l.foldl (fun n c => 10 * n + ((c.toNat : Int) - 48)) n
theorem valTo_snoc (n : Int) (l : List UInt8) (c : UInt8) : valTo n (l ++ [c]) = 10 * valTo n l + ((c.toNat : Int) - 48) := by simp [valTo, List.foldl_append]
theorem dig_bd {c : UInt8} (h : dig c = true) : 48 ≤ (c.toNat : Int) ∧ (c.toNat : Int) ≤ 57 := by simpa [dig, digB] using h
theorem valTo_bd : ∀ (l : List UInt8) (n : Int), l.all dig = true → 0 ≤ n → n * 10 ^ l.length ≤ valTo n l ∧ valTo n l < (n + 1) * 10 ^ l.length := by
  intro l
  induction l with
  | nil => intro n _ h; simp [valTo]; omega
  | cons c r ih =>
    intro n ha h0
    simp only [List.all_cons, Bool.and_eq_true] at ha
    have hc := dig_bd ha.1
    have := ih (10 * n + ((c.toNat : Int) - 48)) ha.2 (by omega)
    show n * 10 ^ (r.length + 1) ≤ valTo (10 * n + ((c.toNat : Int) - 48)) r ∧ valTo (10 * n + ((c.toNat : Int) - 48)) r < (n + 1) * 10 ^ (r.length + 1)
    have hp : (0 : Int) < 10 ^ r.length := Int.pow_pos (by decide)
    have e1 : n * 10 ^ (r.length + 1) = (10 * n) * 10 ^ r.length := by rw [Int.pow_succ]; rw [Int.mul_comm (10 ^ r.length) 10, ← Int.mul_assoc, Int.mul_comm n 10]
    have e2 : (n + 1) * 10 ^ (r.length + 1) = (10 * (n + 1)) * 10 ^ r.length := by rw [Int.pow_succ]; rw [Int.mul_comm (10 ^ r.length) 10, ← Int.mul_assoc, Int.mul_comm (n + 1) 10]
    rw [e1, e2]
    constructor
    · exact Int.le_trans (Int.mul_le_mul_of_nonneg_right (by omega) (Int.le_of_lt hp)) this.1
    · exact Int.lt_of_lt_of_le this.2 (Int.mul_le_mul_of_nonneg_right (by omega) (Int.le_of_lt hp))
theorem numTo_val : ∀ (l : List UInt8) (n : Int), l.all dig = true → 0 ≤ n → numTo (min n 1000000) l = min (valTo n l) 1000000 := by
  intro l
  induction l with
  | nil => intro n _ _; rfl
  | cons c r ih =>
    intro n ha h0
    simp only [List.all_cons, Bool.and_eq_true] at ha
    have hc := dig_bd ha.1
    have := ih (10 * n + ((c.toNat : Int) - 48)) ha.2 (by omega)
    show numTo (min (min n 1000000 * 10 + ((c.toNat : Int) - 48)) 1000000) r = min (valTo (10 * n + ((c.toNat : Int) - 48)) r) 1000000
    rw [← this]
    congr 1
    omega
/-- Of digits without a needless zero: too great a number is one of more than six. -/
theorem num_six (l : List UInt8) (h : digs l = true) (h0 : zero l = false) : num l = if 6 < l.length then (0, 2) else (valTo 0 l, 0) := by
  have had : l.all dig = true := by unfold digs at h; simp at h; exact h.2
  have hpos : 0 < l.length := by unfold digs at h; simp at h; exact h.1
  have e := numTo_val l 0 had (by omega)
  rw [show min (0 : Int) 1000000 = 0 by omega] at e
  have hb := valTo_bd l 0 had (by omega)
  unfold num
  rw [h, h0, e]
  simp only [Bool.not_true, Bool.or_false, Bool.false_eq_true, if_false]
  by_cases h6 : 6 < l.length
  · rw [if_pos h6]
    have hbig : 999999 < valTo 0 l := by
      cases l with
      | nil => simp at hpos
      | cons c r =>
        simp only [List.all_cons, Bool.and_eq_true] at had
        have hc := dig_bd had.1
        have hc48 : (c.toNat : Int) ≠ 48 := by
          intro hh
          have : c = 48 := by apply UInt8.toNat_inj.1; show c.toNat = 48; omega
          subst this
          simp [zero] at h0
          have : r.length + 1 > 6 := h6
          have h7 : r ≠ [] := by intro hr; subst hr; simp at this
          exact h7 h0
        have hv := (valTo_bd r (10 * 0 + ((c.toNat : Int) - 48)) had.2 (by omega)).1
        have hr : 6 ≤ r.length := by simp at h6; omega
        have hp : (1000000 : Int) ≤ 10 ^ r.length := by
          have := Nat.pow_le_pow_right (n := 10) (by omega) hr
          have h8 : ((10 ^ 6 : Nat) : Int) ≤ ((10 ^ r.length : Nat) : Int) := by exact_mod_cast this
          simpa using h8
        have h9 : (10 : Int) ^ r.length ≤ (10 * 0 + ((c.toNat : Int) - 48)) * 10 ^ r.length := by
          have := Int.mul_le_mul_of_nonneg_right (a := 1) (b := 10 * 0 + ((c.toNat : Int) - 48)) (c := 10 ^ r.length) (by omega) (by omega)
          simpa using this
        show 999999 < valTo (10 * 0 + ((c.toNat : Int) - 48)) r
        omega
    rw [if_neg (by omega)]
  · rw [if_neg h6]
    have hp : (10 : Int) ^ l.length ≤ 1000000 := by
      have := Nat.pow_le_pow_right (n := 10) (by omega) (show l.length ≤ 6 by omega)
      have h8 : ((10 ^ l.length : Nat) : Int) ≤ ((10 ^ 6 : Nat) : Int) := by exact_mod_cast this
      simpa using h8
    have : valTo 0 l < 1000000 := by have := hb.2; simp at this; omega
    rw [if_pos (by omega), show min (valTo 0 l) 1000000 = valTo 0 l by omega]

theorem val_le (l : List UInt8) (h : l.all dig = true) (h6 : l.length ≤ 6) : 0 ≤ valTo 0 l ∧ valTo 0 l < 1000000 := by
  have hb := valTo_bd l 0 h (by omega)
  have hp : (10 : Int) ^ l.length ≤ 1000000 := by
    have := Nat.pow_le_pow_right (n := 10) (by omega) h6
    have h8 : ((10 ^ l.length : Nat) : Int) ≤ ((10 ^ 6 : Nat) : Int) := by exact_mod_cast this
    simpa using h8
  have h1 := hb.1
  have h2 := hb.2
  simp at h1 h2
  omega

theorem str_ext {a b : ByteArray} (h : a.data.toList = b.data.toList) : a = b := by
  cases a; cases b; congr 1; exact Array.toList_inj.1 h
theorem str_ne {a b : ByteArray} (h : ¬ a = b) : (a.toList == b.toList) = false := by
  rw [beq_eq_false_iff_ne, ByteArray.toList_eq, ByteArray.toList_eq]
  intro e; exact h (str_ext e)

end Ve
end Go.Proofs.YtccnagkfnmffpaaDoor
