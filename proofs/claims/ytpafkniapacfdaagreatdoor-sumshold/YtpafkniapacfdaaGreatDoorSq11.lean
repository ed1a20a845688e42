
import Derived.Test.YtpafkniapacfdaaGreatDoorSq10
import Derived.Test.YtpafkniapacfdaaGreatDoorSq7
import Derived.Test.YtpafkniapacfdaaGreatDoorSq9
import Derived.Laws.IdiomStrings
import Derived.Test.YtpafkniapacfdaaGreatDoorSq3
namespace Go.Proofs.YtpafkniapacfdaaGreatDoor
open Go.RowKit
namespace Ve
theorem one_yes {c : UInt8} {l : List UInt8} (h : l.contains c = true) : ∃ j, ∃ hj : j < l.length, l[j] = c ∧ (∀ k (hk : k < l.length), k < j → l[k] ≠ c) ∧ (one c l).1 = l.take j ∧ (one c l).2.1 = l.drop (j + 1) := by
  induction l with
  | nil => simp at h
  | cons a r ih =>
    by_cases e : a = c
    · subst e
      exact ⟨0, by simp, rfl, fun k hk h0 => absurd h0 (by omega), by simp [one], by simp [one]⟩
    · have hr : r.contains c = true := by
        simp at h ⊢
        rcases h with h | h
        · exact absurd h.symm e
        · exact h
      obtain ⟨j, hj, h1, h2, h3, h4⟩ := ih hr
      refine ⟨j + 1, by simp; omega, by simpa using h1, ?_, ?_, ?_⟩
      · intro k hk hkj
        cases k with
        | zero => simpa using e
        | succ k => simpa using h2 k (by simp at hk; omega) (by omega)
      · have : (a != c) = true := by simp [e]
        simp only [one, List.takeWhile_cons, this, if_true, List.take_succ_cons] at h3 ⊢
        rw [h3]
      · have : (a != c) = true := by simp [e]
        simp only [one, List.dropWhile_cons, this, if_true, List.drop_succ_cons] at h4 ⊢
        rw [h4]
end Ve
end Go.Proofs.YtpafkniapacfdaaGreatDoor


namespace Go.Proofs.YtpafkniapacfdaaGreatDoor
open Go.RowKit
namespace Ve
theorem errV_ne {c : Nat} (aT aB : Addr) (h : c ≠ 0) : ∃ a, errV aT aB c = .iface 291 (.pointer (some a)) := by
  unfold errV
  rw [if_neg h]
  split
  · exact ⟨aT, rfl⟩
  · exact ⟨aB, rfl⟩
theorem StrsAt.slice {w : World} {v : Value} {X : List ByteArray} (h : StrsAt w v X) : ∃ p n c, v = .slice p n c := by
  rcases h with ⟨_, rfl⟩ | ⟨_, b, rfl, _⟩ <;> exact ⟨_, _, _, rfl⟩
def SplitP (aT aB : Addr) (s : ByteArray) (w w' : World) (e : Ending) : Prop :=
  (verErr s.data.toList ≠ 0 ∧ e = .returned (.tuple #[.agg #[.int .i64 0, .int .i64 0, .int .i64 0, .slice none 0 0], errV aT aB (verErr s.data.toList)]) ∨
    verErr s.data.toList = 0 ∧ ∃ v X, e = .returned (.tuple #[.agg #[.int .i64 (nAt s.data.toList 0), .int .i64 (nAt s.data.toList 1), .int .i64 (nAt s.data.toList 2), v], .nilIface]) ∧ bl X = preOf s.data.toList ∧ StrsAt w' v X) ∧ Below w.heap.size w w'
theorem vsplit_any (s : ByteArray) (aT aB : Addr) (m : Int) (w : World) (hs : s.size < 4294967281) (S : Vs w aT aB m) : Calls Tryz.prog 106 #[.string s] w fun e w' => SplitP aT aB s w w' e := by
  by_cases h : verErr s.data.toList = 0
  · exact (vsplit_good s aT aB m w hs S h).mono fun e w' ⟨v, X, h1, h2, h3, h4⟩ => ⟨Or.inr ⟨h, v, X, h1, h2, h3⟩, h4⟩
  · exact (vsplit_bad s aT aB m w hs S h).mono fun e w' ⟨h1, h2⟩ => ⟨Or.inl ⟨h, h1⟩, h2⟩
def GoodP (w w' : World) (e : Ending) (x y z : Int) (X : List ByteArray) : Prop :=
  ∃ v, e = .returned (.tuple #[.agg #[.int .i64 x, .int .i64 y, .int .i64 z, v], .nilIface]) ∧ StrsAt w' v X ∧ Below w.heap.size w w'
theorem vsplit_is (s : ByteArray) (aT aB : Addr) (m : Int) (w : World) (hs : s.size < 4294967281) (S : Vs w aT aB m) (h : verErr s.data.toList = 0) (X : List ByteArray) (hX : bl X = preOf s.data.toList) :
    Calls Tryz.prog 106 #[.string s] w fun e w' => GoodP w w' e (nAt s.data.toList 0) (nAt s.data.toList 1) (nAt s.data.toList 2) X :=
  (vsplit_good s aT aB m w hs S h).mono fun e w' ⟨v, X2, h1, h2, h3, h4⟩ => by
    obtain rfl : X2 = X := bl_inj (h2.trans hX.symm)
    exact ⟨v, h1, h3, h4⟩
def BadP (w w' : World) (e : Ending) : Prop :=
  ∃ a, e = .returned (.tuple #[.agg #[.int .i64 0, .int .i64 0, .int .i64 0, .slice none 0 0], .iface 291 (.pointer (some a))]) ∧ Below w.heap.size w w'
theorem vsplit_not (s : ByteArray) (aT aB : Addr) (m : Int) (w : World) (hs : s.size < 4294967281) (S : Vs w aT aB m) (h : verErr s.data.toList ≠ 0) :
    Calls Tryz.prog 106 #[.string s] w fun e w' => BadP w w' e :=
  (vsplit_bad s aT aB m w hs S h).mono fun e w' ⟨h1, h2⟩ => by
    obtain ⟨a, ha⟩ := errV_ne aT aB h
    exact ⟨a, by rw [h1, ha], h2⟩
def strs (ps : List (List UInt8)) : List ByteArray := ps.map fun p => ⟨p.toArray⟩
theorem bl_strs (ps : List (List UInt8)) : bl (strs ps) = ps := by
  unfold bl strs
  rw [List.map_map]
  conv => rhs; rw [← List.map_id ps]
  apply List.map_congr_left
  intro p _
  rfl
theorem pre_len {l : List UInt8} : (preOf l).length ≤ l.length + 1 := by
  unfold preOf
  split
  · have := cutAt_many 46 (one 45 (restOf l)).2.1
    have h2 := (one_le 45 (restOf l)).2
    have h3 := restOf_le l
    omega
  · simp
theorem pre_size {l p : List UInt8} (h : p ∈ preOf l) : p.length ≤ l.length := by
  unfold preOf at h
  split at h
  · have := cutAt_le 46 _ p h
    have h2 := (one_le 45 (restOf l)).2
    have h3 := restOf_le l
    omega
  · simp at h
end Ve
end Go.Proofs.YtpafkniapacfdaaGreatDoor


namespace Go.Proofs.YtpafkniapacfdaaGreatDoor
namespace Ve
theorem cb_range : ∀ (a b : List UInt8), Lib.compareBytes a b = -1 ∨ Lib.compareBytes a b = 0 ∨ Lib.compareBytes a b = 1
  | [], [] => by simp [Lib.compareBytes]
  | [], _ :: _ => by simp [Lib.compareBytes]
  | _ :: _, [] => by simp [Lib.compareBytes]
  | a :: x, b :: y => by
    unfold Lib.compareBytes
    split
    · simp
    · split
      · simp
      · exact cb_range x y
theorem u8_eq {a b : UInt8} (h1 : ¬ a < b) (h2 : ¬ b < a) : a = b := UInt8.le_antisymm (UInt8.not_lt.1 h2) (UInt8.not_lt.1 h1)
theorem cb_zero : ∀ (a b : List UInt8), Lib.compareBytes a b = 0 ↔ a = b
  | [], [] => by simp [Lib.compareBytes]
  | [], _ :: _ => by simp [Lib.compareBytes]
  | _ :: _, [] => by simp [Lib.compareBytes]
  | a :: x, b :: y => by
    unfold Lib.compareBytes
    by_cases h : a < b
    · rw [if_pos h]
      constructor
      · intro e; cases e
      · intro e; injection e with e1 _; subst e1; exact absurd h (UInt8.lt_irrefl a)
    · rw [if_neg h]
      by_cases h2 : b < a
      · rw [if_pos h2]
        constructor
        · intro e; cases e
        · intro e; injection e with e1 _; subst e1; exact absurd h2 (UInt8.lt_irrefl a)
      · rw [if_neg h2, cb_zero x y, u8_eq h h2]
        simp
theorem cb_swap : ∀ (a b : List UInt8), Lib.compareBytes b a = -Lib.compareBytes a b
  | [], [] => by simp [Lib.compareBytes]
  | [], _ :: _ => by simp [Lib.compareBytes]
  | _ :: _, [] => by simp [Lib.compareBytes]
  | a :: x, b :: y => by
    unfold Lib.compareBytes
    by_cases h : a < b
    · have h2 : ¬ b < a := fun h3 => UInt8.lt_irrefl a (UInt8.lt_trans h h3)
      rw [if_pos h, if_neg h2, if_pos h]; rfl
    · by_cases h2 : b < a
      · rw [if_pos h2, if_neg h, if_pos h2]
      · rw [if_neg h, if_neg h2, if_neg h2, if_neg h]; exact cb_swap x y
theorem cb_less : ∀ (a b : List UInt8), Op.bytesLess a b = decide (Lib.compareBytes a b < 0)
  | [], [] => by simp [Lib.compareBytes, Op.bytesLess]
  | [], _ :: _ => by simp [Lib.compareBytes, Op.bytesLess]
  | _ :: _, [] => by simp [Lib.compareBytes, Op.bytesLess]
  | a :: x, b :: y => by
    unfold Lib.compareBytes Op.bytesLess
    by_cases h : a < b
    · rw [if_pos h]; simp [h]
    · rw [if_neg h]
      by_cases h2 : b < a
      · rw [if_pos h2]
        have : (a == b) = false := by
          cases e : (a == b)
          · rfl
          · have := eq_of_beq e; subst this; exact absurd h2 (UInt8.lt_irrefl a)
        simp [h, this]
      · rw [if_neg h2, u8_eq h h2, cb_less x y]
        simp [UInt8.lt_irrefl]
theorem ci_zero (x y : Int) : Lib.compareInt x y = 0 ↔ x = y := by
  unfold Lib.compareInt; split
  · constructor <;> intro h <;> omega
  · split
    · constructor <;> intro h <;> omega
    · constructor <;> intro h <;> omega
theorem ci_swap (x y : Int) : Lib.compareInt y x = -Lib.compareInt x y := by
  unfold Lib.compareInt
  by_cases h : x < y
  · rw [if_pos h, if_neg (by omega), if_pos h]; rfl
  · by_cases h2 : y < x
    · rw [if_pos h2, if_neg h, if_pos h2]
    · rw [if_neg h2, if_neg h, if_neg h, if_neg h2]; rfl
theorem ci_lt {x y : Int} (h : x < y) : Lib.compareInt x y = -1 := by unfold Lib.compareInt; rw [if_pos h]
theorem ci_self (x : Int) : Lib.compareInt x x = 0 := (ci_zero x x).2 rfl
def fst (a b : Int) : Int := if a = 0 then b else a
theorem fst0 (b : Int) : fst 0 b = b := rfl
theorem fst_ne {a : Int} (b : Int) (h : a ≠ 0) : fst a b = a := by unfold fst; rw [if_neg h]
theorem fst_swap {a b a' b' : Int} (ha : a' = -a) (hb : b' = -b) : fst a' b' = -fst a b := by
  subst ha; subst hb
  unfold fst
  by_cases h : a = 0
  · rw [if_pos h, if_pos (by omega)]
  · rw [if_neg h, if_neg (by omega)]
theorem fst_zero {a b : Int} : fst a b = 0 ↔ a = 0 ∧ b = 0 := by
  unfold fst
  by_cases h : a = 0
  · rw [if_pos h]; simp [h]
  · rw [if_neg h]; simp [h]
def ordPart (a b : List UInt8) : Int :=
  if digs a then (if digs b then fst (Lib.compareInt a.length b.length) (Lib.compareBytes a b) else -1) else if digs b then 1 else Lib.compareBytes a b
def ordPs : List (List UInt8) → List (List UInt8) → Int
  | [], [] => 0
  | [], _ :: _ => -1
  | _ :: _, [] => 1
  | x :: xs, y :: ys => fst (ordPart x y) (ordPs xs ys)
def ordPre (a b : List (List UInt8)) : Int := if a = [] ∨ b = [] then Lib.compareInt b.length a.length else ordPs a b
def ordN (x y z : Int) (p : List (List UInt8)) (x' y' z' : Int) (q : List (List UInt8)) : Int :=
  fst (Lib.compareInt x x') (fst (Lib.compareInt y y') (fst (Lib.compareInt z z') (ordPre p q)))
def ordV (s t : List UInt8) : Int := ordN (nAt s 0) (nAt s 1) (nAt s 2) (preOf s) (nAt t 0) (nAt t 1) (nAt t 2) (preOf t)
theorem num0 {p : List UInt8} (h : (num p).2 = 0) : digs p = true ∧ zero p = false ∧ (num p).1 = valTo 0 p ∧ p.all dig = true := by
  have hd : digs p = true := by
    cases e : digs p
    · unfold num at h; rw [e] at h; simp at h
    · rfl
  have hz : zero p = false := by
    cases e : zero p
    · rfl
    · unfold num at h; rw [e] at h; simp at h
  have h6 := num_six p hd hz
  have : ¬ 6 < p.length := by
    intro hh; rw [if_pos hh] at h6; rw [h6] at h; cases h
  rw [if_neg this] at h6
  refine ⟨hd, hz, by rw [h6], ?_⟩
  unfold digs at hd
  simp only [Bool.and_eq_true] at hd
  exact hd.2
end Ve
end Go.Proofs.YtpafkniapacfdaaGreatDoor


namespace Go.Proofs.YtpafkniapacfdaaGreatDoor
open Go.RowKit
namespace Ve
end Ve
end Go.Proofs.YtpafkniapacfdaaGreatDoor


namespace Go.Proofs.YtpafkniapacfdaaGreatDoor
open Go.RowKit
namespace Ve
end Ve
end Go.Proofs.YtpafkniapacfdaaGreatDoor
