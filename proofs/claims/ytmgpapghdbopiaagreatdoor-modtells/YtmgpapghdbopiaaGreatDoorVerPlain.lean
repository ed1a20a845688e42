/-
  Plain functions on lists of bytes: what package ver's readers compute. No Go here.
-/
import Derived.Below
namespace Go.Proofs.YtmgpapghdbopiaaGreatDoor
namespace Ve

/-- A byte that is a digit; one that a part may hold (as numbers). -/
def digB (c : Int) : Bool := decide (48 ≤ c ∧ c ≤ 57)
def parB (c : Int) : Bool := digB c || decide (97 ≤ c ∧ c ≤ 122) || decide (65 ≤ c ∧ c ≤ 90) || c == 45
def dig (c : UInt8) : Bool := digB (c.toNat : Int)
def par (c : UInt8) : Bool := parB (c.toNat : Int)
def allDig (l : List UInt8) : Bool := l.all dig
def allPar (l : List UInt8) : Bool := l.all par
/-- Digits alone, one at least. -/
def digs (l : List UInt8) : Bool := decide (0 < l.length) && allDig l
/-- The number, held just above the bound. -/
def numTo (n : Int) (l : List UInt8) : Int := l.foldl (fun n c => min (n * 10 + ((c.toNat : Int) - 48)) 1000000) n
/-- Is there a needless zero? -/
def zero (l : List UInt8) : Bool := decide (1 < l.length) && l.headD 0 == 48
/-- readNumber: the number, and which error: 0 none, 1 text, 2 bound. -/
def num (l : List UInt8) : Int × Nat :=
  if !digs l || zero l then (0, 1) else if numTo 0 l ≤ 999999 then (numTo 0 l, 0) else (0, 2)
/-- The worse of two errors. -/
def worse (a b : Nat) : Nat := if a = 1 ∨ b = 0 then a else b
/-- checkPart. -/
def part (l : List UInt8) : Nat :=
  if l.length < 1 ∨ 8 < l.length ∨ allPar l = false then 1 else if digs l = false then 0 else (num l).2
/-- checkPre: on from an error. -/
def preTo (b : Nat) (ps : List (List UInt8)) : Nat := ps.foldl (fun b p => worse b (part p)) b
def pre (ps : List (List UInt8)) : Nat := preTo (if 5 < ps.length then 2 else 0) ps
/-- The bytes of texts. -/
def bl (xs : List ByteArray) : List (List UInt8) := xs.map fun x => x.data.toList

theorem numTo_snoc (n : Int) (l : List UInt8) (c : UInt8) : numTo n (l ++ [c]) = min (numTo n l * 10 + ((c.toNat : Int) - 48)) 1000000 := by
  simp [numTo, List.foldl_append]
theorem numTo_bd (l : List UInt8) (h : l.all dig = true) : 0 ≤ numTo 0 l ∧ numTo 0 l ≤ 1000000 := by
  have key : ∀ (l : List UInt8) (n : Int), l.all dig = true → 0 ≤ n → n ≤ 1000000 → 0 ≤ numTo n l ∧ numTo n l ≤ 1000000 := by
    intro l
    induction l with
    | nil => intro n _ h0 h1; exact ⟨h0, h1⟩
    | cons c r ih =>
      intro n ha h0 h1
      simp only [List.all_cons, Bool.and_eq_true] at ha
      have hc : 48 ≤ (c.toNat : Int) := by
        have := ha.1
        simp only [dig, digB, decide_eq_true_eq] at this
        omega
      exact ih _ ha.2 (by dsimp only; omega) (by dsimp only; omega)
  exact key l 0 h (by omega) (by omega)
theorem num_err (l : List UInt8) : (num l).2 = 0 ∨ (num l).2 = 1 ∨ (num l).2 = 2 := by
  unfold num
  split
  · simp
  · split <;> simp
theorem part_err (l : List UInt8) : part l = 0 ∨ part l = 1 ∨ part l = 2 := by
  unfold part
  split
  · simp
  · split
    · simp
    · exact num_err l
theorem worse_err {a b : Nat} (ha : a = 0 ∨ a = 1 ∨ a = 2) (hb : b = 0 ∨ b = 1 ∨ b = 2) : worse a b = 0 ∨ worse a b = 1 ∨ worse a b = 2 := by
  unfold worse; split <;> assumption
theorem all_snoc (f : UInt8 → Bool) (l : List UInt8) (c : UInt8) : (l ++ [c]).all f = (l.all f && f c) := by simp
theorem take_snoc (s : ByteArray) (k : Nat) (h : k < s.size) : s.data.toList.take (k + 1) = s.data.toList.take k ++ [s[k]] := by
  rw [List.take_succ_eq_append_getElem (by simpa using h)]; rfl
theorem take_all (s : ByteArray) : s.data.toList.take s.size = s.data.toList := List.take_of_length_le (by simp)
theorem len_eq (s : ByteArray) : s.data.toList.length = s.size := by simp
theorem preTo_snoc (b : Nat) (ps : List (List UInt8)) (p : List UInt8) : preTo b (ps ++ [p]) = worse (preTo b ps) (part p) := by simp [preTo, List.foldl_append]
theorem preTo_err (b : Nat) (ps : List (List UInt8)) (hb : b = 0 ∨ b = 1 ∨ b = 2) : preTo b ps = 0 ∨ preTo b ps = 1 ∨ preTo b ps = 2 := by
  induction ps generalizing b with
  | nil => exact hb
  | cons p r ih => exact ih _ (worse_err hb (part_err p))
theorem pre_err (ps : List (List UInt8)) : pre ps = 0 ∨ pre ps = 1 ∨ pre ps = 2 := by
  unfold pre
  refine preTo_err _ _ ?_
  split <;> simp
theorem bl_take_snoc (xs : List ByteArray) (k : Nat) (h : k < xs.length) : bl (xs.take (k + 1)) = bl (xs.take k) ++ [xs[k].data.toList] := by
  unfold bl
  rw [List.take_succ_eq_append_getElem h, List.map_append]; rfl
theorem bl_len (xs : List ByteArray) : (bl xs).length = xs.length := by simp [bl]
end Ve
end Go.Proofs.YtmgpapghdbopiaaGreatDoor
