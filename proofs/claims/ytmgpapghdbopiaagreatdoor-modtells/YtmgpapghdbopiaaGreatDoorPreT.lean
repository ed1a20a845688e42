/-
  The text of a pre, and the digits of a number (plain). No Go here.
-/
import Derived.Test.YtmgpapghdbopiaaGreatDoorVerG
import Derived.Test.YtmgpapghdbopiaaGreatDoorRefA
namespace Go.Proofs.YtmgpapghdbopiaaGreatDoor
open Go.RowKit
namespace Ve

theorem size_of' {s : ByteArray} {l : List UInt8} (h : s.data.toList = l) : s.size = l.length := by rw [← h]; simp
theorem dec_big {u : Nat} (h : ¬ u < 10) : Lib.decDigits u = Lib.decDigits (u / 10) ++ [UInt8.ofNat (48 + u % 10)] := by rw [Lib.decDigits, dif_neg h]
/-- What is written behind the numbers. -/
def preText : List (List UInt8) → List UInt8
  | [] => []
  | p :: r => [45] ++ Lib.join (p :: r) [46]
theorem preText_one (p : List UInt8) : preText [p] = [45] ++ p := by simp [preText, Lib.join_one]
theorem preText_snoc (ps : List (List UInt8)) (h : ps ≠ []) (q : List UInt8) : preText (ps ++ [q]) = preText ps ++ ([46] ++ q) := by
  cases ps with
  | nil => exact absurd rfl h
  | cons p r =>
    simp only [List.cons_append, preText, Lib.join_cons, Lib.joinTail]
    simp
theorem preText_app (qs : List (List UInt8)) : ∀ ps : List (List UInt8), (preText ps).length ≤ (preText (ps ++ qs)).length := by
  induction qs with
  | nil => intro ps; simp
  | cons q r ih =>
    intro ps
    have h1 : (preText ps).length ≤ (preText (ps ++ [q])).length := by
      by_cases h : ps = []
      · subst h; simp [preText]
      · rw [preText_snoc ps h q]; simp
    have h2 := ih (ps ++ [q])
    rw [List.append_assoc] at h2
    exact Nat.le_trans h1 h2
theorem preText_take (X : List ByteArray) (k : Nat) : (preText (bl (X.take k))).length ≤ (preText (bl X)).length := by
  have h := preText_app (bl (X.drop k)) (bl (X.take k))
  have e : bl (X.take k) ++ bl (X.drop k) = bl X := by unfold bl; rw [← List.map_append, List.take_append_drop]
  rw [e] at h
  exact h
theorem bl_inj {X Y : List ByteArray} (h : bl X = bl Y) : X = Y := by
  induction X generalizing Y with
  | nil => cases Y with
    | nil => rfl
    | cons y r => simp [bl] at h
  | cons x r ih => cases Y with
    | nil => simp [bl] at h
    | cons y s =>
      simp only [bl, List.map_cons, List.cons.injEq] at h
      rw [str_ext h.1, ih h.2]
end Ve
end Go.Proofs.YtmgpapghdbopiaaGreatDoor
