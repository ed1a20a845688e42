/-
  What Split of package ver answers for any text (of fewer than 4294967281 bytes): its parts, or the error; nothing old in memory turns.
-/
import Derived.Test.YtfdinpmpchmifaaGreatDoorVerD
namespace Go.Proofs.YtfdinpmpchmifaaGreatDoor
open Go.RowKit
namespace Ve

/-- A text's mark, and what is behind it. -/
def marked (l : List UInt8) : Bool := l.headD 0 == 118
def restOf (l : List UInt8) : List UInt8 := if marked l then l.drop 1 else l
theorem hasPrefix_v (l : List UInt8) : Lib.hasPrefix l [118] = marked l := by
  cases l with
  | nil => rfl
  | cons b l =>
    show ([118] : List UInt8).isPrefixOf (b :: l) = (b == 118)
    simp only [List.isPrefixOf, Bool.and_true]
    exact Bool.beq_comm
theorem trimPrefix_v (l : List UInt8) : Lib.trimPrefix l [118] = restOf l := by
  unfold Lib.trimPrefix restOf
  rw [hasPrefix_v]; rfl
theorem restOf_le (l : List UInt8) : (restOf l).length ≤ l.length := by unfold restOf; split <;> simp
/-- The pieces of a version's text. -/
def coreOf (l : List UInt8) : List (List UInt8) := cutAt 46 (one 45 (restOf l)).1
def hasPre (l : List UInt8) : Bool := (one 45 (restOf l)).2.2
def preOf (l : List UInt8) : List (List UInt8) := if hasPre l then cutAt 46 (one 45 (restOf l)).2.1 else []
/-- Split's error. -/
def verErr (l : List UInt8) : Nat :=
  if marked l = false ∨ (coreOf l).length ≠ 3 then 1
  else if hasPre l then worse (numsErr (coreOf l)) (pre (preOf l)) else numsErr (coreOf l)

theorem cutPrefix_any (s : ByteArray) (w : World) :
    Calls Tryz.prog 50 #[.string s, .string ⟨#[118]⟩] w fun e w' => ∃ R : ByteArray, e = .returned (.tuple #[.string R, .bool (marked s.data.toList)]) ∧ R.data.toList = restOf s.data.toList ∧ w' = w :=
  (Tryz.strings_CutPrefix s ⟨#[118]⟩ w).mono fun e w' ⟨h1, h2⟩ => by
    have e0 : (⟨#[118]⟩ : ByteArray).data.toList = [118] := rfl
    rw [e0, trimPrefix_v, hasPrefix_v] at h1
    exact ⟨⟨(restOf s.data.toList).toArray⟩, h1, by simp, h2⟩
theorem cut_any (s : ByteArray) (m : Int) (w : World) (hs : s.size < 4294967281) (hm : w.cell? ⟨11, 0, none⟩ = some (.int .i64 m)) :
    Calls Tryz.prog 51 #[.string s, .string ⟨#[45]⟩] w fun e w' => ∃ C T : ByteArray, e = .returned (.tuple #[.string C, .string T, .bool (one 45 s.data.toList).2.2]) ∧ C.data.toList = (one 45 s.data.toList).1 ∧ T.data.toList = (one 45 s.data.toList).2.1 ∧ Below w.heap.size w w' :=
  (Tryz.strings_Cut s ⟨#[45]⟩ m w hs hm).mono fun e w' ⟨h1, n, h2⟩ => by
    have e0 : (⟨#[45]⟩ : ByteArray).data.toList = [45] := rfl
    rw [e0, cut_one] at h1
    exact ⟨⟨(one 45 s.data.toList).1.toArray⟩, ⟨(one 45 s.data.toList).2.1.toArray⟩, h1, by simp, by simp, by rw [h2]; exact below_drawn w n⟩
theorem one_le (c : UInt8) (l : List UInt8) : (one c l).1.length ≤ l.length ∧ (one c l).2.1.length ≤ l.length := by
  unfold one
  have h := congrArg List.length (List.takeWhile_append_dropWhile (p := (· != c)) (l := l))
  simp only [List.length_append] at h
  simp only [List.length_drop]
  omega
theorem size_of {s : ByteArray} {l : List UInt8} (h : s.data.toList = l) : s.size = l.length := by rw [← h]; simp

/-- The block of the result, later. -/
theorem res4 {w w3 : World} {a b c d : Value} {T : TypeId} (hb : Below (w.heap.size + 1) (w.alloc (.cells #[a, b, c, d] T)) w3) :
    (w3.cell? ⟨w.heap.size, 0, none⟩ = some a ∧ w3.cell? ⟨w.heap.size, 1, none⟩ = some b ∧ w3.cell? ⟨w.heap.size, 2, none⟩ = some c ∧ w3.cell? ⟨w.heap.size, 3, none⟩ = some d) ∧
    (∀ o, w3.frozen? ⟨w.heap.size, o, none⟩ = false) ∧ w.heap.size < w3.heap.size := by
  refine ⟨⟨?_, ?_, ?_, ?_⟩, ?_, ?_⟩
  · rw [hb.cell (by simp)]; simp
  · rw [hb.cell (by simp)]; simp
  · rw [hb.cell (by simp)]; simp
  · rw [hb.cell (by simp)]; simp
  · intro o; rw [hb.frozen (by simp)]; simp
  · have := hb.size; simp at this; omega

/-- Texts in memory. -/
def StrsAt (w : World) (v : Value) (X : List ByteArray) : Prop :=
  (X = [] ∧ v = .slice none 0 0) ∨ (X ≠ [] ∧ ∃ b, v = .slice (some ⟨b, 0, none⟩) X.length X.length ∧ b < w.heap.size ∧ ∀ j (h : j < X.length), w.cell? ⟨b, 0 + j, none⟩ = some (.string X[j]))
theorem StrsAt.below {w w' : World} {v : Value} {X : List ByteArray} (h : StrsAt w v X) (hb : Below w.heap.size w w') : StrsAt w' v X := by
  rcases h with h | ⟨h, b, e1, e2, e3⟩
  · exact Or.inl h
  · exact Or.inr ⟨h, b, e1, Nat.lt_of_lt_of_le e2 hb.size, fun j hj => cell_below hb (e3 j hj)⟩
/-- The three numbers. -/
def nAt (l : List UInt8) (i : Nat) : Int := (numsOf (coreOf l)).getD i 0
theorem n_three {l : List UInt8} (h : (coreOf l).length = 3) : numsOf (coreOf l) = [nAt l 0, nAt l 1, nAt l 2] := by
  unfold nAt
  have : (numsOf (coreOf l)).length = 3 := by rw [numsOf_len, h]
  match hq : numsOf (coreOf l), this with
  | [a, b, c], _ => rfl

theorem three_cells {w : World} {g : Nat} {cur : Array Value} {e : TypeId} {a b c : Int} (hb : w.heap[g]? = some (.cells cur e (0, 0))) (ht : cur.toList.take (3 * 1) = [a, b, c].map (Value.int .i64)) :
    w.cell? ⟨g, 0, none⟩ = some (.int .i64 a) ∧ w.cell? ⟨g, 1, none⟩ = some (.int .i64 b) ∧ w.cell? ⟨g, 2, none⟩ = some (.int .i64 c) := by
  have key : ∀ i, i < 3 → cur[i]? = ([a, b, c].map (Value.int .i64))[i]? := fun i hi => by
    rw [← ht, List.getElem?_take, if_pos (by omega)]; simp
  have k0 := key 0 (by omega)
  have k1 := key 1 (by omega)
  have k2 := key 2 (by omega)
  simp at k0 k1 k2
  simp [World.cell?, hb, k0, k1, k2]

end Ve
end Go.Proofs.YtfdinpmpchmifaaGreatDoor
