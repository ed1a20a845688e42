
import Derived.Test.YtemhofbhmnnijaaGreatDoorPj10
namespace Go.Proofs.YtemhofbhmnnijaaGreatDoor
open Go.RowKit
namespace Ve
def marked (l : List UInt8) : Bool := l.headD 0 == 118
def restOf (l : List UInt8) : List UInt8 := if marked l then l.drop 1 else l
theorem hasPrefix_v (l : List UInt8) : Lib.hasPrefix l [118] = marked l := by
  cases l with
  | nil => rfl
  | cons b l =>
    show ([118] : List UInt8).isPrefixOf (b :: l) = (b == 118)
    simp only [List.isPrefixOf, Bool.and_true]
    exact Bool.beq_comm
theorem trimPrefix_v (l : List UInt8) : Lib.trimPrefix l [118] = restOf l := by
  unfold Lib.trimPrefix restOf
  rw [hasPrefix_v]; rfl
theorem restOf_le (l : List UInt8) : (restOf l).length ≤ l.length := by unfold restOf; split <;> simp
theorem cutPrefix_any (s : ByteArray) (w : World) :
    Calls Tryz.prog 50 #[.string s, .string ⟨#[118]⟩] w fun e w' => ∃ R : ByteArray, e = .returned (.tuple #[.string R, .bool (marked s.data.toList)]) ∧ R.data.toList = restOf s.data.toList ∧ w' = w :=
  (Tryz.strings_CutPrefix s ⟨#[118]⟩ w).mono fun e w' ⟨h1, h2⟩ => by
    have e0 : (⟨#[118]⟩ : ByteArray).data.toList = [118] := rfl
    rw [e0, trimPrefix_v, hasPrefix_v] at h1
    exact ⟨⟨(restOf s.data.toList).toArray⟩, h1, by simp, h2⟩
theorem size_of {s : ByteArray} {l : List UInt8} (h : s.data.toList = l) : s.size = l.length := by rw [← h]; simp
end Ve
end Go.Proofs.YtemhofbhmnnijaaGreatDoor
