/-
  What Split of package ver answers, all its ways together.
-/
import Derived.Test.YtmgpapghdbopiaaDoorVerF
import Derived.Test.YtmgpapghdbopiaaDoorPreT
namespace Go.Proofs.YtmgpapghdbopiaaDoor
open Go.RowKit
namespace Ve

theorem errV_ne {c : Nat} (aT aB : Addr) (h : c ≠ 0) : ∃ a, errV aT aB c = .iface 135 (.pointer (some a)) := by
  unfold errV
  rw [if_neg h]
  split
  · exact ⟨aT, rfl⟩
  · exact ⟨aB, rfl⟩
theorem StrsAt.slice {w : World} {v : Value} {X : List ByteArray} (h : StrsAt w v X) : ∃ p n c, v = .slice p n c := by
  rcases h with ⟨_, rfl⟩ | ⟨_, b, rfl, _⟩ <;> exact ⟨_, _, _, rfl⟩

/-- Split, all its ways together. -/
def SplitP (aT aB : Addr) (s : ByteArray) (w w' : World) (e : Ending) : Prop :=
  (verErr s.data.toList ≠ 0 ∧ e = .returned (.tuple #[.agg #[.int .i64 0, .int .i64 0, .int .i64 0, .slice none 0 0], errV aT aB (verErr s.data.toList)]) ∨
    verErr s.data.toList = 0 ∧ ∃ v X, e = .returned (.tuple #[.agg #[.int .i64 (nAt s.data.toList 0), .int .i64 (nAt s.data.toList 1), .int .i64 (nAt s.data.toList 2), v], .nilIface]) ∧ bl X = preOf s.data.toList ∧ StrsAt w' v X) ∧ Below w.heap.size w w'
theorem vsplit_any (s : ByteArray) (aT aB : Addr) (m : Int) (w : World) (hs : s.size < 4294967281) (S : Vs w aT aB m) : Calls Tryd.prog 15 #[.string s] w fun e w' => SplitP aT aB s w w' e := by
  by_cases h : verErr s.data.toList = 0
  · exact (vsplit_good s aT aB m w hs S h).mono fun e w' ⟨v, X, h1, h2, h3, h4⟩ => ⟨Or.inr ⟨h, v, X, h1, h2, h3⟩, h4⟩
  · exact (vsplit_bad s aT aB m w hs S h).mono fun e w' ⟨h1, h2⟩ => ⟨Or.inl ⟨h, h1⟩, h2⟩

/-- What Split answers for a version. -/
def GoodP (w w' : World) (e : Ending) (x y z : Int) (X : List ByteArray) : Prop :=
  ∃ v, e = .returned (.tuple #[.agg #[.int .i64 x, .int .i64 y, .int .i64 z, v], .nilIface]) ∧ StrsAt w' v X ∧ Below w.heap.size w w'
theorem vsplit_is (s : ByteArray) (aT aB : Addr) (m : Int) (w : World) (hs : s.size < 4294967281) (S : Vs w aT aB m) (h : verErr s.data.toList = 0) (X : List ByteArray) (hX : bl X = preOf s.data.toList) :
    Calls Tryd.prog 15 #[.string s] w fun e w' => GoodP w w' e (nAt s.data.toList 0) (nAt s.data.toList 1) (nAt s.data.toList 2) X :=
  (vsplit_good s aT aB m w hs S h).mono fun e w' ⟨v, X2, h1, h2, h3, h4⟩ => by
    obtain rfl : X2 = X := bl_inj (h2.trans hX.symm)
    exact ⟨v, h1, h3, h4⟩
/-- What Split answers for what is none. -/
def BadP (w w' : World) (e : Ending) : Prop :=
  ∃ a, e = .returned (.tuple #[.agg #[.int .i64 0, .int .i64 0, .int .i64 0, .slice none 0 0], .iface 135 (.pointer (some a))]) ∧ Below w.heap.size w w'
theorem vsplit_not (s : ByteArray) (aT aB : Addr) (m : Int) (w : World) (hs : s.size < 4294967281) (S : Vs w aT aB m) (h : verErr s.data.toList ≠ 0) :
    Calls Tryd.prog 15 #[.string s] w fun e w' => BadP w w' e :=
  (vsplit_bad s aT aB m w hs S h).mono fun e w' ⟨h1, h2⟩ => by
    obtain ⟨a, ha⟩ := errV_ne aT aB h
    exact ⟨a, by rw [h1, ha], h2⟩

/-- The texts of bytes. -/
def strs (ps : List (List UInt8)) : List ByteArray := ps.map fun p => ⟨p.toArray⟩
theorem bl_strs (ps : List (List UInt8)) : bl (strs ps) = ps := by
  unfold bl strs
  rw [List.map_map]
  conv => rhs; rw [← List.map_id ps]
  apply List.map_congr_left
  intro p _
  rfl
theorem pre_len {l : List UInt8} : (preOf l).length ≤ l.length + 1 := by
  unfold preOf
  split
  · have := cutAt_many 46 (one 45 (restOf l)).2.1
    have h2 := (one_le 45 (restOf l)).2
    have h3 := restOf_le l
    omega
  · simp
theorem pre_size {l p : List UInt8} (h : p ∈ preOf l) : p.length ≤ l.length := by
  unfold preOf at h
  split at h
  · have := cutAt_le 46 _ p h
    have h2 := (one_le 45 (restOf l)).2
    have h3 := restOf_le l
    omega
  · simp at h

end Ve
end Go.Proofs.YtmgpapghdbopiaaDoor
