/-
  What the document's sign, orderPart, OrderVer, IsVer, IsLess and MaxOf answer; nothing old in memory turns.
-/
import Derived.Test.YtmgpapghdbopiaaGreatDoorVerR
import Derived.Test.YtmgpapghdbopiaaGreatDoorVerQ
import Derived.Test.YtmgpapghdbopiaaGreatDoorVerOA
namespace Go.Proofs.YtmgpapghdbopiaaGreatDoor
open Go.RowKit
namespace Ve

theorem ver_parts {l : List UInt8} (h : verErr l = 0) : ∀ p, p ∈ preOf l → part p = 0 := by
  intro p hp
  unfold verErr at h
  split at h
  · cases h
  · cases hh : hasPre l
    · unfold preOf at hp; rw [hh] at hp; simp at hp
    · rw [hh] at h
      simp only [if_true] at h
      refine pre_parts ?_ p hp
      unfold worse at h
      split at h
      · rename_i hc
        rcases hc with hc | hc
        · omega
        · exact hc
      · exact h

theorem sign_any (l m : Bool) (w : World) : Calls Tryz.prog 71 #[.bool l, .bool m] w fun e w' => e = .returned (.int .i64 (if l then -1 else if m then 1 else 0)) ∧ w' = w := by
  cases l <;> cases m
  all_goals
    go_enter Tryz.func71, Tryz.ntmps71
    go_wp2
    go_ret
    exact ⟨rfl, rfl⟩
theorem sign_is (l m : Bool) (k : Int) (w : World) (hk : (if l then (-1 : Int) else if m then 1 else 0) = k) : Calls Tryz.prog 71 #[.bool l, .bool m] w fun e w' => e = .returned (.int .i64 k) ∧ w' = w := by
  rw [← hk]; exact sign_any l m w
theorem sign_int (x y : Int) : (if decide (x < y) then (-1 : Int) else if decide (x > y) then 1 else 0) = Lib.compareInt x y := by
  unfold Lib.compareInt; simp
theorem sign_bytes (a b : List UInt8) : (if Op.bytesLess a b then (-1 : Int) else if !(Op.bytesLess a b || a == b) then 1 else 0) = Lib.compareBytes a b := by
  rw [cb_more, cb_less]
  rcases cb_range a b with h | h | h <;> rw [h] <;> rfl
theorem toList_data (s : ByteArray) : s.toList = s.data.toList := ByteArray.toList_eq s

set_option maxHeartbeats 1000000 in
theorem opart_any (s t : ByteArray) (w : World) (hs : s.size ≤ maxLen) (ht : t.size ≤ maxLen) :
    Calls Tryz.prog 72 #[.string s, .string t] w fun e w' => e = .returned (.int .i64 (ordPartN s.data.toList t.data.toList)) ∧ w' = w := by
  have HO := hid (show ordPartN s.data.toList t.data.toList = if digs s.data.toList then (if digs t.data.toList then Lib.compareInt (num s.data.toList).1 (num t.data.toList).1 else -1) else if digs t.data.toList then 1 else Lib.compareBytes s.data.toList t.data.toList from rfl)
  have HS := hid (areDigits_any s w hs)
  have HT := hid (areDigits_any t w ht)
  have NS := hid (numberOf_any s w hs)
  have NT := hid (numberOf_any t w ht)
  have HI := hid (sign_int (num s.data.toList).1 (num t.data.toList).1)
  have HB := hid ((sign_bytes s.toList t.toList).trans (by rw [toList_data, toList_data]))
  have hgt : ∀ W : World, (binOp BinOp.gtr 9 (.string s) (.string t)).run Tryz.prog W = .ok (.bool (!(Op.bytesLess s.toList t.toList || s.toList == t.toList))) W := fun _ => rfl
  clear hs ht
  cases h1 : digs s.data.toList
  all_goals cases h2 : digs t.data.toList
  all_goals rw [h1] at HS HO
  all_goals rw [h2] at HT HO
  all_goals clear h1 h2
  · go_enter Tryz.func72, Tryz.ntmps72
    go_wp2_with fail
    refine HS.out.mono ?_
    rintro e w' ⟨rfl, rfl⟩
    go_wp2_with fail
    refine HT.out.mono ?_
    rintro e w' ⟨rfl, rfl⟩
    go_wp2_with fail
    refine (sign_is _ _ (Lib.compareBytes s.data.toList t.data.toList) _ ?hk).mono ?_
    case hk => rw [← Bool.not_or]; exact HB.out
    rintro e w' ⟨rfl, rfl⟩
    go_wp2_with fail
    go_ret
    exact ⟨ret_int (by rw [HO.out]; rfl), rfl⟩
  · go_enter Tryz.func72, Tryz.ntmps72
    go_wp2_with fail
    refine HS.out.mono ?_
    rintro e w' ⟨rfl, rfl⟩
    go_wp2_with fail
    refine HT.out.mono ?_
    rintro e w' ⟨rfl, rfl⟩
    go_wp2_with fail
    refine (sign_is _ _ 1 _ rfl).mono ?_
    rintro e w' ⟨rfl, rfl⟩
    go_wp2_with fail
    go_ret
    exact ⟨ret_int (by rw [HO.out]; rfl), rfl⟩
  · go_enter Tryz.func72, Tryz.ntmps72
    go_wp2_with fail
    refine HS.out.mono ?_
    rintro e w' ⟨rfl, rfl⟩
    go_wp2_with fail
    refine HT.out.mono ?_
    rintro e w' ⟨rfl, rfl⟩
    go_wp2_with fail
    refine (sign_is _ _ (-1) _ rfl).mono ?_
    rintro e w' ⟨rfl, rfl⟩
    go_wp2_with fail
    go_ret
    exact ⟨ret_int (by rw [HO.out]; rfl), rfl⟩
  · go_enter Tryz.func72, Tryz.ntmps72
    go_wp2_with fail
    refine HS.out.mono ?_
    rintro e w' ⟨rfl, rfl⟩
    go_wp2_with fail
    refine HT.out.mono ?_
    rintro e w' ⟨rfl, rfl⟩
    go_wp2_with fail
    refine NS.out.mono ?_
    rintro e w' ⟨rfl, rfl⟩
    go_wp2_with fail
    refine NT.out.mono ?_
    rintro e w' ⟨rfl, rfl⟩
    go_wp2_with fail
    refine (sign_is _ _ _ _ HI.out).mono ?_
    rintro e w' ⟨rfl, rfl⟩
    go_wp2_with fail
    go_ret
    exact ⟨ret_int (by rw [HO.out]; rfl), rfl⟩

theorem isVer_any (s : ByteArray) (w : World) (hs : s.size < 4294967281) :
    Calls Tryz.prog 47 #[.string s] w fun e w' => e = .returned (.bool (decide (verErr s.data.toList = 0))) ∧ Below w.heap.size w w' := by
  have HV := hid (verOf_any s w hs)
  by_cases h : verErr s.data.toList = 0
  · have HH := hid h
    clear h
    go_enter Tryz.func47, Tryz.ntmps47
    go_wp2_with fail
    refine HV.out.mono ?_
    rintro e w1 ⟨h1, hb⟩
    have HB := hid hb
    clear hb
    rcases h1 with ⟨h1, _⟩ | ⟨_, sa, cap, X2, rfl, _⟩
    · exact absurd HH.out h1
    go_wp2_with fail
    go_ret
    exact ⟨ret_bool (by rw [HH.out]; rfl), HB.out.alloc HB.out.size _⟩
  · have HH := hid h
    have hz : ((verErr s.data.toList : Int) == 0) = false := beq_eq_false_iff_ne.2 (by omega)
    clear h
    go_enter Tryz.func47, Tryz.ntmps47
    go_wp2_with fail
    refine HV.out.mono ?_
    rintro e w1 ⟨h1, hb⟩
    have HB := hid hb
    clear hb
    rcases h1 with ⟨_, rfl⟩ | ⟨h1, _⟩
    · go_wp2_with fail
      go_ret
      exact ⟨ret_bool (by rw [decide_eq_false HH.out]), HB.out.alloc HB.out.size _⟩
    · exact absurd h1 HH.out
end Ve
end Go.Proofs.YtmgpapghdbopiaaGreatDoor
