/-
  What Begins of package ver and the document's HeadOf and DoesBegin answer: the same; nothing old in memory turns.
-/
import Derived.Test.YtjgmngihpmliiaaGreatDoorOrdE
import Derived.Test.YtjgmngihpmliiaaGreatDoorSameT
namespace Go.Proofs.YtjgmngihpmliiaaGreatDoor
open Go.RowKit
namespace Ve

/-- The numbers of a head, in pieces. -/
def headOf (h : List UInt8) : List (List UInt8) := cutAt 46 (restOf h)
def headOk (h : List UInt8) : Bool := marked h && (decide (numsErr (headOf h) = 0) && decide ((headOf h).length ≤ 2))
def beginB (s h : ByteArray) : Bool :=
  decide (verErr s.data.toList = 0) && (decide (h = s) || headOk h.data.toList && (numsOf (headOf h.data.toList) == [nAt s.data.toList 0, nAt s.data.toList 1].take (headOf h.data.toList).length))
theorem str_eq (a : ByteArray) : (a.toList == a.toList) = true := by simp

/-- Begins: no version. -/
theorem begins_bad (s h : ByteArray) (w : World) (hA : Calls Tryz.prog 8 #[.string s] w fun e w' => BadP w w' e) :
    Calls Tryz.prog 18 #[.string s, .string h] w fun e w' => e = .returned (.bool false) ∧ Below w.heap.size w w' := by
  have HA := hid hA
  clear hA
  go_enter Tryz.func18, Tryz.ntmps18
  go_wp2_with fail
  refine HA.out.mono ?_
  rintro e w1 ⟨a, rfl, hb1⟩
  have HB := hid hb1
  clear hb1
  go_wp2_with fail
  go_ret
  exact ⟨rfl, HB.out.alloc HB.out.size _⟩
/-- Begins: the version itself. -/
theorem begins_same (x y z : Int) (X : List ByteArray) (s : ByteArray) (w : World) (hA : Calls Tryz.prog 8 #[.string s] w fun e w' => GoodP w w' e x y z X) :
    Calls Tryz.prog 18 #[.string s, .string s] w fun e w' => e = .returned (.bool true) ∧ Below w.heap.size w w' := by
  have HA := hid hA
  have he := str_eq s
  clear hA
  go_enter Tryz.func18, Tryz.ntmps18
  go_wp2_with fail
  refine HA.out.mono ?_
  rintro e w1 ⟨v, rfl, hst, hb1⟩
  obtain ⟨pa, na, ca, rfl⟩ := hst.slice
  have HB := hid hb1
  clear hb1 hst
  go_wp2_with fail
  go_ret
  exact ⟨rfl, HB.out.alloc HB.out.size _⟩

theorem owned_int {w : World} {base : Nat} {v : Value} {xs : List Int} (h : w.ownsRow base 3 1 v xs.length (xs.map (Value.int .i64))) (hx : xs ≠ []) :
    ∃ g cap, v = .slice (some ⟨g, 0, none⟩) xs.length cap ∧ base ≤ g ∧ g < w.heap.size ∧ ∀ j, j < xs.length → w.cell? ⟨g, 0 + j, none⟩ = some (.int .i64 (xs.getD j 0)) := by
  obtain ⟨hl, ⟨_, h1⟩ | ⟨g, cap, cur, e1, e2, e3, e4, e5, e6, e7⟩⟩ := h
  · exact absurd (List.length_eq_zero_iff.1 h1) hx
  · refine ⟨g, cap, e1, e2, lt_of_blk e3, fun j hj => ?_⟩
    have hc : cur[j]? = some (.int .i64 (xs.getD j 0)) := by
      have h3 : (cur.toList.take (xs.length * 1))[j]? = cur[j]? := by
        rw [List.getElem?_take_of_lt (by omega)]; simp
      rw [← h3, e7, List.getElem?_map, List.getElem?_eq_getElem hj, List.getD_eq_getElem?_getD, List.getElem?_eq_getElem hj]; rfl
    simp [World.cell?, e3, hc]

set_option maxHeartbeats 1000000 in
theorem begins_unmarked (x y z : Int) (X : List ByteArray) (s h : ByteArray) (aT aB : Addr) (m : Int) (w : World) (hh : h.size < 4294967281) (S : Vs w aT aB m) (hA : Calls Tryz.prog 8 #[.string s] w fun e w' => GoodP w w' e x y z X) (hne : (h.toList == s.toList) = false) (hm : marked h.data.toList = false) :
    Calls Tryz.prog 18 #[.string s, .string h] w fun e w' => e = .returned (.bool false) ∧ Below w.heap.size w w' := by
  have HM := hid hm
  clear hm
  have HA := hid hA
  have HS := hid S
  clear hA S
  go_enter Tryz.func18, Tryz.ntmps18
  go_wp2_with fail
  refine HA.out.mono ?_
  rintro e w1 ⟨v, rfl, hst, hb1⟩
  obtain ⟨pa, na, ca, rfl⟩ := hst.slice
  have HB1 := hid hb1
  have HBA := hid ((Below.refl w1.heap.size w1).alloc (Nat.le_refl _) (.cells #[.int .i64 x, .int .i64 y, .int .i64 z, .slice pa na ca] 30))
  have HS1 := hid ((HS.out.below hb1).below HBA.out)
  clear hb1 hst
  go_wp2_with fail
  refine (cutPrefix_any h _).mono ?_
  rintro e w' ⟨R, rfl, hR, rfl⟩
  rw [HM.out]
  have HR := hid hR
  have hRs : R.size < 4294967281 := by
    have h1 := size_of hR
    have h2 := restOf_le h.data.toList
    simp at h2; omega
  clear hR
  go_wp2_with fail
  refine (nums_any R aT aB m _ hRs HS1.out).mono ?_
  rintro e w2 ⟨v, rfl, hown, hb2⟩
  have hCC : cutAt 46 R.data.toList = headOf h.data.toList := by rw [HR.out]; rfl
  rw [hCC] at hown ⊢
  obtain ⟨⟨r0, r1, r2, r3⟩, rf, rz⟩ := res4 (hb2.mono (by simp))
  have HB12 := hid (HBA.out.trans (hb2.mono (by simp)))
  have HB3 := hid (HB1.out.trans (HB12.out.mono HB1.out.size))
  clear hb2 hCC
  obtain ⟨pn, nn, cn, rfl⟩ := owned_slice hown
  clear hown
  have HE := hid (numsErr_err (headOf h.data.toList))
  obtain ⟨ev, hev⟩ : ∃ ev, errV aT aB (numsErr (headOf h.data.toList)) = ev := ⟨_, rfl⟩
  rcases HE.out with h0 | h0 | h0
  · rw [h0, errV0]
    clear hev h0
    go_wp2_with fail
    go_ret
    exact ⟨rfl, HB3.out⟩
  · rw [h0, errV1]
    clear hev h0
    go_wp2_with fail
    go_ret
    exact ⟨rfl, HB3.out⟩
  · rw [h0, errV2]
    clear hev h0
    go_wp2_with fail
    go_ret
    exact ⟨rfl, HB3.out⟩

set_option maxHeartbeats 1000000 in
theorem begins_err (x y z : Int) (X : List ByteArray) (s h : ByteArray) (aT aB : Addr) (m : Int) (w : World) (hh : h.size < 4294967281) (S : Vs w aT aB m) (hA : Calls Tryz.prog 8 #[.string s] w fun e w' => GoodP w w' e x y z X) (hne : (h.toList == s.toList) = false) (hm : marked h.data.toList = true) (he : numsErr (headOf h.data.toList) ≠ 0) :
    Calls Tryz.prog 18 #[.string s, .string h] w fun e w' => e = .returned (.bool false) ∧ Below w.heap.size w w' := by
  have HM := hid hm
  obtain ⟨a9, ha9⟩ := errV_ne aT aB he
  have HE := hid ha9
  clear hm ha9 he
  have HA := hid hA
  have HS := hid S
  clear hA S
  go_enter Tryz.func18, Tryz.ntmps18
  go_wp2_with fail
  refine HA.out.mono ?_
  rintro e w1 ⟨v, rfl, hst, hb1⟩
  obtain ⟨pa, na, ca, rfl⟩ := hst.slice
  have HB1 := hid hb1
  have HBA := hid ((Below.refl w1.heap.size w1).alloc (Nat.le_refl _) (.cells #[.int .i64 x, .int .i64 y, .int .i64 z, .slice pa na ca] 30))
  have HS1 := hid ((HS.out.below hb1).below HBA.out)
  clear hb1 hst
  go_wp2_with fail
  refine (cutPrefix_any h _).mono ?_
  rintro e w' ⟨R, rfl, hR, rfl⟩
  rw [HM.out]
  have HR := hid hR
  have hRs : R.size < 4294967281 := by
    have h1 := size_of hR
    have h2 := restOf_le h.data.toList
    simp at h2; omega
  clear hR
  go_wp2_with fail
  refine (nums_any R aT aB m _ hRs HS1.out).mono ?_
  rintro e w2 ⟨v, rfl, hown, hb2⟩
  have hCC : cutAt 46 R.data.toList = headOf h.data.toList := by rw [HR.out]; rfl
  rw [hCC] at hown ⊢
  obtain ⟨⟨r0, r1, r2, r3⟩, rf, rz⟩ := res4 (hb2.mono (by simp))
  have HB12 := hid (HBA.out.trans (hb2.mono (by simp)))
  have HB3 := hid (HB1.out.trans (HB12.out.mono HB1.out.size))
  clear hb2 hCC
  obtain ⟨pn, nn, cn, rfl⟩ := owned_slice hown
  clear hown
  rw [HE.out]
  go_wp2_with fail
  go_ret
  exact ⟨rfl, HB3.out⟩

set_option maxHeartbeats 1000000 in
theorem begins_long (x y z : Int) (X : List ByteArray) (s h : ByteArray) (aT aB : Addr) (m : Int) (w : World) (hh : h.size < 4294967281) (S : Vs w aT aB m) (hA : Calls Tryz.prog 8 #[.string s] w fun e w' => GoodP w w' e x y z X) (hne : (h.toList == s.toList) = false) (hm : marked h.data.toList = true) (he : numsErr (headOf h.data.toList) = 0) (hl : 2 < (headOf h.data.toList).length) :
    Calls Tryz.prog 18 #[.string s, .string h] w fun e w' => e = .returned (.bool false) ∧ Below w.heap.size w w' := by
  have HM := hid hm
  have HE := hid (show errV aT aB (numsErr (headOf h.data.toList)) = .nilIface by rw [he]; rfl)
  have hl2 : decide (2 < ((headOf h.data.toList).length : Int)) = true := decide_eq_true (by omega)
  have hn0 : headOf h.data.toList ≠ [] := by intro e; rw [e] at hl; simp at hl
  clear hm he
  have HA := hid hA
  have HS := hid S
  clear hA S
  go_enter Tryz.func18, Tryz.ntmps18
  go_wp2_with fail
  refine HA.out.mono ?_
  rintro e w1 ⟨v, rfl, hst, hb1⟩
  obtain ⟨pa, na, ca, rfl⟩ := hst.slice
  have HB1 := hid hb1
  have HBA := hid ((Below.refl w1.heap.size w1).alloc (Nat.le_refl _) (.cells #[.int .i64 x, .int .i64 y, .int .i64 z, .slice pa na ca] 30))
  have HS1 := hid ((HS.out.below hb1).below HBA.out)
  clear hb1 hst
  go_wp2_with fail
  refine (cutPrefix_any h _).mono ?_
  rintro e w' ⟨R, rfl, hR, rfl⟩
  rw [HM.out]
  have HR := hid hR
  have hRs : R.size < 4294967281 := by
    have h1 := size_of hR
    have h2 := restOf_le h.data.toList
    simp at h2; omega
  clear hR
  go_wp2_with fail
  refine (nums_any R aT aB m _ hRs HS1.out).mono ?_
  rintro e w2 ⟨v, rfl, hown, hb2⟩
  have hCC : cutAt 46 R.data.toList = headOf h.data.toList := by rw [HR.out]; rfl
  rw [hCC] at hown ⊢
  obtain ⟨⟨r0, r1, r2, r3⟩, rf, rz⟩ := res4 (hb2.mono (by simp))
  have HB12 := hid (HBA.out.trans (hb2.mono (by simp)))
  have HB3 := hid (HB1.out.trans (HB12.out.mono HB1.out.size))
  clear hb2 hCC
  obtain ⟨gn, cn, rfl⟩ : ∃ g c, v = .slice (some ⟨g, 0, none⟩) (headOf h.data.toList).length c := by
    obtain ⟨_, ⟨_, hz⟩ | ⟨g, cap, cur, e1, _⟩⟩ := hown
    · exact absurd (List.length_eq_zero_iff.1 hz) hn0
    · exact ⟨g, cap, e1⟩
  clear hown
  rw [HE.out]
  generalize (headOf h.data.toList).length = n at *
  go_wp2_with fail
  go_ret
  exact ⟨rfl, HB3.out⟩

set_option maxHeartbeats 1000000 in
theorem begins_1 (x y z : Int) (X : List ByteArray) (s h : ByteArray) (aT aB : Addr) (m : Int) (w : World) (hh : h.size < 4294967281) (S : Vs w aT aB m) (hA : Calls Tryz.prog 8 #[.string s] w fun e w' => GoodP w w' e x y z X) (hne : (h.toList == s.toList) = false) (hm : marked h.data.toList = true) (he : numsErr (headOf h.data.toList) = 0) (hl : (headOf h.data.toList).length = 1) (a : Int) (hx : numsOf (headOf h.data.toList) = [a]) :
    Calls Tryz.prog 18 #[.string s, .string h] w fun e w' => e = .returned (.bool ([a] == [x, y].take 1)) ∧ Below w.heap.size w w' := by
  have HM := hid hm
  have HE := hid (show errV aT aB (numsErr (headOf h.data.toList)) = .nilIface by rw [he]; rfl)
  have HLN := hid hl
  have HX := hid hx
  clear hm he hl hx
  have HA := hid hA
  have HS := hid S
  clear hA S
  go_enter Tryz.func18, Tryz.ntmps18
  go_wp2_with fail
  refine HA.out.mono ?_
  rintro e w1 ⟨v, rfl, hst, hb1⟩
  obtain ⟨pa, na, ca, rfl⟩ := hst.slice
  have HB1 := hid hb1
  have HBA := hid ((Below.refl w1.heap.size w1).alloc (Nat.le_refl _) (.cells #[.int .i64 x, .int .i64 y, .int .i64 z, .slice pa na ca] 30))
  have HS1 := hid ((HS.out.below hb1).below HBA.out)
  clear hb1 hst
  go_wp2_with fail
  refine (cutPrefix_any h _).mono ?_
  rintro e w' ⟨R, rfl, hR, rfl⟩
  rw [HM.out]
  have HR := hid hR
  have hRs : R.size < 4294967281 := by
    have h1 := size_of hR
    have h2 := restOf_le h.data.toList
    simp at h2; omega
  clear hR
  go_wp2_with fail
  refine (nums_any R aT aB m _ hRs HS1.out).mono ?_
  rintro e w2 ⟨v, rfl, hown, hb2⟩
  have hCC : cutAt 46 R.data.toList = headOf h.data.toList := by rw [HR.out]; rfl
  rw [hCC] at hown ⊢
  obtain ⟨⟨r0, r1, r2, r3⟩, rf, rz⟩ := res4 (hb2.mono (by simp))
  have HB12 := hid (HBA.out.trans (hb2.mono (by simp)))
  have HB3 := hid (HB1.out.trans (HB12.out.mono HB1.out.size))
  clear hb2 hCC
  rw [HLN.out, HX.out] at hown
  obtain ⟨g, cap, rfl, hg1, hg2, hgc⟩ := owned_int (xs := [a]) hown (by simp)
  have HGC := hid hgc
  have HG := hid hg2
  have HBN := hid ((Below.refl w2.heap.size w2).alloc (Nat.le_refl _) (.cells #[.int .i64 x, .int .i64 y] 3))
  clear hown hgc hg1 hg2
  rw [HE.out]
  go_wp2_with fail
  refine (Tryz.slices_Equal_int g 0 1 cap w2.heap.size 0 1 2 [a] [x, y] _ (by simp) (by simp) (by omega) (by omega) ?_ ?_).mono ?_
  · intro j hj
    have := HGC.out j hj
    exact cell_below HBN.out this
  · intro j hj
    rw [World.cell?_alloc_at _ _ _ _ rfl]
    match j, hj with
    | 0, _ => rfl
    | 1, _ => rfl
  rintro e w3 ⟨rfl, q, rfl⟩
  generalize hq : (List.take 1 [a] == List.take 1 [x, y]) = bq
  have HQ := hid hq
  clear hq
  go_wp2_with fail
  go_ret
  exact ⟨ret_bool (by rw [← HQ.out]; rfl), below_drew (HB3.out.trans (HBN.out.mono HB3.out.size)) _⟩

set_option maxHeartbeats 1000000 in
theorem begins_2 (x y z : Int) (X : List ByteArray) (s h : ByteArray) (aT aB : Addr) (m : Int) (w : World) (hh : h.size < 4294967281) (S : Vs w aT aB m) (hA : Calls Tryz.prog 8 #[.string s] w fun e w' => GoodP w w' e x y z X) (hne : (h.toList == s.toList) = false) (hm : marked h.data.toList = true) (he : numsErr (headOf h.data.toList) = 0) (hl : (headOf h.data.toList).length = 2) (a b : Int) (hx : numsOf (headOf h.data.toList) = [a, b]) :
    Calls Tryz.prog 18 #[.string s, .string h] w fun e w' => e = .returned (.bool ([a, b] == [x, y].take 2)) ∧ Below w.heap.size w w' := by
  have HM := hid hm
  have HE := hid (show errV aT aB (numsErr (headOf h.data.toList)) = .nilIface by rw [he]; rfl)
  have HLN := hid hl
  have HX := hid hx
  clear hm he hl hx
  have HA := hid hA
  have HS := hid S
  clear hA S
  go_enter Tryz.func18, Tryz.ntmps18
  go_wp2_with fail
  refine HA.out.mono ?_
  rintro e w1 ⟨v, rfl, hst, hb1⟩
  obtain ⟨pa, na, ca, rfl⟩ := hst.slice
  have HB1 := hid hb1
  have HBA := hid ((Below.refl w1.heap.size w1).alloc (Nat.le_refl _) (.cells #[.int .i64 x, .int .i64 y, .int .i64 z, .slice pa na ca] 30))
  have HS1 := hid ((HS.out.below hb1).below HBA.out)
  clear hb1 hst
  go_wp2_with fail
  refine (cutPrefix_any h _).mono ?_
  rintro e w' ⟨R, rfl, hR, rfl⟩
  rw [HM.out]
  have HR := hid hR
  have hRs : R.size < 4294967281 := by
    have h1 := size_of hR
    have h2 := restOf_le h.data.toList
    simp at h2; omega
  clear hR
  go_wp2_with fail
  refine (nums_any R aT aB m _ hRs HS1.out).mono ?_
  rintro e w2 ⟨v, rfl, hown, hb2⟩
  have hCC : cutAt 46 R.data.toList = headOf h.data.toList := by rw [HR.out]; rfl
  rw [hCC] at hown ⊢
  obtain ⟨⟨r0, r1, r2, r3⟩, rf, rz⟩ := res4 (hb2.mono (by simp))
  have HB12 := hid (HBA.out.trans (hb2.mono (by simp)))
  have HB3 := hid (HB1.out.trans (HB12.out.mono HB1.out.size))
  clear hb2 hCC
  rw [HLN.out, HX.out] at hown
  obtain ⟨g, cap, rfl, hg1, hg2, hgc⟩ := owned_int (xs := [a, b]) hown (by simp)
  have HGC := hid hgc
  have HG := hid hg2
  have HBN := hid ((Below.refl w2.heap.size w2).alloc (Nat.le_refl _) (.cells #[.int .i64 x, .int .i64 y] 3))
  clear hown hgc hg1 hg2
  rw [HE.out]
  go_wp2_with fail
  refine (Tryz.slices_Equal_int g 0 2 cap w2.heap.size 0 2 2 [a, b] [x, y] _ (by simp) (by simp) (by omega) (by omega) ?_ ?_).mono ?_
  · intro j hj
    have := HGC.out j hj
    exact cell_below HBN.out this
  · intro j hj
    rw [World.cell?_alloc_at _ _ _ _ rfl]
    match j, hj with
    | 0, _ => rfl
    | 1, _ => rfl
  rintro e w3 ⟨rfl, q, rfl⟩
  generalize hq : (List.take 2 [a, b] == List.take 2 [x, y]) = bq
  have HQ := hid hq
  clear hq
  go_wp2_with fail
  go_ret
  exact ⟨ret_bool (by rw [← HQ.out]; rfl), below_drew (HB3.out.trans (HBN.out.mono HB3.out.size)) _⟩

theorem headOf_pos (l : List UInt8) : 0 < (headOf l).length := List.length_pos_iff.2 (cutAt_ne 46 _)
theorem begins_any (s h : ByteArray) (aT aB : Addr) (m : Int) (w : World) (hs : s.size < 999999) (hh : h.size < 4294967281) (S : Vs w aT aB m) :
    Calls Tryz.prog 18 #[.string s, .string h] w fun e w' => e = .returned (.bool (beginB s h)) ∧ Below w.heap.size w w' := by
  unfold beginB
  by_cases h1 : verErr s.data.toList = 0
  · obtain ⟨X, hX⟩ : ∃ X, bl X = preOf s.data.toList := ⟨_, bl_strs _⟩
    have hA := vsplit_is s aT aB m w (by omega) S h1 X hX
    rw [decide_eq_true h1, Bool.true_and]
    by_cases h2 : h = s
    · subst h2
      rw [decide_eq_true rfl, Bool.true_or]
      exact begins_same _ _ _ X h w hA
    · rw [decide_eq_false h2, Bool.false_or]
      have hne := str_ne h2
      unfold headOk
      cases hm : marked h.data.toList
      · exact begins_unmarked _ _ _ X s h aT aB m w hh S hA hne hm
      · rw [Bool.true_and]
        by_cases he : numsErr (headOf h.data.toList) = 0
        · rw [decide_eq_true he, Bool.true_and]
          by_cases hl : (headOf h.data.toList).length ≤ 2
          · rw [decide_eq_true hl, Bool.true_and]
            have hp := headOf_pos h.data.toList
            have hlen := numsOf_len (headOf h.data.toList)
            by_cases l1 : (headOf h.data.toList).length = 1
            · obtain ⟨a, ha⟩ := List.length_eq_one_iff.1 (hlen.trans l1)
              rw [l1, ha]
              exact begins_1 _ _ _ X s h aT aB m w hh S hA hne hm he l1 a ha
            · have l2 : (headOf h.data.toList).length = 2 := by omega
              obtain ⟨a, b, ha⟩ : ∃ a b, numsOf (headOf h.data.toList) = [a, b] := by
                match hq : numsOf (headOf h.data.toList), hlen.trans l2 with
                | [a, b], _ => exact ⟨a, b, rfl⟩
              rw [l2, ha]
              exact begins_2 _ _ _ X s h aT aB m w hh S hA hne hm he l2 a b ha
          · rw [decide_eq_false hl, Bool.false_and]
            exact begins_long _ _ _ X s h aT aB m w hh S hA hne hm he (by omega)
        · rw [decide_eq_false he, Bool.false_and, Bool.false_and]
          exact begins_err _ _ _ X s h aT aB m w hh S hA hne hm he
  · rw [decide_eq_false h1, Bool.false_and]
    exact begins_bad s h w (vsplit_not s aT aB m w (by omega) S h1)
end Ve
end Go.Proofs.YtjgmngihpmliiaaGreatDoor
