
import Derived.Test.YtjbmjnbkibmkpaaGreatDoorGt9
import Derived.Test.YtjbmjnbkibmkpaaGreatDoorGt3
import Derived.Test.YtjbmjnbkibmkpaaGreatDoorGt6
import Derived.Test.YtjbmjnbkibmkpaaGreatDoorGt5
import Derived.Deep.RegionHeld
import Derived.Test.YtjbmjnbkibmkpaaGreatDoorGt2
import Derived.Test.YtjbmjnbkibmkpaaGreatDoorGt7
set_option maxHeartbeats 8000000
namespace Go.Proofs.YtjbmjnbkibmkpaaGreatDoor
open Go.RowKit
namespace Ve
def headOf (h : List UInt8) : List (List UInt8):=cutAt 46 (restOf h)
def headOk (h : List UInt8) : Bool:=marked h && (decide (numsErr (headOf h) = 0) && decide ((headOf h).length <= 2))
def beginB (s h : ByteArray) : Bool:=
 decide (verErr s.data.toList = 0) && (decide (h = s) || headOk h.data.toList && (numsOf (headOf h.data.toList) == [nAt s.data.toList 0,nAt s.data.toList 1].take (headOf h.data.toList).length))
def headErr (l : List UInt8) : Nat:=if marked l = false \/ 2 < (headOf l).length then 1 else numsErr (headOf l)
theorem headErr_nums {l : List UInt8} (h1 : marked l = true) (h2 : ¬ 2 < (headOf l).length) : headErr l = numsErr (headOf l):=by
 unfold headErr
 rw [if_neg]
 rintro (h | h)
 ·rw [h1] at h; cases h
 ·exact h2 h
theorem headErr_ok {l : List UInt8} (h : headOk l = true) : headErr l = 0:=by
 unfold headOk at h
 rw [Bool.and_eq_true,Bool.and_eq_true] at h
 rw [headErr_nums h.1 (by have:=of_decide_eq_true h.2.2; omega)]
 exact of_decide_eq_true h.2.1
theorem str_eq (a : ByteArray) : (a.toList == a.toList) = true:=by simp
theorem begins_bad (s h : ByteArray) (w : World) (hA : Calls Tryz.prog 35 #[.string s] w fun e w'=>BadP w w' e) :
  Calls Tryz.prog 199 #[.string s,.string h] w fun e w'=>e = .returned (.bool false) /\ Below w.heap.size w w':=by
 have HA:=hid hA
 clear hA
 go_enter Tryz.func199,Tryz.ntmps199
 go_wp2_with fail
 refine HA.out.mono ?_
 rintro e w1 ⟨a,rfl,hb1⟩
 have HB:=hid hb1
 clear hb1
 go_wp2_with fail
 go_ret
 exact ⟨rfl,HB.out.alloc HB.out.size _⟩
theorem begins_same (x y z : Int) (X : List ByteArray) (s : ByteArray) (w : World) (hA : Calls Tryz.prog 35 #[.string s] w fun e w'=>GoodP w w' e x y z X) :
  Calls Tryz.prog 199 #[.string s,.string s] w fun e w'=>e = .returned (.bool true) /\ Below w.heap.size w w':=by
 have HA:=hid hA
 have he:=str_eq s
 clear hA
 go_enter Tryz.func199,Tryz.ntmps199
 go_wp2_with fail
 refine HA.out.mono ?_
 rintro e w1 ⟨v,rfl,hst,hb1⟩
 obtain ⟨pa,na,ca,rfl⟩:=hst.slice
 have HB:=hid hb1
 clear hb1 hst
 go_wp2_with fail
 go_ret
 exact ⟨rfl,HB.out.alloc HB.out.size _⟩
theorem owned_int {w : World} {base : Nat} {v : Value} {xs : List Int} (h : w.ownsRow base 3 1 v xs.length (xs.map (Value.int .i64))) (hx : xs ≠ []) :
  ∃ g cap,v = .slice (some ⟨g,0,none⟩) xs.length cap /\ base <= g /\ g < w.heap.size /\ ∀ j,j < xs.length -> w.cell? ⟨g,0 + j,none⟩ = some (.int .i64 (xs.getD j 0)):=by
 obtain ⟨hl,⟨_,h1⟩ | ⟨g,cap,cur,e1,e2,e3,e4,e5,e6,e7⟩⟩:=h
 ·exact absurd (List.length_eq_zero_iff.1 h1) hx
 ·refine ⟨g,cap,e1,e2,lt_of_blk e3,fun j hj=>?_⟩
  have hc : cur[j]? = some (.int .i64 (xs.getD j 0)):=by
   have h3 : (cur.toList.take (xs.length * 1))[j]? = cur[j]?:=by
    rw [List.getElem?_take_of_lt (by omega)]; simp
   rw [<- h3,e7,List.getElem?_map,List.getElem?_eq_getElem hj,List.getD_eq_getElem?_getD,List.getElem?_eq_getElem hj]; rfl
  simp [World.cell?,e3,hc]
theorem headOf_pos (l : List UInt8) : 0 < (headOf l).length:=List.length_pos_iff.2 (cutAt_ne 46 _)
theorem headErr_no {l : List UInt8} (h : headOk l = false) : headErr l ≠ 0:=by
 unfold headErr
 split
 ·decide
 ·rename_i hc
  intro e
  unfold headOk at h
  have hm : marked l = true:=by
   cases e : marked l
   ·exact absurd (Or.inl e) hc
   ·rfl
  rw [hm,decide_eq_true e,decide_eq_true (show (headOf l).length <= 2 from Nat.le_of_not_lt fun h=>hc (Or.inr h))] at h
  cases h
theorem headErr_err (l : List UInt8) : headErr l = 0 \/ headErr l = 1 \/ headErr l = 2:=by
 unfold headErr
 split
 ·exact Or.inr (Or.inl rfl)
 ·exact numsErr_err _
theorem rhead_unmarked (h : ByteArray) (aT aB : Addr) (m : Int) (w : World) (hh : h.size < 4294967281) (S : Vs w aT aB m) (hm : marked h.data.toList = false) :
  Calls Tryz.prog 113 #[.string h] w fun e w'=>e = .returned (.tuple #[.slice none 0 0,errV aT aB 1]) /\ Below w.heap.size w w':=by
 have HM:=hid hm
 have HS:=hid S
 clear hm S
 go_enter Tryz.func113,Tryz.ntmps113
 go_wp2_with fail
 refine (cutPrefix_any h _).mono ?_
 rintro e w' ⟨R,rfl,hR,rfl⟩
 rw [HM.out]
 have hRs : R.size < 4294967281:=by
  have h1:=size_of hR
  have h2:=restOf_le h.data.toList
  simp at h2; omega
 clear hR
 go_wp2_with fail
 refine (nums_any R aT aB m _ hRs HS.out).mono ?_
 rintro e w2 ⟨v,rfl,hown,hb2⟩
 have HB:=hid hb2
 have g:=(HS.out.below hb2).t
 obtain ⟨pn,nn,cn,rfl⟩:=owned_slice hown
 clear hown hb2
 have HE:=hid (numsErr_err (cutAt 46 R.data.toList))
 rcases HE.out with h0 | h0 | h0
 ·rw [h0,errV0]
  clear h0
  go_wp2_with fail
  go_region_with fail
  all_goals
   go_wp2_with fail
   go_ret2
   exact ⟨rfl,below_drew HB.out _⟩
 ·rw [h0,errV1]
  clear h0
  go_wp2_with fail
  go_region_with fail
  all_goals
   go_wp2_with fail
   go_ret2
   exact ⟨rfl,below_drew HB.out _⟩
 ·rw [h0,errV2]
  clear h0
  go_wp2_with fail
  go_region_with fail
  all_goals
   go_wp2_with fail
   go_ret2
   exact ⟨rfl,below_drew HB.out _⟩
theorem rhead_long (h : ByteArray) (aT aB : Addr) (m : Int) (w : World) (hh : h.size < 4294967281) (S : Vs w aT aB m) (hm : marked h.data.toList = true) (hl : 2 < (headOf h.data.toList).length) :
  Calls Tryz.prog 113 #[.string h] w fun e w'=>e = .returned (.tuple #[.slice none 0 0,errV aT aB 1]) /\ Below w.heap.size w w':=by
 have HM:=hid hm
 have HS:=hid S
 have hl2 : decide (2 < ((headOf h.data.toList).length : Int)) = true:=decide_eq_true (by omega)
 have hl3 : 2 < ((headOf h.data.toList).length : Int):=by omega
 have hn0 : headOf h.data.toList ≠ []:=by intro e; rw [e] at hl; simp at hl
 clear hm S hl
 go_enter Tryz.func113,Tryz.ntmps113
 go_wp2_with fail
 refine (cutPrefix_any h _).mono ?_
 rintro e w' ⟨R,rfl,hR,rfl⟩
 rw [HM.out]
 have HR:=hid hR
 have hRs : R.size < 4294967281:=by
  have h1:=size_of hR
  have h2:=restOf_le h.data.toList
  simp at h2; omega
 clear hR
 go_wp2_with fail
 refine (nums_any R aT aB m _ hRs HS.out).mono ?_
 rintro e w2 ⟨v,rfl,hown,hb2⟩
 have hCC : cutAt 46 R.data.toList = headOf h.data.toList:=by rw [HR.out]; rfl
 rw [hCC] at hown ⊢
 have HB:=hid hb2
 have g:=(HS.out.below hb2).t
 obtain ⟨gn,cn,rfl⟩ : ∃ g c,v = .slice (some ⟨g,0,none⟩) (headOf h.data.toList).length c:=by
  obtain ⟨_,⟨_,hz⟩ | ⟨g,cap,cur,e1,_⟩⟩:=hown
  ·exact absurd (List.length_eq_zero_iff.1 hz) hn0
  ·exact ⟨g,cap,e1⟩
 clear hown hb2 hCC hn0
 have HE:=hid (numsErr_err (headOf h.data.toList))
 generalize (headOf h.data.toList).length = n at *
 rcases HE.out with h0 | h0 | h0
 ·rw [h0,errV0]
  clear h0
  go_wp2_with fail
  go_region_with fail
  all_goals
   go_wp2_with fail
   go_ret2
   exact ⟨rfl,below_drew HB.out _⟩
 ·rw [h0,errV1]
  clear h0
  go_wp2_with fail
  go_region_with fail
  all_goals
   go_wp2_with fail
   go_ret2
   exact ⟨rfl,below_drew HB.out _⟩
 ·rw [h0,errV2]
  clear h0
  go_wp2_with fail
  go_region_with fail
  all_goals
   go_wp2_with fail
   go_ret2
   exact ⟨rfl,below_drew HB.out _⟩
theorem rhead_err (h : ByteArray) (aT aB : Addr) (m : Int) (w : World) (hh : h.size < 4294967281) (S : Vs w aT aB m) (hm : marked h.data.toList = true) (hl : ¬ 2 < (headOf h.data.toList).length) (he : numsErr (headOf h.data.toList) ≠ 0) :
  Calls Tryz.prog 113 #[.string h] w fun e w'=>e = .returned (.tuple #[.slice none 0 0,errV aT aB (numsErr (headOf h.data.toList))]) /\ Below w.heap.size w w':=by
 have HM:=hid hm
 have HS:=hid S
 obtain ⟨a9,ha9⟩:=errV_ne aT aB he
 have HE:=hid ha9
 have hl2 : decide (2 < ((headOf h.data.toList).length : Int)) = false:=decide_eq_false (by omega)
 have hl3 : ¬ 2 < ((headOf h.data.toList).length : Int):=by omega
 have hn0 : headOf h.data.toList ≠ []:=List.length_pos_iff.1 (headOf_pos _)
 clear hm S hl he ha9
 go_enter Tryz.func113,Tryz.ntmps113
 go_wp2_with fail
 refine (cutPrefix_any h _).mono ?_
 rintro e w' ⟨R,rfl,hR,rfl⟩
 rw [HM.out]
 have HR:=hid hR
 have hRs : R.size < 4294967281:=by
  have h1:=size_of hR
  have h2:=restOf_le h.data.toList
  simp at h2; omega
 clear hR
 go_wp2_with fail
 refine (nums_any R aT aB m _ hRs HS.out).mono ?_
 rintro e w2 ⟨v,rfl,hown,hb2⟩
 have hCC : cutAt 46 R.data.toList = headOf h.data.toList:=by rw [HR.out]; rfl
 rw [hCC] at hown ⊢
 have HB:=hid hb2
 obtain ⟨gn,cn,rfl⟩ : ∃ g c,v = .slice (some ⟨g,0,none⟩) (headOf h.data.toList).length c:=by
  obtain ⟨_,⟨_,hz⟩ | ⟨g,cap,cur,e1,_⟩⟩:=hown
  ·exact absurd (List.length_eq_zero_iff.1 hz) hn0
  ·exact ⟨g,cap,e1⟩
 clear hown hb2 hCC hn0
 rw [HE.out]
 generalize (headOf h.data.toList).length = n at *
 go_wp2_with fail
 go_ret2
 exact ⟨by rw [HE.out]; rfl,HB.out⟩
theorem rhead_good (h : ByteArray) (aT aB : Addr) (m : Int) (w : World) (hh : h.size < 4294967281) (S : Vs w aT aB m) (hm : marked h.data.toList = true) (hl : ¬ 2 < (headOf h.data.toList).length) (he : numsErr (headOf h.data.toList) = 0) :
  Calls Tryz.prog 113 #[.string h] w fun e w'=>∃ v,e = .returned (.tuple #[v,.nilIface]) /\ w'.ownsRow w.heap.size 3 1 v (headOf h.data.toList).length ((numsOf (headOf h.data.toList)).map (Value.int .i64)) /\ Below w.heap.size w w':=by
 have HM:=hid hm
 have HS:=hid S
 have HE:=hid (show errV aT aB (numsErr (headOf h.data.toList)) = .nilIface by rw [he]; rfl)
 have hl2 : decide (2 < ((headOf h.data.toList).length : Int)) = false:=decide_eq_false (by omega)
 have hl3 : ¬ 2 < ((headOf h.data.toList).length : Int):=by omega
 have hn0 : headOf h.data.toList ≠ []:=List.length_pos_iff.1 (headOf_pos _)
 clear hm S hl he
 go_enter Tryz.func113,Tryz.ntmps113
 go_wp2_with fail
 refine (cutPrefix_any h _).mono ?_
 rintro e w' ⟨R,rfl,hR,rfl⟩
 rw [HM.out]
 have HR:=hid hR
 have hRs : R.size < 4294967281:=by
  have h1:=size_of hR
  have h2:=restOf_le h.data.toList
  simp at h2; omega
 clear hR
 go_wp2_with fail
 refine (nums_any R aT aB m _ hRs HS.out).mono ?_
 rintro e w2 ⟨v,rfl,hown,hb2⟩
 have hCC : cutAt 46 R.data.toList = headOf h.data.toList:=by rw [HR.out]; rfl
 rw [hCC] at hown ⊢
 have HB:=hid hb2
 have HO:=hid hown
 obtain ⟨gn,cn,hv⟩ : ∃ g c,v = .slice (some ⟨g,0,none⟩) (headOf h.data.toList).length c:=by
  obtain ⟨_,⟨_,hz⟩ | ⟨g,cap,cur,e1,_⟩⟩:=hown
  ·exact absurd (List.length_eq_zero_iff.1 hz) hn0
  ·exact ⟨g,cap,e1⟩
 subst hv
 clear hown hb2 hCC hn0
 rw [HE.out]
 obtain ⟨n,hn⟩ : ∃ n,(headOf h.data.toList).length = n:=⟨_,rfl⟩
 have HN:=hid hn
 rw [hn] at HO hl2 hl3 ⊢
 clear hn
 go_wp2_with fail
 go_ret2
 exact ⟨_,rfl,by rw [HN.out]; exact HO.out,HB.out⟩
theorem rhead_any (h : ByteArray) (aT aB : Addr) (m : Int) (w : World) (hh : h.size < 4294967281) (S : Vs w aT aB m) :
  Calls Tryz.prog 113 #[.string h] w fun e w'=>((headOk h.data.toList = false /\ e = .returned (.tuple #[.slice none 0 0,errV aT aB (headErr h.data.toList)])) \/
   (headOk h.data.toList = true /\ ∃ v,e = .returned (.tuple #[v,.nilIface]) /\ w'.ownsRow w.heap.size 3 1 v (headOf h.data.toList).length ((numsOf (headOf h.data.toList)).map (Value.int .i64)))) /\ Below w.heap.size w w':=by
 cases hm : marked h.data.toList
 ·refine (rhead_unmarked h aT aB m w hh S hm).mono fun e w' ⟨h1,h2⟩=>⟨Or.inl ⟨by unfold headOk; rw [hm]; rfl,?_⟩,h2⟩
  rw [h1]; unfold headErr; rw [if_pos (Or.inl hm)]
 ·by_cases hl : 2 < (headOf h.data.toList).length
  ·refine (rhead_long h aT aB m w hh S hm hl).mono fun e w' ⟨h1,h2⟩=>⟨Or.inl ⟨?_,?_⟩,h2⟩
   ·unfold headOk; rw [decide_eq_false (show ¬ (headOf h.data.toList).length <= 2 by omega),Bool.and_false,Bool.and_false]
   ·rw [h1]; unfold headErr; rw [if_pos (Or.inr hl)]
  ·by_cases he : numsErr (headOf h.data.toList) = 0
   ·refine (rhead_good h aT aB m w hh S hm hl he).mono fun e w' ⟨v,h1,h2,h3⟩=>⟨Or.inr ⟨?_,v,h1,h2⟩,h3⟩
    unfold headOk; rw [hm,decide_eq_true he,decide_eq_true (show (headOf h.data.toList).length <= 2 by omega)]; rfl
   ·refine (rhead_err h aT aB m w hh S hm hl he).mono fun e w' ⟨h1,h2⟩=>⟨Or.inl ⟨?_,?_⟩,h2⟩
    ·unfold headOk; rw [decide_eq_false he,Bool.false_and,Bool.and_false]
    ·rw [h1,headErr_nums hm hl]
theorem chead_any (h : ByteArray) (aT aB : Addr) (m : Int) (w : World) (hh : h.size < 4294967281) (S : Vs w aT aB m) :
  Calls Tryz.prog 66 #[.string h] w fun e w'=>e = .returned (errV aT aB (headErr h.data.toList)) /\ Below w.heap.size w w':=by
 have HR:=hid (rhead_any h aT aB m w hh S)
 clear S
 go_enter Tryz.func66,Tryz.ntmps66
 go_wp2_with fail
 refine HR.out.mono ?_
 rintro e w1 ⟨h1,hb⟩
 have HB:=hid hb
 clear hb
 rcases h1 with ⟨h0,rfl⟩ | ⟨h0,v,rfl,hown⟩
 ·obtain ⟨a,ha⟩:=errV_ne aT aB (headErr_no h0)
  have HE:=hid ha
  rw [ha]
  clear h0 ha
  go_wp2_with fail
  go_ret
  exact ⟨by rw [HE.out]; rfl,HB.out⟩
 ·obtain ⟨pn,nn,cn,rfl⟩:=owned_slice hown
  have HE:=hid (show errV aT aB (headErr h.data.toList) = .nilIface by rw [headErr_ok h0]; rfl)
  clear h0 hown
  go_wp2_with fail
  go_ret
  exact ⟨by rw [HE.out]; rfl,HB.out⟩
theorem begins_no (x y z : Int) (X : List ByteArray) (s h : ByteArray) (aT aB : Addr) (m : Int) (w : World) (hh : h.size < 4294967281) (S : Vs w aT aB m) (hA : Calls Tryz.prog 35 #[.string s] w fun e w'=>GoodP w w' e x y z X) (hne : (h.toList == s.toList) = false) (hk : headOk h.data.toList = false) :
  Calls Tryz.prog 199 #[.string s,.string h] w fun e w'=>e = .returned (.bool false) /\ Below w.heap.size w w':=by
 obtain ⟨a9,ha9⟩:=errV_ne aT aB (headErr_no hk)
 have HE:=hid ha9
 have HK:=hid hk
 clear ha9 hk
 have HA:=hid hA
 have HS:=hid S
 clear hA S
 go_enter Tryz.func199,Tryz.ntmps199
 go_wp2_with fail
 refine HA.out.mono ?_
 rintro e w1 ⟨v,rfl,hst,hb1⟩
 obtain ⟨pa,na,ca,rfl⟩:=hst.slice
 have HB1:=hid hb1
 have HBA:=hid ((Below.refl w1.heap.size w1).alloc (Nat.le_refl _) (.cells #[.int .i64 x,.int .i64 y,.int .i64 z,.slice pa na ca] 66))
 have HS1:=hid ((HS.out.below hb1).below HBA.out)
 clear hb1 hst
 go_wp2_with fail
 refine (rhead_any h aT aB m _ hh HS1.out).mono ?_
 rintro e w2 ⟨h1,hb2⟩
 have HB12:=hid (HBA.out.trans (hb2.mono (by simp)))
 have HB3:=hid (HB1.out.trans (HB12.out.mono HB1.out.size))
 clear hb2
 rcases h1 with ⟨_,rfl⟩ | ⟨h0,_⟩
 ·rw [HE.out]
  go_wp2_with fail
  go_ret
  exact ⟨rfl,HB3.out⟩
 ·rw [HK.out] at h0; cases h0
theorem begins_1 (x y z : Int) (X : List ByteArray) (s h : ByteArray) (aT aB : Addr) (m : Int) (w : World) (hh : h.size < 4294967281) (S : Vs w aT aB m) (hA : Calls Tryz.prog 35 #[.string s] w fun e w'=>GoodP w w' e x y z X) (hne : (h.toList == s.toList) = false) (hk : headOk h.data.toList = true) (hl : (headOf h.data.toList).length = 1) (a : Int) (hx : numsOf (headOf h.data.toList) = [a]) :
  Calls Tryz.prog 199 #[.string s,.string h] w fun e w'=>e = .returned (.bool ([a] == [x,y].take 1)) /\ Below w.heap.size w w':=by
 have HK:=hid hk
 have HLN:=hid hl
 have HX:=hid hx
 clear hk hl hx
 have HA:=hid hA
 have HS:=hid S
 clear hA S
 go_enter Tryz.func199,Tryz.ntmps199
 go_wp2_with fail
 refine HA.out.mono ?_
 rintro e w1 ⟨v,rfl,hst,hb1⟩
 obtain ⟨pa,na,ca,rfl⟩:=hst.slice
 have HB1:=hid hb1
 have HBA:=hid ((Below.refl w1.heap.size w1).alloc (Nat.le_refl _) (.cells #[.int .i64 x,.int .i64 y,.int .i64 z,.slice pa na ca] 66))
 have HS1:=hid ((HS.out.below hb1).below HBA.out)
 clear hb1 hst
 go_wp2_with fail
 refine (rhead_any h aT aB m _ hh HS1.out).mono ?_
 rintro e w2 ⟨h1,hb2⟩
 obtain ⟨⟨r0,r1,r2,r3⟩,rf,rz⟩:=res4 (hb2.mono (by simp))
 have HB12:=hid (HBA.out.trans (hb2.mono (by simp)))
 have HB3:=hid (HB1.out.trans (HB12.out.mono HB1.out.size))
 clear hb2
 rcases h1 with ⟨h0,_⟩ | ⟨_,v,rfl,hown⟩
 ·rw [HK.out] at h0; cases h0
 rw [HLN.out,HX.out] at hown
 obtain ⟨g,cap,rfl,hg1,hg2,hgc⟩:=owned_int (xs:=[a]) hown (by simp)
 have HGC:=hid hgc
 have HG:=hid hg2
 have HBN:=hid ((Below.refl w2.heap.size w2).alloc (Nat.le_refl _) (.cells #[.int .i64 x,.int .i64 y] 3))
 clear hown hgc hg1 hg2
 go_wp2_with fail
 refine (Tryz.slices_Equal_int g 0 1 cap w2.heap.size 0 1 2 [a] [x,y] _ (by simp) (by simp) (by omega) (by omega) ?_ ?_).mono ?_
 ·intro j hj
  have:=HGC.out j hj
  exact cell_below HBN.out this
 ·intro j hj
  rw [World.cell?_alloc_at _ _ _ _ rfl]
  match j,hj with
  | 0,_=>rfl
  | 1,_=>rfl
 rintro e w3 ⟨rfl,q,rfl⟩
 generalize hq : (List.take 1 [a] == List.take 1 [x,y]) = bq
 have HQ:=hid hq
 clear hq
 go_wp2_with fail
 go_ret
 exact ⟨ret_bool (by rw [<- HQ.out]; rfl),below_drew (HB3.out.trans (HBN.out.mono HB3.out.size)) _⟩
theorem begins_2 (x y z : Int) (X : List ByteArray) (s h : ByteArray) (aT aB : Addr) (m : Int) (w : World) (hh : h.size < 4294967281) (S : Vs w aT aB m) (hA : Calls Tryz.prog 35 #[.string s] w fun e w'=>GoodP w w' e x y z X) (hne : (h.toList == s.toList) = false) (hk : headOk h.data.toList = true) (hl : (headOf h.data.toList).length = 2) (a b : Int) (hx : numsOf (headOf h.data.toList) = [a,b]) :
  Calls Tryz.prog 199 #[.string s,.string h] w fun e w'=>e = .returned (.bool ([a,b] == [x,y].take 2)) /\ Below w.heap.size w w':=by
 have HK:=hid hk
 have HLN:=hid hl
 have HX:=hid hx
 clear hk hl hx
 have HA:=hid hA
 have HS:=hid S
 clear hA S
 go_enter Tryz.func199,Tryz.ntmps199
 go_wp2_with fail
 refine HA.out.mono ?_
 rintro e w1 ⟨v,rfl,hst,hb1⟩
 obtain ⟨pa,na,ca,rfl⟩:=hst.slice
 have HB1:=hid hb1
 have HBA:=hid ((Below.refl w1.heap.size w1).alloc (Nat.le_refl _) (.cells #[.int .i64 x,.int .i64 y,.int .i64 z,.slice pa na ca] 66))
 have HS1:=hid ((HS.out.below hb1).below HBA.out)
 clear hb1 hst
 go_wp2_with fail
 refine (rhead_any h aT aB m _ hh HS1.out).mono ?_
 rintro e w2 ⟨h1,hb2⟩
 obtain ⟨⟨r0,r1,r2,r3⟩,rf,rz⟩:=res4 (hb2.mono (by simp))
 have HB12:=hid (HBA.out.trans (hb2.mono (by simp)))
 have HB3:=hid (HB1.out.trans (HB12.out.mono HB1.out.size))
 clear hb2
 rcases h1 with ⟨h0,_⟩ | ⟨_,v,rfl,hown⟩
 ·rw [HK.out] at h0; cases h0
 rw [HLN.out,HX.out] at hown
 obtain ⟨g,cap,rfl,hg1,hg2,hgc⟩:=owned_int (xs:=[a,b]) hown (by simp)
 have HGC:=hid hgc
 have HG:=hid hg2
 have HBN:=hid ((Below.refl w2.heap.size w2).alloc (Nat.le_refl _) (.cells #[.int .i64 x,.int .i64 y] 3))
 clear hown hgc hg1 hg2
 go_wp2_with fail
 refine (Tryz.slices_Equal_int g 0 2 cap w2.heap.size 0 2 2 [a,b] [x,y] _ (by simp) (by simp) (by omega) (by omega) ?_ ?_).mono ?_
 ·intro j hj
  have:=HGC.out j hj
  exact cell_below HBN.out this
 ·intro j hj
  rw [World.cell?_alloc_at _ _ _ _ rfl]
  match j,hj with
  | 0,_=>rfl
  | 1,_=>rfl
 rintro e w3 ⟨rfl,q,rfl⟩
 generalize hq : (List.take 2 [a,b] == List.take 2 [x,y]) = bq
 have HQ:=hid hq
 clear hq
 go_wp2_with fail
 go_ret
 exact ⟨ret_bool (by rw [<- HQ.out]; rfl),below_drew (HB3.out.trans (HBN.out.mono HB3.out.size)) _⟩
theorem begins_any (s h : ByteArray) (aT aB : Addr) (m : Int) (w : World) (hs : s.size < 999999) (hh : h.size < 4294967281) (S : Vs w aT aB m) :
  Calls Tryz.prog 199 #[.string s,.string h] w fun e w'=>e = .returned (.bool (beginB s h)) /\ Below w.heap.size w w':=by
 unfold beginB
 by_cases h1 : verErr s.data.toList = 0
 ·obtain ⟨X,hX⟩ : ∃ X,bl X = preOf s.data.toList:=⟨_,bl_strs _⟩
  have hA:=vsplit_is s aT aB m w (by omega) S h1 X hX
  rw [decide_eq_true h1,Bool.true_and]
  by_cases h2 : h = s
  ·subst h2
   rw [decide_eq_true rfl,Bool.true_or]
   exact begins_same _ _ _ X h w hA
  ·rw [decide_eq_false h2,Bool.false_or]
   have hne:=str_ne h2
   cases hk : headOk h.data.toList
   ·exact begins_no _ _ _ X s h aT aB m w hh S hA hne hk
   ·rw [Bool.true_and]
    have hl : (headOf h.data.toList).length <= 2:=by
     unfold headOk at hk
     rw [Bool.and_eq_true,Bool.and_eq_true] at hk
     exact of_decide_eq_true hk.2.2
    have hp:=headOf_pos h.data.toList
    have hlen:=numsOf_len (headOf h.data.toList)
    by_cases l1 : (headOf h.data.toList).length = 1
    ·obtain ⟨a,ha⟩:=List.length_eq_one_iff.1 (hlen.trans l1)
     rw [l1,ha]
     exact begins_1 _ _ _ X s h aT aB m w hh S hA hne hk l1 a ha
    ·have l2 : (headOf h.data.toList).length = 2:=by omega
     obtain ⟨a,b,ha⟩ : ∃ a b,numsOf (headOf h.data.toList) = [a,b]:=by
      match hq : numsOf (headOf h.data.toList),hlen.trans l2 with
      | [a,b],_=>exact ⟨a,b,rfl⟩
     rw [l2,ha]
     exact begins_2 _ _ _ X s h aT aB m w hh S hA hne hk l2 a b ha
 ·rw [decide_eq_false h1,Bool.false_and]
  exact begins_bad s h w (vsplit_not s aT aB m w (by omega) S h1)
end Ve
end Go.Proofs.YtjbmjnbkibmkpaaGreatDoor


namespace Go.Proofs.YtjbmjnbkibmkpaaGreatDoor
open Go.RowKit
namespace Ve
end Ve
end Go.Proofs.YtjbmjnbkibmkpaaGreatDoor


namespace Go.Proofs.YtjbmjnbkibmkpaaGreatDoor
open Go.RowKit
namespace Ve
end Ve
end Go.Proofs.YtjbmjnbkibmkpaaGreatDoor


namespace Go.Proofs.YtjbmjnbkibmkpaaGreatDoor
open Go.RowKit
namespace Ve
def begB (s h : ByteArray) : Bool:=Lib.hasPrefix s.data.toList h.data.toList
end Ve
end Go.Proofs.YtjbmjnbkibmkpaaGreatDoor


namespace Go.Proofs.YtjbmjnbkibmkpaaGreatDoor
open Go.RowKit
namespace Ve
def bLatest : ByteArray:=⟨#[108,97,116,101,115,116]⟩
def bUpgrade : ByteArray:=⟨#[117,112,103,114,97,100,101]⟩
def bPatch : ByteArray:=⟨#[112,97,116,99,104]⟩
def bNone : ByteArray:=⟨#[110,111,110,101]⟩
def bE : ByteArray:=⟨#[]⟩
def sLe : ByteArray:=⟨#[60,61]⟩
def sGe : ByteArray:=⟨#[62,61]⟩
def sLt : ByteArray:=⟨#[60]⟩
def sGt : ByteArray:=⟨#[62]⟩
def isWd (q : ByteArray) : Bool:=decide (q = bLatest) || decide (q = bUpgrade) || decide (q = bPatch) || decide (q = bNone)
def sgn (q : ByteArray) : ByteArray × ByteArray:=
 if begB q sLe then (sLe,q.extract 2 q.size) else if begB q sGe then (sGe,q.extract 2 q.size) else if begB q sLt then (sLt,q.extract 1 q.size) else if begB q sGt then (sGt,q.extract 1 q.size) else (bE,q)
theorem sgn_size (q : ByteArray) : (sgn q).2.size <= q.size:=by
 unfold sgn
 repeat' split
 all_goals simp [ByteArray.size_extract] <;> omega
def qErr (q : ByteArray) : Nat:=
 if isWd q then 0 else if (sgn q).1 ≠ bE \/ verErr (sgn q).2.data.toList ≠ 1 then verErr (sgn q).2.data.toList else headErr q.data.toList
def suitB (q v : ByteArray) : Bool:=
 if (sgn q).1 = sLt then lessB v.data.toList (sgn q).2.data.toList
 else if (sgn q).1 = sLe then !lessB (sgn q).2.data.toList v.data.toList
 else if (sgn q).1 = sGt then lessB (sgn q).2.data.toList v.data.toList
 else if (sgn q).1 = sGe then !lessB v.data.toList (sgn q).2.data.toList
 else if verErr q.data.toList = 0 then decide (v = q) else beginB v q
theorem sgn_kind (q : ByteArray) : (sgn q).1 = sLe \/ (sgn q).1 = sGe \/ (sgn q).1 = sLt \/ (sgn q).1 = sGt \/ ((sgn q).1 = bE /\ (sgn q).2 = q):=by
 unfold sgn
 repeat' split
 ·exact Or.inl rfl
 ·exact Or.inr (Or.inl rfl)
 ·exact Or.inr (Or.inr (Or.inl rfl))
 ·exact Or.inr (Or.inr (Or.inr (Or.inl rfl)))
 ·exact Or.inr (Or.inr (Or.inr (Or.inr ⟨rfl,rfl⟩)))
theorem sg_ne1 : sLe ≠ sGe:=fun e=>absurd (congrArg (fun m : ByteArray=>m.data) e) (by decide)
theorem sg_ne2 : sLe ≠ sLt:=fun e=>absurd (congrArg (fun m : ByteArray=>m.data) e) (by decide)
theorem sg_ne3 : sLe ≠ sGt:=fun e=>absurd (congrArg (fun m : ByteArray=>m.data) e) (by decide)
theorem sg_ne4 : sLe ≠ bE:=fun e=>absurd (congrArg (fun m : ByteArray=>m.data) e) (by decide)
theorem sg_ne5 : sGe ≠ sLt:=fun e=>absurd (congrArg (fun m : ByteArray=>m.data) e) (by decide)
theorem sg_ne6 : sGe ≠ sGt:=fun e=>absurd (congrArg (fun m : ByteArray=>m.data) e) (by decide)
theorem sg_ne7 : sGe ≠ bE:=fun e=>absurd (congrArg (fun m : ByteArray=>m.data) e) (by decide)
theorem sg_ne8 : sLt ≠ sGt:=fun e=>absurd (congrArg (fun m : ByteArray=>m.data) e) (by decide)
theorem sg_ne9 : sLt ≠ bE:=fun e=>absurd (congrArg (fun m : ByteArray=>m.data) e) (by decide)
theorem sg_ne10 : sGt ≠ bE:=fun e=>absurd (congrArg (fun m : ByteArray=>m.data) e) (by decide)
theorem suit_lt {q v : ByteArray} (h : (sgn q).1 = sLt) : suitB q v = lessB v.data.toList (sgn q).2.data.toList:=if_pos h
theorem suit_le {q v : ByteArray} (h : (sgn q).1 = sLe) : suitB q v = !lessB (sgn q).2.data.toList v.data.toList:=by
 unfold suitB; rw [if_neg (by rw [h]; exact sg_ne2),if_pos h]
theorem suit_gt {q v : ByteArray} (h : (sgn q).1 = sGt) : suitB q v = lessB (sgn q).2.data.toList v.data.toList:=by
 unfold suitB; rw [if_neg (by rw [h]; exact sg_ne8.symm),if_neg (by rw [h]; exact sg_ne3.symm),if_pos h]
theorem suit_ge {q v : ByteArray} (h : (sgn q).1 = sGe) : suitB q v = !lessB v.data.toList (sgn q).2.data.toList:=by
 unfold suitB; rw [if_neg (by rw [h]; exact sg_ne5),if_neg (by rw [h]; exact sg_ne1.symm),if_neg (by rw [h]; exact sg_ne6),if_pos h]
theorem suit_ver {q v : ByteArray} (h : (sgn q).1 = bE) (hv : verErr q.data.toList = 0) : suitB q v = decide (v = q):=by
 unfold suitB; rw [if_neg (by rw [h]; exact sg_ne9.symm),if_neg (by rw [h]; exact sg_ne4.symm),if_neg (by rw [h]; exact sg_ne10.symm),if_neg (by rw [h]; exact sg_ne7.symm),if_pos hv]
theorem suit_beg {q v : ByteArray} (h : (sgn q).1 = bE) (hv : ¬ verErr q.data.toList = 0) : suitB q v = beginB v q:=by
 unfold suitB; rw [if_neg (by rw [h]; exact sg_ne9.symm),if_neg (by rw [h]; exact sg_ne4.symm),if_neg (by rw [h]; exact sg_ne10.symm),if_neg (by rw [h]; exact sg_ne7.symm),if_neg hv]
theorem qErr_word {q : ByteArray} (h : isWd q = true) : qErr q = 0:=if_pos h
theorem qErr_ver {q : ByteArray} (h : isWd q = false) (h2 : (sgn q).1 ≠ bE \/ verErr (sgn q).2.data.toList ≠ 1) : qErr q = verErr (sgn q).2.data.toList:=by unfold qErr; rw [if_neg (by rw [h]; simp),if_pos h2]
theorem qErr_head {q : ByteArray} (h : isWd q = false) (h2 : (sgn q).1 = bE) (h3 : verErr (sgn q).2.data.toList = 1) : qErr q = headErr q.data.toList:=by
 unfold qErr
 rw [if_neg (by rw [h]; simp),if_neg]
 rintro (h | h)
 ·exact h h2
 ·exact h h3
end Ve
end Go.Proofs.YtjbmjnbkibmkpaaGreatDoor


namespace Go.Proofs.YtjbmjnbkibmkpaaGreatDoor
open Go.RowKit
namespace Ve
theorem hoK_any (X : List Bm) (x : Bm) (b : Nat) (u : Value) (W : World) (hX : X.length <= 1000000) (h1 : W.cell? ⟨b,0,none⟩ = some u) (hu : MsAt W u X) :
  Calls Tryz.prog 49 (#[.agg #[.string x.1,.string x.2]] ++ #[.pointer (some ⟨b,0,none⟩)]) W fun e w'=>e = .returned (.bool (hasB X x)) /\ Below W.heap.size W w':=by
 obtain ⟨p,v⟩:=x
 obtain ⟨up,un,uc,hus⟩:=hu.slice
 subst hus
 show Calls Tryz.prog 49 #[.agg #[.string p,.string v],.pointer (some ⟨b,0,none⟩)] W _
 have HB0:=hid ((Below.refl W.heap.size W).alloc (Nat.le_refl _) (.cells #[.string p,.string v] 47))
 have HH:=hid (hasMo_any p v X _ _ hX (hu.below HB0.out))
 have c1:=cell_below HB0.out h1
 have hlt:=lt_of_cell h1
 clear hu h1
 go_enter Tryz.func49,Tryz.ntmps49
 go_wp2_with fail
 refine HH.out.mono ?_
 rintro e w1 ⟨rfl,hb⟩
 have HB:=hid (HB0.out.trans (hb.mono HB0.out.size))
 clear hb
 go_wp2_with fail
 go_ret
 exact ⟨rfl,HB.out⟩
def outM (E X : List Bm) : Bool:=E.any (hasB X)
theorem hasOne_any (E X : List Bm) (v u : Value) (w : World) (hE : E.length <= 1000000) (hX : X.length <= 1000000) (hv : MsAt w v E) (hu : MsAt w u X) :
  Calls Tryz.prog 26 #[v,u] w fun e w'=>e = .returned (.bool (outM E X)) /\ Below w.heap.size w w':=by
 obtain ⟨va,vn,vc,hvs⟩:=hv.slice
 obtain ⟨ua,un,uc,hus⟩:=hu.slice
 have eg : ∀ args w,(callFunc 49 args).run Tryz.prog w = .ok (.enter 49 args) w:=enters_of Tryz.func49 (by kernel_rfl) rfl
 have HB0:=hid ((Below.refl w.heap.size w).alloc (Nat.le_refl _) (.cells #[u] 23))
 have HH:=hid (hasM_any 49 #[.pointer (some ⟨w.heap.size,0,none⟩)] (hasB X) E v (w.alloc (.cells #[u] 23)) eg hE (hv.below HB0.out) (fun i hi W hW=>
  hoK_any X E[i] w.heap.size u W hX (cell_below hW (by simp)) ((hu.below HB0.out).below hW)))
 rw [show E.any (hasB X) = outM E X from rfl] at HH
 generalize outM E X = z at *
 subst hvs
 subst hus
 clear eg hv hu
 go_enter Tryz.func26,Tryz.ntmps26
 go_wp2_with fail
 refine HH.out.mono ?_
 rintro e w1 ⟨rfl,hb⟩
 have HB:=hid (HB0.out.trans (hb.mono HB0.out.size))
 clear hb
 go_wp2_with fail
 go_ret
 exact ⟨rfl,HB.out⟩
theorem viK_any (x : Bm) (t : ByteArray) (b : Nat) (W : World) (h0 : W.cell? ⟨b,0,none⟩ = some (.string t)) :
  Calls Tryz.prog 144 (#[.agg #[.string x.1,.string x.2]] ++ #[.pointer (some ⟨b,0,none⟩)]) W fun e w'=>e = .returned (.bool (decide (x.1 = t))) /\ Below W.heap.size W w':=by
 obtain ⟨p,v⟩:=x
 simp only
 show Calls Tryz.prog 144 #[.agg #[.string p,.string v],.pointer (some ⟨b,0,none⟩)] W _
 have HB0:=hid ((Below.refl W.heap.size W).alloc (Nat.le_refl _) (.cells #[.string p,.string v] 47))
 have c0:=cell_below HB0.out h0
 have hbb : ¬ b = W.heap.size:=by have:=lt_of_cell h0; simp at this; omega
 have hbb2 : ¬ W.heap.size = b:=fun h=>hbb h.symm
 by_cases h : p = t
 ·subst h
  have he:=str_refl p
  have HD:=hid (show decide (p = p) = true by simp)
  generalize decide (p = p) = z at *
  go_enter Tryz.func144,Tryz.ntmps144
  go_wp2_with fail
  go_ret
  exact ⟨ret_bool HD.out.symm,HB0.out⟩
 ·have he:=str_ne h
  have HD:=hid (show decide (p = t) = false by simp [h])
  generalize decide (p = t) = z at *
  go_enter Tryz.func144,Tryz.ntmps144
  go_wp2_with fail
  go_ret
  exact ⟨ret_bool HD.out.symm,HB0.out⟩
def vIn (S : List Bm) (t : ByteArray) : ByteArray:=match S.find? (fun x=>decide (x.1 = t)) with
 | some x=>x.2
 | none=>bE
theorem vIn_hit {S : List Bm} {t : ByteArray} {k : Nat} (hk : k < S.length) (h : decide (S[k].1 = t) = true) (h0 : ∀ j (hj : j < S.length),j < k -> decide (S[j].1 = t) = false) : vIn S t = S[k].2:=by
 unfold vIn
 have : S.find? (fun x=>decide (x.1 = t)) = some S[k]:=List.find?_eq_some_iff_getElem.2 ⟨h,k,hk,rfl,fun j hj=>by have:=h0 j (by omega) hj; simpa using this⟩
 rw [this]
theorem vIn_not {S : List Bm} {t : ByteArray} (h : ∀ x,x ∈ S -> decide (x.1 = t) = false) : vIn S t = bE:=by
 unfold vIn
 rw [List.find?_eq_none.2 (fun x hx=>by rw [h x hx]; exact Bool.false_ne_true)]
theorem verIn_any (S : List Bm) (t : ByteArray) (v : Value) (w : World) (hS : S.length <= 1000000) (hv : MsAt w v S) :
  Calls Tryz.prog 102 #[v,.string t] w fun e w'=>e = .returned (.string (vIn S t)) /\ Below w.heap.size w w':=by
 have eg : ∀ args w,(callFunc 144 args).run Tryz.prog w = .ok (.enter 144 args) w:=enters_of Tryz.func144 (by kernel_rfl) rfl
 have HB0:=hid ((Below.refl w.heap.size w).alloc (Nat.le_refl _) (.cells #[.string t] 9))
 have HI:=hid (idxM_any 144 #[.pointer (some ⟨w.heap.size,0,none⟩)] (fun x=>decide (x.1 = t)) S v (w.alloc (.cells #[.string t] 9)) eg hS (hv.below HB0.out) (fun i hi W hW=>
  viK_any S[i] t w.heap.size W (cell_below hW (by simp))))
 rcases idxB_kind (fun x : Bm=>decide (x.1 = t)) S with ⟨h1,h2⟩ | ⟨k,hk,h1,h2,h3⟩
 ·rw [h1] at HI
  rw [vIn_not h2]
  obtain ⟨va,vn,vc,hvs⟩:=hv.slice
  subst hvs
  clear h1 h2 hv eg
  go_enter Tryz.func102,Tryz.ntmps102
  go_wp2_with fail
  refine HI.out.mono ?_
  rintro e w1 ⟨rfl,hb⟩
  have HB:=hid (HB0.out.trans (hb.mono HB0.out.size))
  clear hb
  go_wp2_with fail
  go_ret
  exact ⟨rfl,HB.out⟩
 ·rw [h1] at HI
  rw [vIn_hit hk h2 h3]
  obtain ⟨x,hx⟩ : ∃ x,S[k] = x:=⟨_,rfl⟩
  rw [hx]
  have HXX:=hid hx
  clear hx
  have HM:=hid (fun W (h : Below w.heap.size w W)=>hv.below h)
  obtain ⟨va,vc,hvs,-⟩:=id hv
  subst hvs
  have hkI : (k : Int) < (S.length : Int):=by omega
  have hk0 : (0 : Int) <= (k : Int):=by omega
  have hk1 : ¬ (k : Int) < 0:=by omega
  have HLK:=hid hk
  clear h1 h2 h3 hv eg
  go_enter Tryz.func102,Tryz.ntmps102
  go_wp2_with fail
  refine HI.out.mono ?_
  rintro e w1 ⟨rfl,hb⟩
  have HB:=hid (HB0.out.trans (hb.mono HB0.out.size))
  obtain ⟨la,lc,hla,-,hcells⟩:=HM.out _ HB.out
  obtain ⟨lb,lo,hlb,hcc⟩:=hcells (by intro h; rw [h] at hk; simp at hk)
  injection hla with hla1 hla2 hla3
  rw [hlb] at hla1
  subst hla1
  have y0:=(hcc k hk).1
  have y1:=(hcc k hk).2
  rw [HXX.out] at y0 y1
  clear hb hcells hcc hla2 hla3 hlb HM
  go_wp2_with fail
  go_ret
  exact ⟨rfl,HB.out⟩
end Ve
end Go.Proofs.YtjbmjnbkibmkpaaGreatDoor


namespace Go.Proofs.YtjbmjnbkibmkpaaGreatDoor
namespace Ve
end Ve
end Go.Proofs.YtjbmjnbkibmkpaaGreatDoor


namespace Go.Proofs.YtjbmjnbkibmkpaaGreatDoor
open Go.RowKit
namespace Ve
end Ve
end Go.Proofs.YtjbmjnbkibmkpaaGreatDoor


namespace Go.Proofs.YtjbmjnbkibmkpaaGreatDoor
open Go.RowKit
namespace Ve
end Ve
end Go.Proofs.YtjbmjnbkibmkpaaGreatDoor


namespace Go.Proofs.YtjbmjnbkibmkpaaGreatDoor
open Go.RowKit
namespace Ve
end Ve
end Go.Proofs.YtjbmjnbkibmkpaaGreatDoor


namespace Go.Proofs.YtjbmjnbkibmkpaaGreatDoor
open Go.RowKit
namespace Ve
theorem eqW (q b : ByteArray) : decide (q = b) = (q.toList == b.data.toList):=by
 by_cases h : q = b
 ·subst h; simp [ByteArray.toList_eq]
 ·rw [decide_eq_false h,<- ByteArray.toList_eq,str_ne h]
theorem sgn_0 {q : ByteArray} (h : begB q sLe = true) : sgn q = (sLe,q.extract 2 q.size):=by unfold sgn; rw [if_pos h]
theorem sgn_1 {q : ByteArray} (h0 : begB q sLe = false) (h : begB q sGe = true) : sgn q = (sGe,q.extract 2 q.size):=by unfold sgn; rw [if_neg (by rw [h0]; simp),if_pos h]
theorem sgn_2 {q : ByteArray} (h0 : begB q sLe = false) (h1 : begB q sGe = false) (h : begB q sLt = true) : sgn q = (sLt,q.extract 1 q.size):=by unfold sgn; rw [if_neg (by rw [h0]; simp),if_neg (by rw [h1]; simp),if_pos h]
theorem sgn_3 {q : ByteArray} (h0 : begB q sLe = false) (h1 : begB q sGe = false) (h2 : begB q sLt = false) (h : begB q sGt = true) : sgn q = (sGt,q.extract 1 q.size):=by unfold sgn; rw [if_neg (by rw [h0]; simp),if_neg (by rw [h1]; simp),if_neg (by rw [h2]; simp),if_pos h]
theorem sgn_4 {q : ByteArray} (h0 : begB q sLe = false) (h1 : begB q sGe = false) (h2 : begB q sLt = false) (h3 : begB q sGt = false) : sgn q = (bE,q):=by unfold sgn; rw [if_neg (by rw [h0]; simp),if_neg (by rw [h1]; simp),if_neg (by rw [h2]; simp),if_neg (by rw [h3]; simp)]
def sgAt : Nat -> ByteArray
 | 0=>sLe
 | 1=>sGe
 | 2=>sLt
 | _=>sGt
end Ve
end Go.Proofs.YtjbmjnbkibmkpaaGreatDoor


namespace Go.Proofs.YtjbmjnbkibmkpaaGreatDoor
open Go.RowKit
namespace Ve
theorem bE_is (s : ByteArray) : (s.toList == ([] : List UInt8)) = decide (s = bE):=by
 rw [eqW]; rfl
def PnAt (W : World) (g : Nat) (x : Bm) : Prop:=W.heap[g]? = some (.cells #[.string x.1,.string x.2] 145 (0,0))
theorem PnAt.below {W W' : World} {g : Nat} {x : Bm} (h : PnAt W g x) (hb : Below W.heap.size W W') : PnAt W' g x:=by
 have hg : g < W.heap.size:=(Array.getElem?_eq_some_iff.1 h).1
 unfold PnAt
 rw [hb.block g hg]; exact h
theorem PnAt.c0 {W : World} {g : Nat} {x : Bm} (h : PnAt W g x) : W.cell? ⟨g,0,none⟩ = some (.string x.1):=by rw [Lib.cell_of_heap h]; rfl
theorem PnAt.c1 {W : World} {g : Nat} {x : Bm} (h : PnAt W g x) : W.cell? ⟨g,1,none⟩ = some (.string x.2):=by rw [Lib.cell_of_heap h]; rfl
theorem PnAt.fr {W : World} {g : Nat} {x : Bm} (h : PnAt W g x) (o : Nat) : W.frozen? ⟨g,o,none⟩ = false:=Lib.frozen_of_heap h o
def pnV (x : Bm) : ByteArray:=if x.1 = bE then x.2 else x.1
def pnB (x : Bm) : ByteArray:=if pnV x = bNone then bE else pnV x
def pnK (x : Bm) (wl : Bool) : ByteArray:=if wl then x.2 else x.1
def pnC (x : Bm) (t : ByteArray) (wl : Bool) : Bool:=!decide (pnK x wl = bE) && !decide (pnK x wl = t)
def pnS (x : Bm) (t : ByteArray) (wl : Bool) : Bm:=if wl then (x.1,t) else (t,x.2)
theorem pver_any (x : Bm) (g : Nat) (W : World) (h : PnAt W g x) :
  Calls Tryz.prog 106 #[.pointer (some ⟨g,0,none⟩)] W fun e w'=>e = .returned (.string (pnV x)) /\ w' = W:=by
 have c0:=h.c0
 have c1:=h.c1
 obtain ⟨a,b⟩:=x
 simp only at c0 c1
 clear h
 by_cases h0 : a = bE
 ·have hq : (a.toList == ([] : List UInt8)) = true:=by rw [bE_is]; exact decide_eq_true h0
  have HV:=hid (show pnV (a,b) = b from if_pos h0)
  rw [HV.out]
  clear h0
  go_enter Tryz.func106,Tryz.ntmps106
  go_wp2_with fail
  go_ret
  exact ⟨rfl,rfl⟩
 ·have hq : (a.toList == ([] : List UInt8)) = false:=by rw [bE_is]; exact decide_eq_false h0
  have HV:=hid (show pnV (a,b) = a from if_neg h0)
  rw [HV.out]
  clear h0
  go_enter Tryz.func106,Tryz.ntmps106
  go_wp2_with fail
  go_ret
  exact ⟨rfl,rfl⟩
theorem pinb_any (x : Bm) (g : Nat) (W : World) (h : PnAt W g x) :
  Calls Tryz.prog 108 #[.pointer (some ⟨g,0,none⟩)] W fun e w'=>e = .returned (.string (pnB x)) /\ w' = W:=by
 have HV:=hid (pver_any x g W h)
 have HB:=hid (show pnB x = if pnV x = bNone then bE else pnV x from rfl)
 generalize pnB x = y at *
 generalize pnV x = t at *
 clear h
 by_cases h0 : t = bNone
 ·have hq : (t.toList == [110,111,110,101]) = true:=by rw [show ([110,111,110,101] : List UInt8) = bNone.data.toList from rfl,<- eqW]; exact decide_eq_true h0
  rw [if_pos h0] at HB
  clear h0
  go_enter Tryz.func108,Tryz.ntmps108
  go_wp2_with fail
  refine HV.out.mono ?_
  rintro e w1 ⟨rfl,rfl⟩
  go_wp2_with fail
  go_ret
  exact ⟨by rw [HB.out]; rfl,rfl⟩
 ·have hq : (t.toList == [110,111,110,101]) = false:=by rw [show ([110,111,110,101] : List UInt8) = bNone.data.toList from rfl,<- eqW]; exact decide_eq_false h0
  rw [if_neg h0] at HB
  clear h0
  go_enter Tryz.func108,Tryz.ntmps108
  go_wp2_with fail
  refine HV.out.mono ?_
  rintro e w1 ⟨rfl,rfl⟩
  go_wp2_with fail
  refine HV.out.mono ?_
  rintro e w2 ⟨rfl,rfl⟩
  go_wp2_with fail
  go_ret
  exact ⟨by rw [HB.out]; rfl,rfl⟩
theorem PnAt.set0 {W : World} {g : Nat} {x : Bm} (h : PnAt W g x) (t : ByteArray) : PnAt (W.setCell ⟨g,0,none⟩ (.string t)) g (t,x.2):=by
 unfold PnAt
 rw [set_block h]; rfl
theorem PnAt.set1 {W : World} {g : Nat} {x : Bm} (h : PnAt W g x) (t : ByteArray) : PnAt (W.setCell ⟨g,1,none⟩ (.string t)) g (x.1,t):=by
 unfold PnAt
 rw [set_block h]; rfl
def pnO (wl : Bool) : Nat:=if wl then 1 else 0
theorem PnAt.put {W : World} {g : Nat} {x : Bm} (h : PnAt W g x) (t : ByteArray) (wl : Bool) : PnAt (W.setCell ⟨g,pnO wl,none⟩ (.string t)) g (pnS x t wl):=by
 cases wl
 ·exact h.set0 t
 ·exact h.set1 t
theorem pset_bad (x : Bm) (t : ByteArray) (wl : Bool) (g : Nat) (A : Nat -> Addr) (m : Int) (W : World) (S : Te W A m) (h : PnAt W g x) (hc : pnC x t wl = true) :
  Calls Tryz.prog 103 #[.pointer (some ⟨g,0,none⟩),.string t,.bool wl] W fun e w'=>e = .returned (errA A 9) /\ w' = W:=by
 have c0:=h.c0
 have c1:=h.c1
 have f0:=h.fr 0
 have f1:=h.fr 1
 have gg:=S.sen.g8
 obtain ⟨a,b⟩:=x
 simp only at c0 c1
 unfold pnC pnK at hc
 rw [Bool.and_eq_true] at hc
 obtain ⟨h1,h2⟩:=hc
 clear S h
 cases wl
 ·simp only [Bool.false_eq_true,if_false,Bool.not_eq_true',decide_eq_false_iff_not] at h1 h2
  have hq : (a.toList == ([] : List UInt8)) = false:=by rw [bE_is]; exact decide_eq_false h1
  have hq2:=str_ne h2
  clear h1 h2
  go_enter Tryz.func103,Tryz.ntmps103
  go_wp2_with fail
  go_ret
  exact ⟨rfl,rfl⟩
 ·simp only [if_true,Bool.not_eq_true',decide_eq_false_iff_not] at h1 h2
  have hq : (b.toList == ([] : List UInt8)) = false:=by rw [bE_is]; exact decide_eq_false h1
  have hq2:=str_ne h2
  clear h1 h2
  go_enter Tryz.func103,Tryz.ntmps103
  go_wp2_with fail
  go_ret
  exact ⟨rfl,rfl⟩
theorem pset_ok (x : Bm) (t : ByteArray) (wl : Bool) (g : Nat) (W : World) (h : PnAt W g x) (hc : pnC x t wl = false) :
  Calls Tryz.prog 103 #[.pointer (some ⟨g,0,none⟩),.string t,.bool wl] W fun e w'=>e = .returned .nilIface /\ w' = W.setCell ⟨g,pnO wl,none⟩ (.string t):=by
 have c0:=h.c0
 have c1:=h.c1
 have f0:=h.fr 0
 have f1:=h.fr 1
 obtain ⟨a,b⟩:=x
 simp only at c0 c1
 unfold pnC pnK at hc
 clear h
 cases wl
 ·simp only [Bool.false_eq_true,if_false] at hc
  by_cases h1 : a = bE
  ·have hq : (a.toList == ([] : List UInt8)) = true:=by rw [bE_is]; exact decide_eq_true h1
   clear h1 hc
   go_enter Tryz.func103,Tryz.ntmps103
   go_wp2_with fail
   go_ret
   exact ⟨rfl,rfl⟩
  ·have h2 : a = t:=by rw [decide_eq_false h1,Bool.not_false,Bool.true_and] at hc; simpa using hc
   have hq : (a.toList == ([] : List UInt8)) = false:=by rw [bE_is]; exact decide_eq_false h1
   have hq2 : (a.toList == t.toList) = true:=by rw [h2]; exact str_refl t
   clear h1 h2 hc
   go_enter Tryz.func103,Tryz.ntmps103
   go_wp2_with fail
   go_ret
   exact ⟨rfl,rfl⟩
 ·simp only [if_true] at hc
  by_cases h1 : b = bE
  ·have hq : (b.toList == ([] : List UInt8)) = true:=by rw [bE_is]; exact decide_eq_true h1
   clear h1 hc
   go_enter Tryz.func103,Tryz.ntmps103
   go_wp2_with fail
   go_ret
   exact ⟨rfl,rfl⟩
  ·have h2 : b = t:=by rw [decide_eq_false h1,Bool.not_false,Bool.true_and] at hc; simpa using hc
   have hq : (b.toList == ([] : List UInt8)) = false:=by rw [bE_is]; exact decide_eq_false h1
   have hq2 : (b.toList == t.toList) = true:=by rw [h2]; exact str_refl t
   clear h1 h2 hc
   go_enter Tryz.func103,Tryz.ntmps103
   go_wp2_with fail
   go_ret
   exact ⟨rfl,rfl⟩
end Ve
end Go.Proofs.YtjbmjnbkibmkpaaGreatDoor


namespace Go.Proofs.YtjbmjnbkibmkpaaGreatDoor
open Go.RowKit
namespace Ve
def dots : List UInt8:=[46,46,46]
def tokK : List UInt8 -> Nat -> List (Option UInt8)
 | [],_=>[]
 | _ :: r,k + 1=>tokK r k
 | c :: r,0=>if dots.isPrefixOf (c :: r) then none :: tokK r 2 else some c :: tokK r 0
def tok (l : List UInt8) : List (Option UInt8):=tokK l 0
theorem tokK_drop : ∀ (l : List UInt8) (k : Nat),tokK l k = tok (l.drop k)
 | [],k=>by rw [List.drop_nil]; unfold tok tokK; rfl
 | _ :: _,0=>rfl
 | _ :: r,k + 1=>by rw [tokK,tokK_drop r k]; rfl
theorem tok_nil : tok [] = []:=rfl
theorem tok_any {l : List UInt8} (h : dots.isPrefixOf l = true) : tok l = none :: tok (l.drop 3):=by
 cases l with
 | nil=>cases h
 | cons c r=>unfold tok; rw [tokK,if_pos h,tokK_drop]; rfl
theorem tok_one {c : UInt8} {r : List UInt8} (h : dots.isPrefixOf (c :: r) = false) : tok (c :: r) = some c :: tok r:=by unfold tok; rw [tokK,if_neg (by rw [h]; simp)]
def mtB : List (Option UInt8) -> List UInt8 -> Bool
 | [],s=>s.isEmpty
 | some _ :: _,[]=>false
 | some c :: T,x :: s=>x == c && mtB T s
 | none :: T,s=>(List.range (s.length + 1)).any fun j=>mtB T (s.drop j)
theorem mtB_nil (s : List UInt8) : mtB [] s = s.isEmpty:=by unfold mtB; rfl
theorem mtB_one {c : UInt8} {T : List (Option UInt8)} {s : List UInt8} : mtB (some c :: T) s = true ↔ ∃ x r,s = x :: r /\ x = c /\ mtB T r = true:=by
 cases s with
 | nil=>rw [mtB]; simp
 | cons x r=>
  rw [mtB,Bool.and_eq_true,beq_iff_eq]
  constructor
  ·rintro ⟨h1,h2⟩; exact ⟨x,r,rfl,h1,h2⟩
  ·rintro ⟨y,q,e,h1,h2⟩
   injection e with e1 e2
   subst e1 e2; exact ⟨h1,h2⟩
theorem mtB_any {T : List (Option UInt8)} {s : List UInt8} : mtB (none :: T) s = true ↔ ∃ j,j <= s.length /\ mtB T (s.drop j) = true:=by
 rw [mtB,List.any_eq_true]
 constructor
 ·rintro ⟨j,hj,h⟩
  exact ⟨j,by have:=List.mem_range.1 hj; omega,h⟩
 ·rintro ⟨j,hj,h⟩
  exact ⟨j,List.mem_range.2 (by omega),h⟩
def matB (p s : ByteArray) : Bool:=mtB (tok p.data.toList) s.data.toList
def slashDots : List UInt8:=[47,46,46,46]
def ismB (p s : ByteArray) : Bool:=matB p s || (decide (4 <= p.size) && (decide (p.data.toList.drop (p.size - 4) = slashDots) && matB (p.extract 0 (p.size - 4)) s))
def wildB (p : ByteArray) : Bool:=(tok p.data.toList).any Option.isNone
def xsOf (p : List UInt8) : List UInt8:=(tok p).map fun t=>t.getD 120
end Ve
end Go.Proofs.YtjbmjnbkibmkpaaGreatDoor


namespace Go.Proofs.YtjbmjnbkibmkpaaGreatDoor
open Go.RowKit
namespace Ve
abbrev Pk:=List (ByteArray × Bm)
def pkG (K : Pk) (t : ByteArray) : Option Bm:=(K.find? (fun x=>decide (x.1 = t))).map (fun x=>x.2)
def pkP (K : Pk) (t : ByteArray) : Bm:=(pkG K t).getD (bE,bE)
def pkHas (K : Pk) (t : ByteArray) : Bool:=K.any (fun x=>decide (x.1 = t))
def pkNew (K : Pk) (t : ByteArray) : Pk:=if pkHas K t then K else K ++ [(t,(bE,bE))]
def pkSet (K : Pk) (t : ByteArray) (x : Bm) : Pk:=K.map fun y=>if y.1 = t then (t,x) else y
def pkT (K : Pk) : List ByteArray:=K.map (fun x=>x.1)
theorem pkHas_iff {K : Pk} {t : ByteArray} : pkHas K t = true ↔ t ∈ pkT K:=by
 unfold pkHas pkT
 rw [List.any_eq_true,List.mem_map]
 constructor
 ·rintro ⟨x,hx,h⟩; exact ⟨x,hx,of_decide_eq_true h⟩
 ·rintro ⟨x,hx,h⟩; exact ⟨x,hx,decide_eq_true h⟩
theorem pkT_set (K : Pk) (t : ByteArray) (x : Bm) : pkT (pkSet K t x) = pkT K:=by
 unfold pkT pkSet
 rw [List.map_map]
 refine List.map_congr_left fun y _=>?_
 show (if y.1 = t then (t,x) else y).1 = y.1
 split
 ·rename_i h; exact h.symm
 ·rfl
theorem pkT_new (K : Pk) (t : ByteArray) : pkT (pkNew K t) = if pkHas K t then pkT K else pkT K ++ [t]:=by
 unfold pkNew
 split <;> simp [pkT]
theorem pkT_new_mem (K : Pk) (t : ByteArray) : t ∈ pkT (pkNew K t):=by
 rw [pkT_new]
 cases h : pkHas K t
 ·simp
 ·simp only [if_true]; exact pkHas_iff.1 h
theorem pkNew_nodup {K : Pk} (h : (pkT K).Nodup) (t : ByteArray) : (pkT (pkNew K t)).Nodup:=by
 rw [pkT_new]
 cases e : pkHas K t
 ·simp only [Bool.false_eq_true,if_false]
  rw [List.nodup_append]
  refine ⟨h,by simp,fun a ha b hb=>?_⟩
  simp at hb
  subst hb
  intro e2
  subst e2
  rw [pkHas_iff.2 ha] at e
  cases e
 ·simp only [if_true]; exact h
theorem pkT_new_sub {K : Pk} {t s : ByteArray} (h : s ∈ pkT K) : s ∈ pkT (pkNew K t):=by
 rw [pkT_new]
 split
 ·exact h
 ·exact List.mem_append_left _ h
theorem pkG_at {K : Pk} (hn : (pkT K).Nodup) {k : Nat} (hk : k < K.length) : pkG K K[k].1 = some K[k].2:=by
 unfold pkG
 have : K.find? (fun x=>decide (x.1 = K[k].1)) = some K[k]:=List.find?_eq_some_iff_getElem.2 ⟨by simp,k,hk,rfl,fun j hj=>by
  have hjk : j < K.length:=by omega
  have:=List.pairwise_iff_getElem.1 hn j k (by simpa [pkT] using hjk) (by simpa [pkT] using hk) hj
  simp only [pkT,List.getElem_map] at this
  simpa using this⟩
 rw [this]; rfl
theorem pkP_at {K : Pk} (hn : (pkT K).Nodup) {k : Nat} (hk : k < K.length) : pkP K K[k].1 = K[k].2:=by unfold pkP; rw [pkG_at hn hk]; rfl
theorem pkG_none {K : Pk} {t : ByteArray} (h : t ∉ pkT K) : pkG K t = none:=by
 unfold pkG
 rw [List.find?_eq_none.2 (fun x hx=>by simp only [decide_eq_true_eq]; intro e; exact h (List.mem_map.2 ⟨x,hx,e⟩))]; rfl
theorem pk_place {K : Pk} {t : ByteArray} (h : t ∈ pkT K) : ∃ k,∃ hk : k < K.length,K[k].1 = t:=by
 obtain ⟨x,hx,rfl⟩:=List.mem_map.1 h
 obtain ⟨k,hk,rfl⟩:=List.getElem_of_mem hx
 exact ⟨k,hk,rfl⟩
theorem pkSet_len (K : Pk) (t : ByteArray) (x : Bm) : (pkSet K t x).length = K.length:=by simp [pkSet]
theorem pkSet_at {K : Pk} (hn : (pkT K).Nodup) {k j : Nat} (hk : k < K.length) (hj : j < K.length) (x : Bm) : (pkSet K K[k].1 x)[j]'(by rw [pkSet_len]; exact hj) = if j = k then (K[k].1,x) else K[j]:=by
 unfold pkSet
 rw [List.getElem_map]
 by_cases e : j = k
 ·subst e
  rw [if_pos rfl,if_pos rfl]
 ·rw [if_neg e,if_neg]
  intro h
  have hn' : ∀ a b (ha : a < K.length) (hb : b < K.length),a < b -> K[a].1 ≠ K[b].1:=fun a b ha hb hab=>by
   have:=List.pairwise_iff_getElem.1 hn a b (by simpa [pkT] using ha) (by simpa [pkT] using hb) hab
   simpa only [pkT,List.getElem_map] using this
  rcases Nat.lt_or_ge j k with h1 | h1
  ·exact hn' j k hj hk h1 h
  ·exact hn' k j hk hj (by omega) h.symm
theorem pkP_set_same {K : Pk} {t : ByteArray} (h : t ∈ pkT K) (x : Bm) : pkP (pkSet K t x) t = x:=by
 unfold pkP pkG pkSet
 rw [List.find?_map]
 have e : ((fun y : ByteArray × Bm=>decide (y.1 = t)) ∘ fun y=>if y.1 = t then (t,x) else y) = fun y=>decide (y.1 = t):=funext fun y=>by
  show decide ((if y.1 = t then (t,x) else y).1 = t) = decide (y.1 = t)
  split
  ·rename_i h; simp [h]
  ·rfl
 rw [e]
 cases h2 : K.find? (fun y=>decide (y.1 = t)) with
 | none=>
  obtain ⟨y,hy,hy2⟩:=List.mem_map.1 h
  have:=List.find?_eq_none.1 h2 y hy
  simp [hy2] at this
 | some y=>
  have:=List.find?_some h2
  simp at this
  simp [this]
theorem pkP_set_other {K : Pk} {t s : ByteArray} (h : s ≠ t) (x : Bm) : pkP (pkSet K t x) s = pkP K s:=by
 unfold pkP pkG pkSet
 rw [List.find?_map]
 have e : ((fun y : ByteArray × Bm=>decide (y.1 = s)) ∘ fun y=>if y.1 = t then (t,x) else y) = fun y=>decide (y.1 = s):=funext fun y=>by
  show decide ((if y.1 = t then (t,x) else y).1 = s) = decide (y.1 = s)
  split
  ·rename_i h1; simp [h1]
  ·rfl
 rw [e]
 cases h2 : K.find? (fun y=>decide (y.1 = s)) with
 | none=>rfl
 | some y=>
  have:=List.find?_some h2
  simp at this
  have h3 : ¬ y.1 = t:=fun e=>h (by rw [<- this,e])
  simp [h3]
theorem pkP_new (K : Pk) (t s : ByteArray) : pkP (pkNew K t) s = pkP K s:=by
 unfold pkNew
 split
 ·rfl
 ·unfold pkP pkG
  rw [List.find?_append]
  cases h : K.find? (fun y=>decide (y.1 = s)) with
  | some y=>rfl
  | none=>
   simp only [Option.none_or,List.find?_cons,List.find?_nil]
   split <;> rfl
def wPt (S : List Bm) (p : ByteArray) : List ByteArray:=if wildB p then (S.map (fun x=>x.1)).filter (ismB p) else [p]
def gp1 (hv : ByteArray -> Bool) (pk : ByteArray -> ByteArray -> ByteArray -> ByteArray × Nat) (S : List Bm) (q : ByteArray) (wl : Bool) (K : Pk) (t : ByteArray) : Option Pk:=
 if hv t = false then none else if (pk t q (vIn S t)).2 ≠ 0 then none else if pnC (pkP K t) (pk t q (vIn S t)).1 wl then none
 else some (pkSet (pkNew K t) t (pnS (pkP K t) (pk t q (vIn S t)).1 wl))
def gpP (hv : ByteArray -> Bool) (pk : ByteArray -> ByteArray -> ByteArray -> ByteArray × Nat) (S : List Bm) (q : ByteArray) (wl : Bool) : List ByteArray -> Pk -> Option Pk
 | [],K=>some K
 | t :: r,K=>match gp1 hv pk S q wl K t with
  | none=>none
  | some K'=>gpP hv pk S q wl r K'
def gpW (hv : ByteArray -> Bool) (pk : ByteArray -> ByteArray -> ByteArray -> ByteArray × Nat) (S : List Bm) : List Bm -> Pk -> Option Pk
 | [],K=>some K
 | x :: r,K=>match gpP hv pk S x.2 (wildB x.1) (wPt S x.1) K with
  | none=>none
  | some K'=>gpW hv pk S r K'
variable {hv : ByteArray -> Bool} {pk : ByteArray -> ByteArray -> ByteArray -> ByteArray × Nat} {S : List Bm}
theorem gp1_keys {q : ByteArray} {wl : Bool} {K K' : Pk} {t : ByteArray} (h : gp1 hv pk S q wl K t = some K') : pkT K' = pkT (pkNew K t) /\ hv t = true /\ (pk t q (vIn S t)).2 = 0 /\ pnC (pkP K t) (pk t q (vIn S t)).1 wl = false /\ K' = pkSet (pkNew K t) t (pnS (pkP K t) (pk t q (vIn S t)).1 wl):=by
 unfold gp1 at h
 split at h
 ·cases h
 ·split at h
  ·cases h
  ·split at h
   ·cases h
   ·rename_i h1 h2 h3
    injection h with h
    refine ⟨by rw [<- h,pkT_set],by simpa using h1,by simpa using h2,by simpa using h3,h.symm⟩
theorem gpP_app (q : ByteArray) (wl : Bool) (Z : List ByteArray) : ∀ (X : List ByteArray) (K : Pk),gpP hv pk S q wl (X ++ Z) K = match gpP hv pk S q wl X K with
  | none=>none
  | some K'=>gpP hv pk S q wl Z K'
 | [],K=>rfl
 | x :: r,K=>by
  show (match gp1 hv pk S q wl K x with | none=>none | some K'=>gpP hv pk S q wl (r ++ Z) K') = _
  show _ = match (match gp1 hv pk S q wl K x with | none=>none | some K'=>gpP hv pk S q wl r K') with | none=>none | some K'=>gpP hv pk S q wl Z K'
  cases gp1 hv pk S q wl K x with
  | none=>rfl
  | some K'=>exact gpP_app q wl Z r K'
theorem gpP_go {q : ByteArray} {wl : Bool} {X : List ByteArray} {K K1 K2 : Pk} {k : Nat} (hk : k < X.length) (h : gpP hv pk S q wl (X.take k) K = some K1) (h1 : gp1 hv pk S q wl K1 X[k] = some K2) : gpP hv pk S q wl (X.take (k + 1)) K = some K2:=by
 rw [List.take_succ_eq_append_getElem hk,gpP_app,h]
 show (match gp1 hv pk S q wl K1 X[k] with | none=>none | some K'=>some K') = _
 rw [h1]
theorem gpP_bad {q : ByteArray} {wl : Bool} {X : List ByteArray} {K K1 : Pk} {k : Nat} (hk : k < X.length) (h : gpP hv pk S q wl (X.take k) K = some K1) (h1 : gp1 hv pk S q wl K1 X[k] = none) : gpP hv pk S q wl X K = none:=by
 rw [show X = X.take k ++ X[k] :: X.drop (k + 1) by rw [<- List.drop_eq_getElem_cons hk,List.take_append_drop],gpP_app,h]
 show (match gp1 hv pk S q wl K1 X[k] with | none=>none | some K'=>gpP hv pk S q wl (X.drop (k + 1)) K') = _
 rw [h1]
theorem gpW_app (Z : List Bm) : ∀ (X : List Bm) (K : Pk),gpW hv pk S (X ++ Z) K = match gpW hv pk S X K with
  | none=>none
  | some K'=>gpW hv pk S Z K'
 | [],K=>rfl
 | x :: r,K=>by
  show (match gpP hv pk S x.2 (wildB x.1) (wPt S x.1) K with | none=>none | some K'=>gpW hv pk S (r ++ Z) K') = _
  show _ = match (match gpP hv pk S x.2 (wildB x.1) (wPt S x.1) K with | none=>none | some K'=>gpW hv pk S r K') with | none=>none | some K'=>gpW hv pk S Z K'
  cases gpP hv pk S x.2 (wildB x.1) (wPt S x.1) K with
  | none=>rfl
  | some K'=>exact gpW_app Z r K'
theorem gpW_go {X : List Bm} {K K1 K2 : Pk} {k : Nat} (hk : k < X.length) (h : gpW hv pk S (X.take k) K = some K1) (h1 : gpP hv pk S X[k].2 (wildB X[k].1) (wPt S X[k].1) K1 = some K2) : gpW hv pk S (X.take (k + 1)) K = some K2:=by
 rw [List.take_succ_eq_append_getElem hk,gpW_app,h]
 show (match gpP hv pk S X[k].2 (wildB X[k].1) (wPt S X[k].1) K1 with | none=>none | some K'=>some K') = _
 rw [h1]
theorem gpW_bad {X : List Bm} {K K1 : Pk} {k : Nat} (hk : k < X.length) (h : gpW hv pk S (X.take k) K = some K1) (h1 : gpP hv pk S X[k].2 (wildB X[k].1) (wPt S X[k].1) K1 = none) : gpW hv pk S X K = none:=by
 rw [show X = X.take k ++ X[k] :: X.drop (k + 1) by rw [<- List.drop_eq_getElem_cons hk,List.take_append_drop],gpW_app,h]
 show (match gpP hv pk S X[k].2 (wildB X[k].1) (wPt S X[k].1) K1 with | none=>none | some K'=>gpW hv pk S (X.drop (k + 1)) K') = _
 rw [h1]
structure PkO (K K' : Pk) : Prop where
 sub : ∀ t,t ∈ pkT K -> t ∈ pkT K'
 nd : (pkT K).Nodup -> (pkT K').Nodup
 ex : ∀ t,(pkP K t).1 ≠ bE -> (pkP K' t).1 = (pkP K t).1
theorem PkO.rfl' (K : Pk) : PkO K K:=⟨fun _ h=>h,fun h=>h,fun _ _=>rfl⟩
theorem PkO.trans {K K' K'' : Pk} (h : PkO K K') (h' : PkO K' K'') : PkO K K'':=⟨fun t ht=>h'.sub t (h.sub t ht),fun hn=>h'.nd (h.nd hn),fun t ht=>by rw [h'.ex t (by rw [h.ex t ht]; exact ht),h.ex t ht]⟩
theorem gp1_o {q : ByteArray} {wl : Bool} {K K' : Pk} {t : ByteArray} (h : gp1 hv pk S q wl K t = some K') : PkO K K':=by
 obtain ⟨h1,_,_,h4,h5⟩:=gp1_keys h
 refine ⟨fun s hs=>by rw [h1]; exact pkT_new_sub hs,fun hn=>by rw [h1]; exact pkNew_nodup hn t,fun s hs=>?_⟩
 rw [h5]
 by_cases e : s = t
 ·subst e
  rw [pkP_set_same (pkT_new_mem _ _)]
  unfold pnS
  cases wl
  ·simp only [Bool.false_eq_true,if_false]
   unfold pnC pnK at h4
   simp only [Bool.false_eq_true,if_false] at h4
   rw [decide_eq_false hs,Bool.not_false,Bool.true_and] at h4
   simp at h4
   exact h4.symm
  ·rfl
 ·rw [pkP_set_other e,pkP_new]
theorem gpP_o {q : ByteArray} {wl : Bool} : ∀ {X : List ByteArray} {K K' : Pk},gpP hv pk S q wl X K = some K' -> PkO K K' /\ ∀ t,t ∈ X -> t ∈ pkT K'
 | [],K,K',h=>by injection h with h; subst h; exact ⟨PkO.rfl' _,fun _ h=>absurd h (by simp)⟩
 | x :: r,K,K',h=>by
  have h' : (match gp1 hv pk S q wl K x with | none=>none | some K'=>gpP hv pk S q wl r K') = some K':=h
  cases e : gp1 hv pk S q wl K x with
  | none=>rw [e] at h'; cases h'
  | some K1=>
   rw [e] at h'
   obtain ⟨a,b⟩:=gpP_o h'
   refine ⟨(gp1_o e).trans a,fun t ht=>?_⟩
   rcases List.mem_cons.1 ht with rfl | ht
   ·exact a.sub _ (by rw [(gp1_keys e).1]; exact pkT_new_mem _ _)
   ·exact b t ht
theorem gpW_o : ∀ {X : List Bm} {K K' : Pk},gpW hv pk S X K = some K' -> PkO K K' /\ ∀ x,x ∈ X -> ∀ t,t ∈ wPt S x.1 -> t ∈ pkT K'
 | [],K,K',h=>by injection h with h; subst h; exact ⟨PkO.rfl' _,fun _ h=>absurd h (by simp)⟩
 | x :: r,K,K',h=>by
  have h' : (match gpP hv pk S x.2 (wildB x.1) (wPt S x.1) K with | none=>none | some K'=>gpW hv pk S r K') = some K':=h
  cases e : gpP hv pk S x.2 (wildB x.1) (wPt S x.1) K with
  | none=>rw [e] at h'; cases h'
  | some K1=>
   rw [e] at h'
   obtain ⟨a,b⟩:=gpW_o h'
   obtain ⟨c,d⟩:=gpP_o e
   refine ⟨c.trans a,fun y hy t ht=>?_⟩
   rcases List.mem_cons.1 hy with rfl | hy
   ·exact a.sub _ (d t ht)
   ·exact b y hy t ht
theorem gpW_exact : ∀ {X : List Bm} {K K' : Pk},gpW hv pk S X K = some K' -> ∀ x,x ∈ X -> wildB x.1 = false -> hv x.1 = true /\ (pk x.1 x.2 (vIn S x.1)).2 = 0 /\ ((pk x.1 x.2 (vIn S x.1)).1 ≠ bE -> (pkP K' x.1).1 = (pk x.1 x.2 (vIn S x.1)).1)
 | [],K,K',h=>fun _ h=>absurd h (by simp)
 | x :: r,K,K',h=>by
  have h' : (match gpP hv pk S x.2 (wildB x.1) (wPt S x.1) K with | none=>none | some K'=>gpW hv pk S r K') = some K':=h
  cases e : gpP hv pk S x.2 (wildB x.1) (wPt S x.1) K with
  | none=>rw [e] at h'; cases h'
  | some K1=>
   rw [e] at h'
   intro y hy hw
   rcases List.mem_cons.1 hy with rfl | hy
   ·have hp : wPt S y.1 = [y.1]:=by unfold wPt; rw [hw]; rfl
    rw [hp,hw] at e
    have e' : (match gp1 hv pk S y.2 false K y.1 with | none=>none | some K'=>some K') = some K1:=e
    cases e2 : gp1 hv pk S y.2 false K y.1 with
    | none=>rw [e2] at e'; cases e'
    | some K2=>
     rw [e2] at e'
     injection e' with e'
     subst e'
     obtain ⟨_,h2,h3,_,h5⟩:=gp1_keys e2
     refine ⟨h2,h3,fun hne=>?_⟩
     have h6 : (pkP K2 y.1).1 = (pk y.1 y.2 (vIn S y.1)).1:=by rw [h5,pkP_set_same (pkT_new_mem _ _)]; rfl
     rw [(gpW_o h').1.ex y.1 (by rw [h6]; exact hne),h6]
   ·exact gpW_exact h' y hy hw
def capsV (K : Pk) : List Bm:=(tx (srtB (bl (pkT K)))).map fun t=>(t,pnV (pkP K t))
def capN (C : List Bm) : List Bm:=C.filter fun x=>!decide (x.2 = bNone)
def wOk (S N : List Bm) (K : Pk) (x : Bm) : Bool:=(wPt S x.1).all fun t=>decide (vIn N t = pnB (pkP K t))
end Ve
end Go.Proofs.YtjbmjnbkibmkpaaGreatDoor
