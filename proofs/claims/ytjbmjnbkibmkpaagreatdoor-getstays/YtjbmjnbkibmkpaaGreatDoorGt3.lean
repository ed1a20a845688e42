
import Derived.Test.YtjbmjnbkibmkpaaGreatDoorGt2
import Derived.WalkSmall
import Derived.Shelf.Strconv.Itoa3
import Derived.Deep.RegionHeld
import Derived.Test.YtjbmjnbkibmkpaaGreatDoorGt1
set_option maxHeartbeats 8000000
namespace Go.Proofs.YtjbmjnbkibmkpaaGreatDoor
open Go.RowKit
namespace Ve
theorem vsplit_pbad (s : ByteArray) (aT aB : Addr) (m : Int) (w : World) (hs : s.size < 4294967281) (S : Vs w aT aB m) (hmk : marked s.data.toList = true) (h3 : (coreOf s.data.toList).length = 3) (hp : hasPre s.data.toList = true) (hq : worse (numsErr (coreOf s.data.toList)) (pre (preOf s.data.toList)) ≠ 0) :
  Calls Tryz.prog 35 #[.string s] w fun e w'=>e = .returned (.tuple #[.agg #[.int .i64 0,.int .i64 0,.int .i64 0,.slice none 0 0],errV aT aB (worse (numsErr (coreOf s.data.toList)) (pre (preOf s.data.toList)))]) /\ Below w.heap.size w w':=by
 have HQ:=hid hq
 clear hq
 have HB0:=hid ((Below.refl w.heap.size w).alloc (Nat.le_refl _) (.cells #[.int .i64 0,.int .i64 0,.int .i64 0,.slice none 0 0] 66))
 have HS:=hid (S.below HB0.out)
 have hne1 : ¬ w.heap.size = 1:=by have:=lt_of_cell S.t; simp at this; omega
 have hne2 : ¬ 1 = w.heap.size:=fun h=>hne1 h.symm
 have HM:=hid hmk
 have H3:=hid h3
 have HP:=hid hp
 clear S hmk h3 hp
 go_enter Tryz.func35,Tryz.ntmps35
 go_wp2_with fail
 refine (cutPrefix_any s _).mono ?_
 rintro e w1 ⟨R,rfl,hR,rfl⟩
 rw [HM.out]
 have HR:=hid hR
 have hRs : R.size < 4294967281:=by
  have h1:=size_of hR
  have h2:=restOf_le s.data.toList
  simp at h2; omega
 clear hR
 go_wp2_with fail
 refine (cut_any R m _ hRs HS.out.ml).mono ?_
 rintro e w2 ⟨C,T,rfl,hC,hT,hb2⟩
 rw [show (one 45 R.data.toList).2.2 = true by rw [HR.out]; exact HP.out]
 have HC:=hid hC
 have HT:=hid hT
 have hCs : C.size < 4294967281:=by
  have h1:=size_of hC
  have h2:=(one_le 45 R.data.toList).1
  simp at h2; omega
 have hTs : T.size < 4294967281:=by
  have h1:=size_of hT
  have h2:=(one_le 45 R.data.toList).2
  simp at h2; omega
 have HB2:=hid (show Below (w.heap.size + 1) (w.alloc (.cells #[.int .i64 0,.int .i64 0,.int .i64 0,.slice none 0 0] 66)) w2 from hb2.mono (by simp))
 have HS2:=hid (HS.out.below hb2)
 clear hC hT hb2
 go_wp2_with fail
 refine (nums_any C aT aB m w2 hCs HS2.out).mono ?_
 rintro e w3 ⟨v,rfl,hown,hb3⟩
 have hCC : cutAt 46 C.data.toList = coreOf s.data.toList:=by rw [HC.out,HR.out]; rfl
 rw [hCC] at hown ⊢
 rw [H3.out,n_three H3.out] at hown
 have HB3:=hid (HB2.out.trans (hb3.mono (by have:=HB2.out.size; simpa using this)))
 have HS3:=hid (HS2.out.below hb3)
 have HZ:=hid (show w.heap.size + 1 <= w2.heap.size by have:=HB2.out.size; simpa using this)
 obtain ⟨_,⟨_,hn0⟩ | ⟨g9,cap,cur,hv,hg9,hblk,hcap,hcm,hcs,hct⟩⟩:=hown
 ·cases hn0
 subst hv
 have HK:=hid (show w3.cell? ⟨g9,0,none⟩ = some (.int .i64 (nAt s.data.toList 0)) /\ w3.cell? ⟨g9,1,none⟩ = some (.int .i64 (nAt s.data.toList 1)) /\ w3.cell? ⟨g9,2,none⟩ = some (.int .i64 (nAt s.data.toList 2)) from three_cells hblk hct)
 have HG:=hid hg9
 clear hg9 hblk hcap hcm hcs hct hb3 hCC
 go_wp2_with fail
 refine (split_any 46 T m w3 hTs HS3.out.ml).mono ?_
 rintro e w4 ⟨X,rfl,hX,hxc,hb4,hz4⟩
 have hPX : bl X = preOf s.data.toList:=by rw [hX,HT.out,HR.out]; unfold preOf; rw [HP.out]; rfl
 have HX:=hid hX
 have HPX:=hid hPX
 have HXC:=hid hxc
 have HS4:=hid (HS3.out.below hb4)
 have HB4:=hid hb4
 have HZ3:=hid HB3.out.size
 have hn:=many_le hX
 have HXS : Hid (∀ x,x ∈ X -> x.size <= maxLen):=fun x hx=>by have:=piece_le HX.out hx; unfold maxLen; omega
 have HZ4:=hid hz4
 clear hX hxc hb4 hPX hz4
 go_wp2_with fail
 refine (pre_some w3.heap.size 0 X.length X aT aB m w4 HS4.out (by omega) HXS.out HXC.out).mono ?_
 rintro e w5 ⟨rfl,hb5⟩
 rw [HPX.out]
 have HS5:=hid (HS4.out.below hb5)
 have HB5:=hid (HB4.out.trans (hb5.mono HB4.out.size))
 have HX5:=hid (show ∀ j (h : j < X.length),w5.cell? ⟨w3.heap.size,0 + j,none⟩ = some (.string X[j]) from fun j h=>cell_below hb5 (HXC.out j h))
 have HZ5:=hid (show w3.heap.size < w5.heap.size from Nat.lt_of_lt_of_le HZ4.out hb5.size)
 clear hb5
 have HE1:=hid (numsErr_err (coreOf s.data.toList))
 have HE2:=hid (pre_err (preOf s.data.toList))
 go_wp2_with fail
 refine (worse_any _ _ aT aB m w5 HS5.out HE1.out HE2.out).mono ?_
 rintro e w6 ⟨rfl,hw6⟩
 have HB6:=hid (show Below (w.heap.size + 1) (w.alloc (.cells #[.int .i64 0,.int .i64 0,.int .i64 0,.slice none 0 0] 66)) w6 by
  rw [hw6]; exact HB3.out.trans (HB5.out.mono (by have:=HZ3.out; simp at this; omega)))
 have HE:=hid (worse_err HE1.out HE2.out)
 rcases HE.out with h | h | h
 ·exact absurd h HQ.out
 ·have HH:=hid h
  rw [h,errV1]
  clear h hw6
  obtain ⟨⟨r0,r1,r2,r3⟩,rf,rz⟩:=res4 HB6.out
  have HBF:=hid (HB0.out.trans (HB6.out.mono (by omega)))
  go_wp2_with fail
  refine bodyPost_ret (v:=.tuple #[.agg #[.int .i64 0,.int .i64 0,.int .i64 0,.slice none 0 0],.iface 311 (.pointer (some aT))]) (by simp [results,Tryz.results35,go_sem,r0,r1,r2,r3]) rfl ⟨by rw [HH.out]; rfl,?_⟩
  exact (((HBF.out.setCell (Nat.le_refl _) _).setCell (Nat.le_refl _) _).setCell (Nat.le_refl _) _).setCell (Nat.le_refl _) _
 ·have HH:=hid h
  rw [h,errV2]
  clear h hw6
  obtain ⟨⟨r0,r1,r2,r3⟩,rf,rz⟩:=res4 HB6.out
  have HBF:=hid (HB0.out.trans (HB6.out.mono (by omega)))
  go_wp2_with fail
  refine bodyPost_ret (v:=.tuple #[.agg #[.int .i64 0,.int .i64 0,.int .i64 0,.slice none 0 0],.iface 311 (.pointer (some aB))]) (by simp [results,Tryz.results35,go_sem,r0,r1,r2,r3]) rfl ⟨by rw [HH.out]; rfl,?_⟩
  exact (((HBF.out.setCell (Nat.le_refl _) _).setCell (Nat.le_refl _) _).setCell (Nat.le_refl _) _).setCell (Nat.le_refl _) _
theorem vsplit_pgood (s : ByteArray) (aT aB : Addr) (m : Int) (w : World) (hs : s.size < 4294967281) (S : Vs w aT aB m) (hmk : marked s.data.toList = true) (h3 : (coreOf s.data.toList).length = 3) (hp : hasPre s.data.toList = true) (hq : worse (numsErr (coreOf s.data.toList)) (pre (preOf s.data.toList)) = 0) :
  Calls Tryz.prog 35 #[.string s] w fun e w'=>∃ b X,e = .returned (.tuple #[.agg #[.int .i64 (nAt s.data.toList 0),.int .i64 (nAt s.data.toList 1),.int .i64 (nAt s.data.toList 2),.slice (some ⟨b,0,none⟩) X.length X.length],.nilIface]) /\
   bl X = preOf s.data.toList /\ b < w'.heap.size /\ (∀ j (h : j < X.length),w'.cell? ⟨b,0 + j,none⟩ = some (.string X[j])) /\ Below w.heap.size w w':=by
 have HQ:=hid hq
 clear hq
 have HB0:=hid ((Below.refl w.heap.size w).alloc (Nat.le_refl _) (.cells #[.int .i64 0,.int .i64 0,.int .i64 0,.slice none 0 0] 66))
 have HS:=hid (S.below HB0.out)
 have hne1 : ¬ w.heap.size = 1:=by have:=lt_of_cell S.t; simp at this; omega
 have hne2 : ¬ 1 = w.heap.size:=fun h=>hne1 h.symm
 have HM:=hid hmk
 have H3:=hid h3
 have HP:=hid hp
 clear S hmk h3 hp
 go_enter Tryz.func35,Tryz.ntmps35
 go_wp2_with fail
 refine (cutPrefix_any s _).mono ?_
 rintro e w1 ⟨R,rfl,hR,rfl⟩
 rw [HM.out]
 have HR:=hid hR
 have hRs : R.size < 4294967281:=by
  have h1:=size_of hR
  have h2:=restOf_le s.data.toList
  simp at h2; omega
 clear hR
 go_wp2_with fail
 refine (cut_any R m _ hRs HS.out.ml).mono ?_
 rintro e w2 ⟨C,T,rfl,hC,hT,hb2⟩
 rw [show (one 45 R.data.toList).2.2 = true by rw [HR.out]; exact HP.out]
 have HC:=hid hC
 have HT:=hid hT
 have hCs : C.size < 4294967281:=by
  have h1:=size_of hC
  have h2:=(one_le 45 R.data.toList).1
  simp at h2; omega
 have hTs : T.size < 4294967281:=by
  have h1:=size_of hT
  have h2:=(one_le 45 R.data.toList).2
  simp at h2; omega
 have HB2:=hid (show Below (w.heap.size + 1) (w.alloc (.cells #[.int .i64 0,.int .i64 0,.int .i64 0,.slice none 0 0] 66)) w2 from hb2.mono (by simp))
 have HS2:=hid (HS.out.below hb2)
 clear hC hT hb2
 go_wp2_with fail
 refine (nums_any C aT aB m w2 hCs HS2.out).mono ?_
 rintro e w3 ⟨v,rfl,hown,hb3⟩
 have hCC : cutAt 46 C.data.toList = coreOf s.data.toList:=by rw [HC.out,HR.out]; rfl
 rw [hCC] at hown ⊢
 rw [H3.out,n_three H3.out] at hown
 have HB3:=hid (HB2.out.trans (hb3.mono (by have:=HB2.out.size; simpa using this)))
 have HS3:=hid (HS2.out.below hb3)
 have HZ:=hid (show w.heap.size + 1 <= w2.heap.size by have:=HB2.out.size; simpa using this)
 obtain ⟨_,⟨_,hn0⟩ | ⟨g9,cap,cur,hv,hg9,hblk,hcap,hcm,hcs,hct⟩⟩:=hown
 ·cases hn0
 subst hv
 have HK:=hid (show w3.cell? ⟨g9,0,none⟩ = some (.int .i64 (nAt s.data.toList 0)) /\ w3.cell? ⟨g9,1,none⟩ = some (.int .i64 (nAt s.data.toList 1)) /\ w3.cell? ⟨g9,2,none⟩ = some (.int .i64 (nAt s.data.toList 2)) from three_cells hblk hct)
 have HG:=hid hg9
 clear hg9 hblk hcap hcm hcs hct hb3 hCC
 go_wp2_with fail
 refine (split_any 46 T m w3 hTs HS3.out.ml).mono ?_
 rintro e w4 ⟨X,rfl,hX,hxc,hb4,hz4⟩
 have hPX : bl X = preOf s.data.toList:=by rw [hX,HT.out,HR.out]; unfold preOf; rw [HP.out]; rfl
 have HX:=hid hX
 have HPX:=hid hPX
 have HXC:=hid hxc
 have HS4:=hid (HS3.out.below hb4)
 have HB4:=hid hb4
 have HZ3:=hid HB3.out.size
 have hn:=many_le hX
 have HXS : Hid (∀ x,x ∈ X -> x.size <= maxLen):=fun x hx=>by have:=piece_le HX.out hx; unfold maxLen; omega
 have HZ4:=hid hz4
 clear hX hxc hb4 hPX hz4
 go_wp2_with fail
 refine (pre_some w3.heap.size 0 X.length X aT aB m w4 HS4.out (by omega) HXS.out HXC.out).mono ?_
 rintro e w5 ⟨rfl,hb5⟩
 rw [HPX.out]
 have HS5:=hid (HS4.out.below hb5)
 have HB5:=hid (HB4.out.trans (hb5.mono HB4.out.size))
 have HX5:=hid (show ∀ j (h : j < X.length),w5.cell? ⟨w3.heap.size,0 + j,none⟩ = some (.string X[j]) from fun j h=>cell_below hb5 (HXC.out j h))
 have HZ5:=hid (show w3.heap.size < w5.heap.size from Nat.lt_of_lt_of_le HZ4.out hb5.size)
 clear hb5
 have HE1:=hid (numsErr_err (coreOf s.data.toList))
 have HE2:=hid (pre_err (preOf s.data.toList))
 go_wp2_with fail
 refine (worse_any _ _ aT aB m w5 HS5.out HE1.out HE2.out).mono ?_
 rintro e w6 ⟨rfl,hw6⟩
 have HB6:=hid (show Below (w.heap.size + 1) (w.alloc (.cells #[.int .i64 0,.int .i64 0,.int .i64 0,.slice none 0 0] 66)) w6 by
  rw [hw6]; exact HB3.out.trans (HB5.out.mono (by have:=HZ3.out; simp at this; omega)))
 rw [HQ.out,errV0]
 obtain ⟨⟨r0,r1,r2,r3⟩,rf,rz⟩:=res4 HB6.out
 have HBF:=hid (HB0.out.trans (HB6.out.mono (by omega)))
 obtain ⟨k0,k1,k2⟩:=HK.out
 have hg9 : ¬ g9 = w.heap.size:=by have h1:=HG.out; have h2:=HZ.out; omega
 have hg9' : ¬ w.heap.size = g9:=fun h=>hg9 h.symm
 have hb9 : ¬ w3.heap.size = w.heap.size:=by have h1:=HZ3.out; simp at h1; omega
 have c0 : w6.cell? ⟨g9,0,none⟩ = some (.int .i64 (nAt s.data.toList 0)):=by rw [hw6]; exact cell_below HB5.out k0
 have c1 : w6.cell? ⟨g9,1,none⟩ = some (.int .i64 (nAt s.data.toList 1)):=by rw [hw6]; exact cell_below HB5.out k1
 have c2 : w6.cell? ⟨g9,2,none⟩ = some (.int .i64 (nAt s.data.toList 2)):=by rw [hw6]; exact cell_below HB5.out k2
 have HX6:=hid (show ∀ j (h : j < X.length),w6.cell? ⟨w3.heap.size,0 + j,none⟩ = some (.string X[j]) from hw6 ▸ HX5.out)
 have HZ6:=hid (show w3.heap.size < w6.heap.size from hw6 ▸ HZ5.out)
 clear hw6 k0 k1 k2
 generalize hn0 : nAt s.data.toList 0 = n0 at *
 generalize hn1 : nAt s.data.toList 1 = n1 at *
 generalize hn2 : nAt s.data.toList 2 = n2 at *
 have HN0:=hid hn0
 have HN1:=hid hn1
 have HN2:=hid hn2
 clear hn0 hn1 hn2
 go_wp2_with fail
 go_region
 all_goals (try go_wp2)
 all_goals
  refine bodyPost_ret (v:=.tuple #[.agg #[.int .i64 n0,.int .i64 n1,.int .i64 n2,.slice (some ⟨w3.heap.size,0,none⟩) X.length X.length],.nilIface]) (by simp [results,Tryz.results35,go_sem,r0,r1,r2,r3]) rfl ⟨w3.heap.size,X,by rw [HN0.out,HN1.out,HN2.out],HPX.out,?_,?_,?_⟩
  ·simpa using HZ6.out
  ·intro j h
   have:=HX6.out j h
   simpa [World.cell?_setCell_other,hb9,fun h : w.heap.size = w3.heap.size=>hb9 h.symm] using this
  ·exact ((((HBF.out.setCell (Nat.le_refl _) _).setCell (Nat.le_refl _) _).setCell (Nat.le_refl _) _).setCell (Nat.le_refl _) _).drew
theorem vsplit_bad (s : ByteArray) (aT aB : Addr) (m : Int) (w : World) (hs : s.size < 4294967281) (S : Vs w aT aB m) (h : verErr s.data.toList ≠ 0) :
  Calls Tryz.prog 35 #[.string s] w fun e w'=>e = .returned (.tuple #[.agg #[.int .i64 0,.int .i64 0,.int .i64 0,.slice none 0 0],errV aT aB (verErr s.data.toList)]) /\ Below w.heap.size w w':=by
 by_cases h0 : marked s.data.toList = false \/ (coreOf s.data.toList).length ≠ 3
 ·have e : verErr s.data.toList = 1:=by unfold verErr; rw [if_pos h0]
  rw [e]; exact vsplit_shape s aT aB m w hs S h0
 ·have h1 : marked s.data.toList = true:=by
   cases hm : marked s.data.toList
   ·exact absurd (Or.inl hm) h0
   ·rfl
  have h3 : (coreOf s.data.toList).length = 3:=Decidable.byContradiction fun hn=>h0 (Or.inr hn)
  cases hp : hasPre s.data.toList
  ·have e : verErr s.data.toList = numsErr (coreOf s.data.toList):=by unfold verErr; rw [if_neg h0,hp]; rfl
   rw [e] at h ⊢; exact vsplit_num s aT aB m w hs S h1 h3 hp h
  ·have e : verErr s.data.toList = worse (numsErr (coreOf s.data.toList)) (pre (preOf s.data.toList)):=by unfold verErr; rw [if_neg h0,hp]; rfl
   rw [e] at h ⊢; exact vsplit_pbad s aT aB m w hs S h1 h3 hp h
theorem vsplit_good (s : ByteArray) (aT aB : Addr) (m : Int) (w : World) (hs : s.size < 4294967281) (S : Vs w aT aB m) (h : verErr s.data.toList = 0) :
  Calls Tryz.prog 35 #[.string s] w fun e w'=>∃ v X,e = .returned (.tuple #[.agg #[.int .i64 (nAt s.data.toList 0),.int .i64 (nAt s.data.toList 1),.int .i64 (nAt s.data.toList 2),v],.nilIface]) /\
   bl X = preOf s.data.toList /\ StrsAt w' v X /\ Below w.heap.size w w':=by
 by_cases h0 : marked s.data.toList = false \/ (coreOf s.data.toList).length ≠ 3
 ·unfold verErr at h; rw [if_pos h0] at h; cases h
 ·have h1 : marked s.data.toList = true:=by
   cases hm : marked s.data.toList
   ·exact absurd (Or.inl hm) h0
   ·rfl
  have h3 : (coreOf s.data.toList).length = 3:=Decidable.byContradiction fun hn=>h0 (Or.inr hn)
  cases hp : hasPre s.data.toList
  ·have e : verErr s.data.toList = numsErr (coreOf s.data.toList):=by unfold verErr; rw [if_neg h0,hp]; rfl
   rw [e] at h
   refine (vsplit_plain s aT aB m w hs S h1 h3 hp h).mono fun e w' ⟨e1,e2⟩=>⟨.slice none 0 0,[],e1,?_,Or.inl ⟨rfl,rfl⟩,e2⟩
   unfold preOf; rw [hp]; rfl
  ·have e : verErr s.data.toList = worse (numsErr (coreOf s.data.toList)) (pre (preOf s.data.toList)):=by unfold verErr; rw [if_neg h0,hp]; rfl
   rw [e] at h
   refine (vsplit_pgood s aT aB m w hs S h1 h3 hp h).mono fun e w' ⟨b,X,e1,e2,e3,e4,e5⟩=>⟨_,X,e1,e2,Or.inr ⟨?_,b,rfl,e3,e4⟩,e5⟩
   intro hX
   subst hX
   have : preOf s.data.toList = []:=e2.symm
   unfold preOf at this
   rw [hp] at this
   exact cutAt_ne _ _ this
end Ve
end Go.Proofs.YtjbmjnbkibmkpaaGreatDoor


namespace Go.Proofs.YtjbmjnbkibmkpaaGreatDoor
open Go.RowKit Go.Sort
namespace Ve
def powName : String := "internal/strconv.uint64pow10"
theorem below_grow (w : World) (k : Nat) (os : Array Obj) : Below w.heap.size w (grow (w.drewN k) os):=
 ⟨rfl,rfl,rfl,by show w.heap.size <= (w.heap ++ os).size; simp,fun i hi=>by show (w.heap ++ os)[i]? = _; rw [Array.getElem?_append_left hi]⟩
theorem nDigits_le : ∀ (k u : Nat),u < 10 ^ (k + 1) -> Lib.nDigits u <= k + 1
 | 0,u,h=>by rw [Lib.nDigits_small (by simpa using h)]; omega
 | k + 1,u,h=>by
  by_cases h0 : u < 10
  ·rw [Lib.nDigits_small h0]; omega
  ·rw [Lib.nDigits_big h0]
   have:=nDigits_le k (u / 10) (by rw [Nat.pow_succ] at h; omega)
   omega
theorem itoa_le (n : Int) (h0 : 0 <= n) (h1 : n <= 999999) : (Lib.itoa n).length <= 6:=by
 unfold Lib.itoa
 rw [if_neg (by omega),Lib.decDigits_length]
 exact nDigits_le 5 n.toNat (by omega)
theorem itoa_any (n : Int) (w : World) (h0 : 0 <= n) (h1 : n <= 999999) (htab : Lib.TabIs Tryz.prog w powName .u64 Lib.pow10Tab) :
  Calls Tryz.prog 246 #[.int .i64 n] w fun e w'=>∃ S : ByteArray,e = .returned (.string S) /\ S.data.toList = Lib.itoa n /\ S.size <= 6 /\ Below w.heap.size w w':=
 (Tryz.strconv_Itoa n (by omega) (by omega) w htab).mono fun e w' ⟨e1,k,os,e2⟩=>⟨_,e1,by simp,by show (Lib.itoa n).toArray.size <= 6; simpa using itoa_le n h0 h1,by rw [e2]; exact below_grow w k os⟩
theorem powAt : Tryz.prog.globalNamed powName = some 12:=by kernel_rfl
theorem tab_below {w w' : World} (h : Lib.TabIs Tryz.prog w powName .u64 Lib.pow10Tab) (hb : Below w.heap.size w w') : Lib.TabIs Tryz.prog w' powName .u64 Lib.pow10Tab:=by
 have hlt : 12 < w.heap.size:=by
  have h1 : w.var? Tryz.prog powName = some _:=h
  unfold World.var? at h1
  rw [powAt] at h1
  simp only [Option.bind_some] at h1
  rcases Nat.lt_or_ge 12 w.heap.size with hh | hh
  ·exact hh
  ·rw [Array.getElem?_eq_none hh] at h1; cases h1
 exact var?_below hb powAt hlt h
structure Tx (w0 w : World) (N : Nat) (a b c v : Value) : Prop where
 c0 : w.cell? ⟨N,0,none⟩ = some a
 c1 : w.cell? ⟨N,1,none⟩ = some b
 c2 : w.cell? ⟨N,2,none⟩ = some c
 c3 : w.cell? ⟨N,3,none⟩ = some v
 tab : Lib.TabIs Tryz.prog w powName .u64 Lib.pow10Tab
 bl : Below w0.heap.size w0 w
theorem Tx.below {w0 w w' : World} {N : Nat} {a b c v : Value} (h : Tx w0 w N a b c v) (hb : Below w.heap.size w w') : Tx w0 w' N a b c v:=
 ⟨cell_below hb h.c0,cell_below hb h.c1,cell_below hb h.c2,cell_below hb h.c3,tab_below h.tab hb,h.bl.trans (hb.mono h.bl.size)⟩
theorem Tx.start {w : World} {a b c v : Value} {T : TypeId} (h : Lib.TabIs Tryz.prog w powName .u64 Lib.pow10Tab) : Tx w (w.alloc (.cells #[a,b,c,v] T)) w.heap.size a b c v:=
 ⟨by simp,by simp,by simp,by simp,tab_below h ((Below.refl _ _).alloc (Nat.le_refl _) _),(Below.refl _ _).alloc (Nat.le_refl _) _⟩
theorem Tx.drew {w0 w : World} {N : Nat} {a b c v : Value} (h : Tx w0 w N a b c v) : Tx w0 w.drew N a b c v:=h.below (below_drawn w 1)
theorem Tx.held {w0 w : World} {N : Nat} {a b c v : Value} (h : Tx w0 w N a b c v) : w.cell? ⟨N,0,none⟩ = some a /\ w.cell? ⟨N,1,none⟩ = some b /\ w.cell? ⟨N,2,none⟩ = some c /\ w.cell? ⟨N,3,none⟩ = some v /\ Hid (Tx w0 w N a b c v):=
 ⟨h.c0,h.c1,h.c2,h.c3,h⟩
def core3 (a b c : Int) : List UInt8:=[118] ++ Lib.itoa a ++ [46] ++ Lib.itoa b ++ [46] ++ Lib.itoa c
def textOf (a b c : Int) (ps : List (List UInt8)) : List UInt8:=
 if inBB a && inBB b && inBB c && pre ps == 0 then (if ps.isEmpty then core3 a b c else core3 a b c ++ [45] ++ Lib.join ps [46]) else []
theorem text_nums (a b c : Int) (v : Value) (w : World) (h : (inBB a && inBB b && inBB c) = false) :
  Calls Tryz.prog 281 #[.agg #[.int .i64 a,.int .i64 b,.int .i64 c,v]] w fun e w'=>e = .returned (.string ⟨#[]⟩) /\ Below w.heap.size w w':=by
 have HA:=hid (fun W=>inB_any a W)
 have HB:=hid (fun W=>inB_any b W)
 have HC:=hid (fun W=>inB_any c W)
 cases ha : inBB a
 ·rw [ha] at HA
  clear h ha
  go_enter Tryz.func281,Tryz.ntmps281
  go_wp2_with fail
  refine (HA.out _).mono ?_
  rintro e w' ⟨rfl,rfl⟩
  go_wp2_with fail
  go_ret
  exact ⟨rfl,(Below.refl _ _).alloc (Nat.le_refl _) _⟩
 ·cases hb : inBB b
  ·rw [ha] at HA
   rw [hb] at HB
   clear h ha hb
   go_enter Tryz.func281,Tryz.ntmps281
   go_wp2_with fail
   refine (HA.out _).mono ?_
   rintro e w' ⟨rfl,rfl⟩
   go_wp2_with fail
   refine (HB.out _).mono ?_
   rintro e w' ⟨rfl,rfl⟩
   go_wp2_with fail
   go_ret
   exact ⟨rfl,(Below.refl _ _).alloc (Nat.le_refl _) _⟩
  ·have hc : inBB c = false:=by rw [ha,hb] at h; simpa using h
   rw [ha] at HA
   rw [hb] at HB
   rw [hc] at HC
   clear h ha hb hc
   go_enter Tryz.func281,Tryz.ntmps281
   go_wp2_with fail
   refine (HA.out _).mono ?_
   rintro e w' ⟨rfl,rfl⟩
   go_wp2_with fail
   refine (HB.out _).mono ?_
   rintro e w' ⟨rfl,rfl⟩
   go_wp2_with fail
   refine (HC.out _).mono ?_
   rintro e w' ⟨rfl,rfl⟩
   go_wp2_with fail
   go_ret
   exact ⟨rfl,(Below.refl _ _).alloc (Nat.le_refl _) _⟩
theorem text_none (a b c : Int) (w : World) (ha : inBB a = true) (hb : inBB b = true) (hc : inBB c = true) (htab : Lib.TabIs Tryz.prog w powName .u64 Lib.pow10Tab)
  (hpre : ∀ W,Below w.heap.size w W -> Calls Tryz.prog 71 #[.slice none 0 0] W fun e w'=>e = .returned .nilIface /\ Below W.heap.size W w') :
  Calls Tryz.prog 281 #[.agg #[.int .i64 a,.int .i64 b,.int .i64 c,.slice none 0 0]] w fun e w'=>∃ T : ByteArray,e = .returned (.string T) /\ T.data.toList = core3 a b c /\ Below w.heap.size w w':=by
 have HA:=hid (fun W=>inB_any a W)
 have HB:=hid (fun W=>inB_any b W)
 have HC:=hid (fun W=>inB_any c W)
 rw [ha] at HA
 rw [hb] at HB
 rw [hc] at HC
 simp only [inBB,decide_eq_true_eq] at ha hb hc
 obtain ⟨a0,a1⟩:=ha
 obtain ⟨b0,b1⟩:=hb
 obtain ⟨d0,d1⟩:=hc
 have HT:=hid (Tx.start (a:=.int .i64 a) (b:=.int .i64 b) (c:=.int .i64 c) (v:=.slice none 0 0) (T:=66) htab)
 have HP:=hid hpre
 clear htab hpre
 go_enter Tryz.func281,Tryz.ntmps281
 go_wp2_with fail
 refine (HA.out _).mono ?_
 rintro e w' ⟨rfl,rfl⟩
 go_wp2_with fail
 refine (HB.out _).mono ?_
 rintro e w' ⟨rfl,rfl⟩
 go_wp2_with fail
 refine (HC.out _).mono ?_
 rintro e w' ⟨rfl,rfl⟩
 go_wp2_with fail
 refine (HP.out _ HT.out.bl).mono ?_
 rintro e w1 ⟨rfl,hb1⟩
 have HT:=hid (HT.out.below hb1)
 clear hb1
 have c0:=HT.out.c0
 have c1:=HT.out.c1
 have c2:=HT.out.c2
 have c3:=HT.out.c3
 go_wp2_with fail
 go_region_held (fun W=>W.cell? ⟨w.heap.size,0,none⟩ = some (.int .i64 a) /\ W.cell? ⟨w.heap.size,1,none⟩ = some (.int .i64 b) /\ W.cell? ⟨w.heap.size,2,none⟩ = some (.int .i64 c) /\ W.cell? ⟨w.heap.size,3,none⟩ = some (.slice none 0 0) /\ Hid (Tx w W w.heap.size (.int .i64 a) (.int .i64 b) (.int .i64 c) (.slice none 0 0))) (first | exact HTc.out.held | exact HTb.out.held | exact HTa.out.held | exact HT.out.drew.held) (first
  | (go_at_call_of 246 (Value.int IntKind.i64 a); refine (itoa_any a _ a0 a1 ?_).mono ?_; exact HT.out.drew.tab; rintro e w' ⟨Sa,rfl,hS,hZa,hb⟩; have HSa:=hid hS; have HTa:=hid (HT.out.drew.below hb); clear hS hb)
  | (go_at_call_of 246 (Value.int IntKind.i64 b); refine (itoa_any b _ b0 b1 ?_).mono ?_; exact HTa.out.tab; rintro e w' ⟨Sb,rfl,hS,hZb,hb⟩; have HSb:=hid hS; have HTb:=hid (HTa.out.below hb); clear hS hb)
  | (go_at_call_of 246 (Value.int IntKind.i64 c); refine (itoa_any c _ d0 d1 ?_).mono ?_; exact HTb.out.tab; rintro e w' ⟨Sc,rfl,hS,hZc,hb⟩; have HSc:=hid hS; have HTc:=hid (HTb.out.below hb); clear hS hb))
 all_goals
  have c3:=HTc.out.c3
  go_wp2_with fail
  go_ret
  refine ⟨_,rfl,?_,HTc.out.bl⟩
  unfold core3
  rw [<- HSa.out,<- HSb.out,<- HSc.out]
  simp
end Ve
end Go.Proofs.YtjbmjnbkibmkpaaGreatDoor


namespace Go.Proofs.YtjbmjnbkibmkpaaGreatDoor
open Go.RowKit
namespace Ve
structure Sn (w : World) (A : Nat -> Addr) : Prop where
 g0 : w.cell? ⟨1,0,none⟩ = some (.iface 311 (.pointer (some (A 0))))
 g1 : w.cell? ⟨9,0,none⟩ = some (.iface 311 (.pointer (some (A 1))))
 g2 : w.cell? ⟨3,0,none⟩ = some (.iface 311 (.pointer (some (A 2))))
 g3 : w.cell? ⟨5,0,none⟩ = some (.iface 311 (.pointer (some (A 3))))
 g4 : w.cell? ⟨7,0,none⟩ = some (.iface 311 (.pointer (some (A 4))))
 g6 : w.cell? ⟨2,0,none⟩ = some (.iface 311 (.pointer (some (A 6))))
 g7 : w.cell? ⟨4,0,none⟩ = some (.iface 311 (.pointer (some (A 7))))
 g8 : w.cell? ⟨0,0,none⟩ = some (.iface 311 (.pointer (some (A 8))))
 et : w.cell? ⟨6,0,none⟩ = some (.iface 170 (.agg #[.pointer (some ⟨15,33,none⟩)]))
structure Te (w : World) (A : Nat -> Addr) (m : Int) : Prop where
 sen : Sn w A
 vs : Vs w (A 0) (A 1) m
theorem Te.ml {w : World} {A : Nat -> Addr} {m : Int} (h : Te w A m) : w.cell? ⟨8,0,none⟩ = some (.int .i64 m):=h.vs.ml
theorem Te.below {w w' : World} {A : Nat -> Addr} {m : Int} (h : Te w A m) (hb : Below w.heap.size w w') : Te w' A m:=
 ⟨⟨cell_below hb h.sen.g0,cell_below hb h.sen.g1,cell_below hb h.sen.g2,cell_below hb h.sen.g3,cell_below hb h.sen.g4,cell_below hb h.sen.g6,cell_below hb h.sen.g7,cell_below hb h.sen.g8,cell_below hb h.sen.et⟩,h.vs.below hb⟩
def errA (A : Nat -> Addr) (c : Nat) : Value:=if c = 0 then .nilIface else .iface 311 (.pointer (some (A (c - 1))))
theorem errA0 (A : Nat -> Addr) : errA A 0 = .nilIface:=rfl
theorem errA1 (A : Nat -> Addr) : errA A 1 = .iface 311 (.pointer (some (A 0))):=rfl
theorem errA2 (A : Nat -> Addr) : errA A 2 = .iface 311 (.pointer (some (A 1))):=rfl
theorem errA4 (A : Nat -> Addr) : errA A 4 = .iface 311 (.pointer (some (A 3))):=rfl
theorem errA_V (A : Nat -> Addr) (c : Nat) (h : c = 0 \/ c = 1 \/ c = 2) : errV (A 0) (A 1) c = errA A c:=by
 rcases h with rfl | rfl | rfl <;> rfl
theorem errA_ne (A : Nat -> Addr) {c : Nat} (h : c ≠ 0) : ∃ a,errA A c = .iface 311 (.pointer (some a)):=⟨_,by unfold errA; rw [if_neg h]⟩
end Ve
end Go.Proofs.YtjbmjnbkibmkpaaGreatDoor


namespace Go.Proofs.YtjbmjnbkibmkpaaGreatDoor
open Go.RowKit
namespace Ve
def sufOk (l : List UInt8) : Bool:=decide ((num (restOf l)).2 = 0) && decide (2 <= (num (restOf l)).1)
theorem trimV_any (s : ByteArray) (w : World) : Calls Tryz.prog 170 #[.string s,.string ⟨#[118]⟩] w fun e w'=>∃ R : ByteArray,e = .returned (.string R) /\ R.data.toList = restOf s.data.toList /\ w' = w:=
 (Tryz.strings_TrimPrefix s ⟨#[118]⟩ w).mono fun e w' ⟨h1,h2⟩=>⟨_,h1,by
  have e0 : (⟨#[118]⟩ : ByteArray).data.toList = [118]:=rfl
  rw [e0,trimPrefix_v],h2⟩
theorem suffix_any (s : ByteArray) (A : Nat -> Addr) (m : Int) (w : World) (hs : s.size < 4294967281) (S : Te w A m) :
  Calls Tryz.prog 123 #[.string s] w fun e w'=>e = .returned (.tuple #[.int .i64 (if sufOk s.data.toList then (num (restOf s.data.toList)).1 else 0),if sufOk s.data.toList then .nilIface else .iface 311 (.pointer (some (A 3)))]) /\ Below w.heap.size w w':=by
 have HO:=hid (show sufOk s.data.toList = (decide ((num (restOf s.data.toList)).2 = 0) && decide (2 <= (num (restOf s.data.toList)).1)) from rfl)
 have HS:=hid S
 have HT:=hid (trimV_any s w)
 have HN:=hid (fun (R : ByteArray) (h : R.data.toList = restOf s.data.toList) W (SW : Te W A m)=>num_any R (A 0) (A 1) m W (by
   have h1:=size_of h
   have h2:=restOf_le s.data.toList
   simp at h2; unfold maxLen; omega) SW.vs)
 have HE:=hid (num_err (restOf s.data.toList))
 clear S
 by_cases h1 : (num (restOf s.data.toList)).2 = 0
 ·by_cases h2 : 2 <= (num (restOf s.data.toList)).1
  ·have HK:=hid (show sufOk s.data.toList = true by rw [HO.out,decide_eq_true h1,decide_eq_true h2]; rfl)
   have H1:=hid h1
   rw [HK.out]
   clear h1
   go_enter Tryz.func123,Tryz.ntmps123
   go_wp2_with fail
   refine HT.out.mono ?_
   rintro e w' ⟨R,rfl,hR,rfl⟩
   have HR:=hid hR
   clear hR
   go_wp2_with fail
   refine (HN.out R HR.out _ HS.out).mono ?_
   rintro e w1 ⟨rfl,hb1⟩
   rw [HR.out,H1.out,errV0]
   have HB:=hid hb1
   clear hb1
   generalize hn : (num (restOf s.data.toList)).1 = n at *
   have HNN:=hid hn
   clear hn
   go_wp2_with fail
   go_ret2
   exact ⟨by rw [<- HNN.out]; rfl,HB.out⟩
  ·have HK:=hid (show sufOk s.data.toList = false by rw [HO.out,decide_eq_false h2]; simp)
   have H1:=hid h1
   rw [HK.out]
   clear h1
   go_enter Tryz.func123,Tryz.ntmps123
   go_wp2_with fail
   refine HT.out.mono ?_
   rintro e w' ⟨R,rfl,hR,rfl⟩
   have HR:=hid hR
   clear hR
   go_wp2_with fail
   refine (HN.out R HR.out _ HS.out).mono ?_
   rintro e w1 ⟨rfl,hb1⟩
   rw [HR.out,H1.out,errV0]
   have HB:=hid hb1
   have g3:=(HS.out.below hb1).sen.g3
   clear hb1
   generalize (num (restOf s.data.toList)).1 = n at *
   go_wp2_with fail
   go_quiet (fail)
   go_wp2_with fail
   go_ret2
   exact ⟨rfl,HB.out.trans ((below_drawn _ _).mono HB.out.size)⟩
 ·have HK:=hid (show sufOk s.data.toList = false by rw [HO.out,decide_eq_false h1]; rfl)
  have H1:=hid h1
  rw [HK.out]
  clear h1
  go_enter Tryz.func123,Tryz.ntmps123
  go_wp2_with fail
  refine HT.out.mono ?_
  rintro e w' ⟨R,rfl,hR,rfl⟩
  have HR:=hid hR
  clear hR
  go_wp2_with fail
  refine (HN.out R HR.out _ HS.out).mono ?_
  rintro e w1 ⟨rfl,hb1⟩
  rw [HR.out]
  have HB:=hid hb1
  have g3:=(HS.out.below hb1).sen.g3
  clear hb1
  obtain ⟨a9,ha9⟩ : ∃ a,errV (A 0) (A 1) (num (restOf s.data.toList)).2 = .iface 311 (.pointer (some a)):=by
   rcases HE.out with h | h | h
   ·exact absurd h H1.out
   ·exact ⟨_,by rw [h]; rfl⟩
   ·exact ⟨_,by rw [h]; rfl⟩
  rw [ha9]
  clear ha9
  generalize (num (restOf s.data.toList)).1 = n at *
  go_wp2_with fail
  go_quiet (fail)
  go_wp2_with fail
  go_ret2
  exact ⟨rfl,HB.out.trans ((below_drawn _ _).mono HB.out.size)⟩
end Ve
end Go.Proofs.YtjbmjnbkibmkpaaGreatDoor


namespace Go.Proofs.YtjbmjnbkibmkpaaGreatDoor
open Go.RowKit Go.Sort
namespace Ve
theorem join_any (bk cp : Nat) (X : List ByteArray) (w : World) (hX : X.length <= 1000) (hcp : X.length <= cp) (hbk : bk < w.heap.size) (hcell : ∀ j (h : j < X.length),w.cell? ⟨bk,0 + j,none⟩ = some (.string X[j])) (hlen : (Lib.join (bl X) [46]).length <= 1000000) :
  Calls Tryz.prog 124 #[.slice (some ⟨bk,0,none⟩) X.length cp,.string ⟨#[46]⟩] w fun e w'=>∃ J : ByteArray,e = .returned (.string J) /\ J.data.toList = Lib.join (bl X) [46] /\ J.size <= 1000000 /\ Below w.heap.size w w':=
 (Tryz.strings_Join bk 0 cp X ⟨#[46]⟩ w (fun j x hx=>by
   obtain ⟨hj,e⟩:=List.getElem?_eq_some_iff.1 hx
   rw [<- e]
   exact hcell j hj) hbk (by omega) hcp (Nat.le_trans hlen (by omega))).mono fun e w' ⟨h1,h2⟩=>
  ⟨⟨(Lib.join (bl X) [46]).toArray⟩,h1,by simp,by show (Lib.join (bl X) [46]).toArray.size <= _; simpa using hlen,h2⟩
theorem text_some (a b c : Int) (bk cp : Nat) (X : List ByteArray) (w : World) (hX : X.length <= 1000) (hcp : X.length <= cp) (hXn : X ≠ []) (hbk : bk < w.heap.size) (hcell : ∀ j (h : j < X.length),w.cell? ⟨bk,0 + j,none⟩ = some (.string X[j])) (hlen : (Lib.join (bl X) [46]).length <= 1000000) (ha : inBB a = true) (hb : inBB b = true) (hc : inBB c = true) (htab : Lib.TabIs Tryz.prog w powName .u64 Lib.pow10Tab)
  (hpre : ∀ W,Below w.heap.size w W -> Calls Tryz.prog 71 #[.slice (some ⟨bk,0,none⟩) X.length cp] W fun e w'=>e = .returned .nilIface /\ Below W.heap.size W w') :
  Calls Tryz.prog 281 #[.agg #[.int .i64 a,.int .i64 b,.int .i64 c,.slice (some ⟨bk,0,none⟩) X.length cp]] w fun e w'=>∃ T : ByteArray,e = .returned (.string T) /\ T.data.toList = core3 a b c ++ [45] ++ Lib.join (bl X) [46] /\ Below w.heap.size w w':=by
 have HCE:=hid hcell
 have HXN:=hid hXn
 have HLE:=hid hlen
 have hx0 : ((X.length : Int) == 0) = false:=by
  have:=List.length_pos_iff.2 hXn
  simp; omega
 clear hcell hXn hlen
 have HA:=hid (fun W=>inB_any a W)
 have HB:=hid (fun W=>inB_any b W)
 have HC:=hid (fun W=>inB_any c W)
 rw [ha] at HA
 rw [hb] at HB
 rw [hc] at HC
 simp only [inBB,decide_eq_true_eq] at ha hb hc
 obtain ⟨a0,a1⟩:=ha
 obtain ⟨b0,b1⟩:=hb
 obtain ⟨d0,d1⟩:=hc
 have HT:=hid (Tx.start (a:=.int .i64 a) (b:=.int .i64 b) (c:=.int .i64 c) (v:=.slice (some ⟨bk,0,none⟩) X.length cp) (T:=66) htab)
 have HP:=hid hpre
 clear htab hpre
 go_enter Tryz.func281,Tryz.ntmps281
 go_wp2_with fail
 refine (HA.out _).mono ?_
 rintro e w' ⟨rfl,rfl⟩
 go_wp2_with fail
 refine (HB.out _).mono ?_
 rintro e w' ⟨rfl,rfl⟩
 go_wp2_with fail
 refine (HC.out _).mono ?_
 rintro e w' ⟨rfl,rfl⟩
 go_wp2_with fail
 refine (HP.out _ HT.out.bl).mono ?_
 rintro e w1 ⟨rfl,hb1⟩
 have HT:=hid (HT.out.below hb1)
 clear hb1
 have c0:=HT.out.c0
 have c1:=HT.out.c1
 have c2:=HT.out.c2
 have c3:=HT.out.c3
 go_wp2_with fail
 go_region_held (fun W=>W.cell? ⟨w.heap.size,0,none⟩ = some (.int .i64 a) /\ W.cell? ⟨w.heap.size,1,none⟩ = some (.int .i64 b) /\ W.cell? ⟨w.heap.size,2,none⟩ = some (.int .i64 c) /\ W.cell? ⟨w.heap.size,3,none⟩ = some (.slice (some ⟨bk,0,none⟩) X.length cp) /\ Hid (Tx w W w.heap.size (.int .i64 a) (.int .i64 b) (.int .i64 c) (.slice (some ⟨bk,0,none⟩) X.length cp))) (first | exact HTc.out.held | exact HTb.out.held | exact HTa.out.held | exact HT.out.drew.held) (first
  | (go_at_call_of 246 (Value.int IntKind.i64 a); refine (itoa_any a _ a0 a1 ?_).mono ?_; exact HT.out.drew.tab; rintro e w' ⟨Sa,rfl,hS,hZa,hb⟩; have HSa:=hid hS; have HTa:=hid (HT.out.drew.below hb); clear hS hb)
  | (go_at_call_of 246 (Value.int IntKind.i64 b); refine (itoa_any b _ b0 b1 ?_).mono ?_; exact HTa.out.tab; rintro e w' ⟨Sb,rfl,hS,hZb,hb⟩; have HSb:=hid hS; have HTb:=hid (HTa.out.below hb); clear hS hb)
  | (go_at_call_of 246 (Value.int IntKind.i64 c); refine (itoa_any c _ d0 d1 ?_).mono ?_; exact HTb.out.tab; rintro e w' ⟨Sc,rfl,hS,hZc,hb⟩; have HSc:=hid hS; have HTc:=hid (HTb.out.below hb); clear hS hb))
 all_goals
  have c3:=HTc.out.c3
  have HJ:=hid (join_any bk cp X w' hX hcp (Nat.lt_of_lt_of_le hbk HTc.out.bl.size) (fun j hj=>cell_below HTc.out.bl (HCE.out j hj)) HLE.out)
  go_wp2_with fail
  refine HJ.out.mono ?_
  rintro e w2 ⟨J,rfl,hJ,hJs,hb2⟩
  have HJe:=hid hJ
  have HB2:=hid (HTc.out.bl.trans (hb2.mono HTc.out.bl.size))
  clear hb2 HJ hJ
  go_wp2_with fail
  go_ret
  refine ⟨_,rfl,?_,HB2.out⟩
  unfold core3
  rw [<- HSa.out,<- HSb.out,<- HSc.out,<- HJe.out]
  simp
end Ve
end Go.Proofs.YtjbmjnbkibmkpaaGreatDoor


namespace Go.Proofs.YtjbmjnbkibmkpaaGreatDoor
open Go.RowKit
namespace Ve
def valTo (n : Int) (l : List UInt8) : Int:=l.foldl (fun n c=>10 * n + ((c.toNat : Int) - 48)) n
theorem valTo_snoc (n : Int) (l : List UInt8) (c : UInt8) : valTo n (l ++ [c]) = 10 * valTo n l + ((c.toNat : Int) - 48):=by simp [valTo,List.foldl_append]
theorem dig_bd {c : UInt8} (h : dig c = true) : 48 <= (c.toNat : Int) /\ (c.toNat : Int) <= 57:=by simpa [dig,digB] using h
theorem valTo_bd : ∀ (l : List UInt8) (n : Int),l.all dig = true -> 0 <= n -> n * 10 ^ l.length <= valTo n l /\ valTo n l < (n + 1) * 10 ^ l.length:=by
 intro l
 induction l with
 | nil=>intro n _ h; simp [valTo]; omega
 | cons c r ih=>
  intro n ha h0
  simp only [List.all_cons,Bool.and_eq_true] at ha
  have hc:=dig_bd ha.1
  have:=ih (10 * n + ((c.toNat : Int) - 48)) ha.2 (by omega)
  show n * 10 ^ (r.length + 1) <= valTo (10 * n + ((c.toNat : Int) - 48)) r /\ valTo (10 * n + ((c.toNat : Int) - 48)) r < (n + 1) * 10 ^ (r.length + 1)
  have hp : (0 : Int) < 10 ^ r.length:=Int.pow_pos (by decide)
  have e1 : n * 10 ^ (r.length + 1) = (10 * n) * 10 ^ r.length:=by rw [Int.pow_succ]; rw [Int.mul_comm (10 ^ r.length) 10,<- Int.mul_assoc,Int.mul_comm n 10]
  have e2 : (n + 1) * 10 ^ (r.length + 1) = (10 * (n + 1)) * 10 ^ r.length:=by rw [Int.pow_succ]; rw [Int.mul_comm (10 ^ r.length) 10,<- Int.mul_assoc,Int.mul_comm (n + 1) 10]
  rw [e1,e2]
  constructor
  ·exact Int.le_trans (Int.mul_le_mul_of_nonneg_right (by omega) (Int.le_of_lt hp)) this.1
  ·exact Int.lt_of_lt_of_le this.2 (Int.mul_le_mul_of_nonneg_right (by omega) (Int.le_of_lt hp))
theorem numTo_val : ∀ (l : List UInt8) (n : Int),l.all dig = true -> 0 <= n -> numTo (min n 1000000) l = min (valTo n l) 1000000:=by
 intro l
 induction l with
 | nil=>intro n _ _; rfl
 | cons c r ih=>
  intro n ha h0
  simp only [List.all_cons,Bool.and_eq_true] at ha
  have hc:=dig_bd ha.1
  have:=ih (10 * n + ((c.toNat : Int) - 48)) ha.2 (by omega)
  show numTo (min (min n 1000000 * 10 + ((c.toNat : Int) - 48)) 1000000) r = min (valTo (10 * n + ((c.toNat : Int) - 48)) r) 1000000
  rw [<- this]
  congr 1
  omega
theorem num_six (l : List UInt8) (h : digs l = true) (h0 : zero l = false) : num l = if 6 < l.length then (0,2) else (valTo 0 l,0):=by
 have had : l.all dig = true:=by unfold digs at h; simp at h; exact h.2
 have hpos : 0 < l.length:=by unfold digs at h; simp at h; exact h.1
 have e:=numTo_val l 0 had (by omega)
 rw [show min (0 : Int) 1000000 = 0 by omega] at e
 have hb:=valTo_bd l 0 had (by omega)
 unfold num
 rw [h,h0,e]
 simp only [Bool.not_true,Bool.or_false,Bool.false_eq_true,if_false]
 by_cases h6 : 6 < l.length
 ·rw [if_pos h6]
  have hbig : 999999 < valTo 0 l:=by
   cases l with
   | nil=>simp at hpos
   | cons c r=>
    simp only [List.all_cons,Bool.and_eq_true] at had
    have hc:=dig_bd had.1
    have hc48 : (c.toNat : Int) ≠ 48:=by
     intro hh
     have : c = 48:=by apply UInt8.toNat_inj.1; show c.toNat = 48; omega
     subst this
     simp [zero] at h0
     have : r.length + 1 > 6:=h6
     have h7 : r ≠ []:=by intro hr; subst hr; simp at this
     exact h7 h0
    have hv:=(valTo_bd r (10 * 0 + ((c.toNat : Int) - 48)) had.2 (by omega)).1
    have hr : 6 <= r.length:=by simp at h6; omega
    have hp : (1000000 : Int) <= 10 ^ r.length:=by
     have:=Nat.pow_le_pow_right (n:=10) (by omega) hr
     have h8 : ((10 ^ 6 : Nat) : Int) <= ((10 ^ r.length : Nat) : Int):=by exact_mod_cast this
     simpa using h8
    have h9 : (10 : Int) ^ r.length <= (10 * 0 + ((c.toNat : Int) - 48)) * 10 ^ r.length:=by
     have:=Int.mul_le_mul_of_nonneg_right (a:=1) (b:=10 * 0 + ((c.toNat : Int) - 48)) (c:=10 ^ r.length) (by omega) (by omega)
     simpa using this
    show 999999 < valTo (10 * 0 + ((c.toNat : Int) - 48)) r
    omega
  rw [if_neg (by omega)]
 ·rw [if_neg h6]
  have hp : (10 : Int) ^ l.length <= 1000000:=by
   have:=Nat.pow_le_pow_right (n:=10) (by omega) (show l.length <= 6 by omega)
   have h8 : ((10 ^ l.length : Nat) : Int) <= ((10 ^ 6 : Nat) : Int):=by exact_mod_cast this
   simpa using h8
  have : valTo 0 l < 1000000:=by have:=hb.2; simp at this; omega
  rw [if_pos (by omega),show min (valTo 0 l) 1000000 = valTo 0 l by omega]
theorem val_le (l : List UInt8) (h : l.all dig = true) (h6 : l.length <= 6) : 0 <= valTo 0 l /\ valTo 0 l < 1000000:=by
 have hb:=valTo_bd l 0 h (by omega)
 have hp : (10 : Int) ^ l.length <= 1000000:=by
  have:=Nat.pow_le_pow_right (n:=10) (by omega) h6
  have h8 : ((10 ^ l.length : Nat) : Int) <= ((10 ^ 6 : Nat) : Int):=by exact_mod_cast this
  simpa using h8
 have h1:=hb.1
 have h2:=hb.2
 simp at h1 h2
 omega
theorem str_ext {a b : ByteArray} (h : a.data.toList = b.data.toList) : a = b:=by
 cases a; cases b; congr 1; exact Array.toList_inj.1 h
theorem str_ne {a b : ByteArray} (h : ¬ a = b) : (a.toList == b.toList) = false:=by
 rw [beq_eq_false_iff_ne,ByteArray.toList_eq,ByteArray.toList_eq]
 intro e; exact h (str_ext e)
end Ve
end Go.Proofs.YtjbmjnbkibmkpaaGreatDoor


namespace Go.Proofs.YtjbmjnbkibmkpaaGreatDoor
open Go.RowKit
namespace Ve
theorem dec_big {u : Nat} (h : ¬ u < 10) : Lib.decDigits u = Lib.decDigits (u / 10) ++ [UInt8.ofNat (48 + u % 10)]:=by rw [Lib.decDigits,dif_neg h]
def preText : List (List UInt8) -> List UInt8
 | []=>[]
 | p :: r=>[45] ++ Lib.join (p :: r) [46]
theorem bl_inj {X Y : List ByteArray} (h : bl X = bl Y) : X = Y:=by
 induction X generalizing Y with
 | nil=>cases Y with
  | nil=>rfl
  | cons y r=>simp [bl] at h
 | cons x r ih=>cases Y with
  | nil=>simp [bl] at h
  | cons y s=>
   simp only [bl,List.map_cons,List.cons.injEq] at h
   rw [str_ext h.1,ih h.2]
end Ve
end Go.Proofs.YtjbmjnbkibmkpaaGreatDoor


namespace Go.Proofs.YtjbmjnbkibmkpaaGreatDoor
open Go.RowKit
namespace Ve
theorem three (w : World) (A B C : Array Value) (T U : TypeId) (j : Nat) :
  (((w.alloc (.cells A T)).alloc (.cells B T)).alloc (.cells C U)).cell? ⟨w.heap.size,j,none⟩ = A[j]? /\ (((w.alloc (.cells A T)).alloc (.cells B T)).alloc (.cells C U)).cell? ⟨w.heap.size + 1,j,none⟩ = B[j]? /\
  (((w.alloc (.cells A T)).alloc (.cells B T)).alloc (.cells C U)).cell? ⟨w.heap.size + 1 + 1,j,none⟩ = C[j]?:=by
 refine ⟨?_,?_,?_⟩
 ·rw [World.cell?_alloc_lt _ _ _ (by simp; omega),World.cell?_alloc_lt _ _ _ (by simp),World.cell?_alloc_at _ _ _ _ rfl]
 ·rw [World.cell?_alloc_lt _ _ _ (by simp),World.cell?_alloc_at _ _ _ _ (by simp)]
 ·rw [World.cell?_alloc_at _ _ _ _ (by simp)]
end Ve
end Go.Proofs.YtjbmjnbkibmkpaaGreatDoor


namespace Go.Proofs.YtjbmjnbkibmkpaaGreatDoor
open Go.RowKit
namespace Ve
theorem textOf_pre (a b c : Int) (ps : List (List UInt8)) : textOf a b c ps = if inBB a && inBB b && inBB c && pre ps == 0 then core3 a b c ++ preText ps else []:=by
 unfold textOf
 cases ps with
 | nil=>simp [preText]
 | cons p r=>simp [preText]
theorem text_pbad (a b c : Int) (v : Value) (q : Nat) (aT aB : Addr) (w : World) (ha : inBB a = true) (hb : inBB b = true) (hc : inBB c = true) (hq : q = 1 \/ q = 2)
  (hpre : ∀ W,Below w.heap.size w W -> Calls Tryz.prog 71 #[v] W fun e w'=>e = .returned (errV aT aB q) /\ Below W.heap.size W w') :
  Calls Tryz.prog 281 #[.agg #[.int .i64 a,.int .i64 b,.int .i64 c,v]] w fun e w'=>e = .returned (.string ⟨#[]⟩) /\ Below w.heap.size w w':=by
 have HA:=hid (fun W=>inB_any a W)
 have HB:=hid (fun W=>inB_any b W)
 have HC:=hid (fun W=>inB_any c W)
 rw [ha] at HA
 rw [hb] at HB
 rw [hc] at HC
 have HP:=hid hpre
 have HB0:=hid ((Below.refl w.heap.size w).alloc (Nat.le_refl _) (.cells #[.int .i64 a,.int .i64 b,.int .i64 c,v] 66))
 clear ha hb hc hpre
 go_enter Tryz.func281,Tryz.ntmps281
 go_wp2_with fail
 refine (HA.out _).mono ?_
 rintro e w' ⟨rfl,rfl⟩
 go_wp2_with fail
 refine (HB.out _).mono ?_
 rintro e w' ⟨rfl,rfl⟩
 go_wp2_with fail
 refine (HC.out _).mono ?_
 rintro e w' ⟨rfl,rfl⟩
 go_wp2_with fail
 refine (HP.out _ HB0.out).mono ?_
 rintro e w1 ⟨rfl,hb1⟩
 have HB1:=hid (HB0.out.trans (hb1.mono (by simp)))
 clear hb1
 rcases hq with rfl | rfl
 ·rw [errV1]
  go_wp2_with fail
  go_ret
  exact ⟨rfl,HB1.out⟩
 ·rw [errV2]
  go_wp2_with fail
  go_ret
  exact ⟨rfl,HB1.out⟩
theorem text_any (a b c : Int) (X : List ByteArray) (v : Value) (aT aB : Addr) (m : Int) (w : World) (S : Vs w aT aB m) (htab : Lib.TabIs Tryz.prog w powName .u64 Lib.pow10Tab) (hX : X.length <= 1000) (hXz : ∀ x,x ∈ X -> x.size <= maxLen)
  (hlen : (preText (bl X)).length <= 1000000)
  (hv : (X = [] /\ v = .slice none 0 0) \/ (X ≠ [] /\ ∃ bk cp,v = .slice (some ⟨bk,0,none⟩) X.length cp /\ X.length <= cp /\ bk < w.heap.size /\ ∀ j (h : j < X.length),w.cell? ⟨bk,0 + j,none⟩ = some (.string X[j]))) :
  Calls Tryz.prog 281 #[.agg #[.int .i64 a,.int .i64 b,.int .i64 c,v]] w fun e w'=>∃ T : ByteArray,e = .returned (.string T) /\ T.data.toList = textOf a b c (bl X) /\ Below w.heap.size w w':=by
 have hpre : ∀ W,Below w.heap.size w W -> Calls Tryz.prog 71 #[v] W fun e w'=>e = .returned (errV aT aB (pre (bl X))) /\ Below W.heap.size W w':=by
  intro W hW
  rcases hv with ⟨h1,h2⟩ | ⟨h1,bk,cp,h2,h3,h4,h5⟩
  ·subst h1; subst h2
   exact pre_nil none 0 aT aB W
  ·subst h2
   exact pre_some bk 0 cp X aT aB m W (S.below hW) (by omega) hXz (fun j h=>cell_below hW (h5 j h))
 cases hn : (inBB a && inBB b && inBB c)
 ·refine (text_nums a b c v w hn).mono fun e w' ⟨h1,h2⟩=>⟨_,h1,?_,h2⟩
  rw [textOf_pre,hn]; rfl
 ·simp only [Bool.and_eq_true] at hn
  obtain ⟨⟨ha,hb⟩,hc⟩:=hn
  rcases pre_err (bl X) with h0 | h0
  ·rw [h0] at hpre
   have hT : textOf a b c (bl X) = core3 a b c ++ preText (bl X):=by rw [textOf_pre,ha,hb,hc,h0]; rfl
   rw [hT]
   rcases hv with ⟨h1,h2⟩ | ⟨h1,bk,cp,h2,h3,h4,h5⟩
   ·subst h1; subst h2
    refine (text_none a b c w ha hb hc htab hpre).mono fun e w' ⟨T,e1,e2,e3⟩=>⟨T,e1,?_,e3⟩
    rw [e2]; simp [bl,preText]
   ·subst h2
    have hj : preText (bl X) = [45] ++ Lib.join (bl X) [46]:=by
     cases X with
     | nil=>exact absurd rfl h1
     | cons x r=>rfl
    refine (text_some a b c bk cp X w hX h3 h1 h4 h5 (by rw [hj] at hlen; simp at hlen; omega) ha hb hc htab hpre).mono fun e w' ⟨T,e1,e2,e3⟩=>⟨T,e1,?_,e3⟩
    rw [e2,hj,List.append_assoc]
  ·refine (text_pbad a b c v (pre (bl X)) aT aB w ha hb hc h0 hpre).mono fun e w' ⟨h1,h2⟩=>⟨_,h1,?_,h2⟩
   rw [textOf_pre]
   rcases h0 with h | h <;> rw [h] <;> simp
end Ve
end Go.Proofs.YtjbmjnbkibmkpaaGreatDoor


namespace Go.Proofs.YtjbmjnbkibmkpaaGreatDoor
open Go.RowKit
namespace Ve
theorem cut_last (c : UInt8) (a : List UInt8) (h : a.contains c = false) : cutAt c a = [a]:=by
 induction a with
 | nil=>rfl
 | cons b l ih=>
  have hb : b ≠ c:=by intro e; subst e; simp at h
  have hl : l.contains c = false:=by simp at h ⊢; exact h.2
  simp [cutAt,hb,ih hl,ahead]
theorem cut_step (c : UInt8) (a b : List UInt8) (h : a.contains c = false) : cutAt c (a ++ c :: b) = a :: cutAt c b:=by
 induction a with
 | nil=>simp [cutAt]
 | cons x l ih=>
  have hb : x ≠ c:=by intro e; subst e; simp at h
  have hl : l.contains c = false:=by simp at h ⊢; exact h.2
  simp only [List.cons_append,cutAt,if_neg hb,ih hl,ahead]
theorem infoStr : (Tryz.prog.info? 9).map (fun i=>(i.zero,i.size,i.bytes)) = some (some (.string ByteArray.empty),1,16):=by kernel_rfl
theorem extract_list (s : ByteArray) (f i : Nat) : (s.extract f i).data.toList = (s.data.toList.drop f).take (i - f):=by
 simp [ByteArray.data_extract]
end Ve
end Go.Proofs.YtjbmjnbkibmkpaaGreatDoor


namespace Go.Proofs.YtjbmjnbkibmkpaaGreatDoor
open Go.RowKit
namespace Ve
def worst (b : Nat) (cs : List Nat) : Nat:=if b = 1 \/ 1 ∈ cs then 1 else if b = 2 \/ 2 ∈ cs then 2 else 0
theorem worst_fold {α : Type} (f : α -> Nat) (hf : ∀ x,f x = 0 \/ f x = 1 \/ f x = 2) : ∀ (ps : List α) (b : Nat),(b = 0 \/ b = 1 \/ b = 2) -> ps.foldl (fun b p=>worse b (f p)) b = worst b (ps.map f):=by
 intro ps
 induction ps with
 | nil=>
  intro b hb
  rcases hb with rfl | rfl | rfl <;> simp [worst]
 | cons p r ih=>
  intro b hb
  rw [List.foldl_cons,ih _ (worse_err hb (hf p))]
  rcases hb with rfl | rfl | rfl <;> rcases hf p with h | h | h <;> simp [worst,worse,h]
theorem numsErr_worst (ps : List (List UInt8)) : numsErr ps = worst 0 (ps.map fun p=>(num p).2):=worst_fold _ num_err ps 0 (Or.inl rfl)
theorem preTo_worst (b : Nat) (hb : b = 0 \/ b = 1 \/ b = 2) (ps : List (List UInt8)) : preTo b ps = worst b (ps.map part):=worst_fold _ part_err ps b hb
end Ve
end Go.Proofs.YtjbmjnbkibmkpaaGreatDoor


namespace Go.Proofs.YtjbmjnbkibmkpaaGreatDoor
open Go.RowKit
namespace Ve
theorem rest_drop {l : List UInt8} (h : marked l = true) : restOf l = l.drop 1:=by unfold restOf; rw [if_pos h]
theorem one_no {c : UInt8} {l : List UInt8} (h : l.contains c = false) : one c l = (l,[],false):=by
 unfold one
 have h1 : ∀ x,x ∈ l -> (x != c) = true:=by
  intro x hx
  simp at h ⊢
  intro e; subst e; exact h hx
 have e1 : l.takeWhile (· != c) = l:=by
  induction l with
  | nil=>rfl
  | cons a r ih=>
   have:=h1 a (List.mem_cons_self)
   simp only [List.takeWhile_cons,this,if_true]
   rw [ih (by simp at h ⊢; exact h.2) (fun x hx=>h1 x (List.mem_cons_of_mem _ hx))]
 have e2:=List.takeWhile_append_dropWhile (p:=(· != c)) (l:=l)
 rw [e1] at e2
 have e3 : l.dropWhile (· != c) = []:=by
  have:=congrArg List.length e2
  simp at this
  exact this
 rw [e1,e3,h]; rfl
end Ve
end Go.Proofs.YtjbmjnbkibmkpaaGreatDoor


namespace Go.Proofs.YtjbmjnbkibmkpaaGreatDoor
open Go.RowKit
namespace Ve
def ncode (p : List UInt8) : Nat:=(num p).2
theorem numsErr_ncode (ps : List (List UInt8)) : numsErr ps = worst 0 (ps.map ncode):=numsErr_worst ps
end Ve
end Go.Proofs.YtjbmjnbkibmkpaaGreatDoor


namespace Go.Proofs.YtjbmjnbkibmkpaaGreatDoor
open Go.RowKit
namespace Ve
theorem dig_of {n : Nat} (h : n < 10) : dig (UInt8.ofNat (48 + n)) = true:=by
 have : (UInt8.ofNat (48 + n)).toNat = 48 + n:=by simp [UInt8.toNat_ofNat']; omega
 simp only [dig,digB,this,decide_eq_true_eq]
 omega
theorem dec_dig (u : Nat) : (Lib.decDigits u).all dig = true:=by
 induction u using Nat.strongRecOn with
 | _ u ih=>
  by_cases h : u < 10
  ·rw [Lib.decDigits_one h,List.all_cons,dig_of h]; rfl
  ·rw [dec_big h,all_snoc,ih _ (by omega),dig_of (by omega)]; rfl
theorem itoa_dec (a : Int) (h : 0 <= a) : Lib.itoa a = Lib.decDigits a.toNat:=by unfold Lib.itoa; rw [if_neg (by omega)]
theorem all_no {f : UInt8 -> Bool} {l : List UInt8} {c : UInt8} (h : l.all f = true) (hc : f c = false) : l.contains c = false:=by
 cases hl : l.contains c
 ·rfl
 ·have:=List.all_eq_true.1 h c (by simpa using hl)
  rw [hc] at this; cases this
theorem itoa_no (a : Int) (h0 : 0 <= a) (c : UInt8) (hc : dig c = false) : (Lib.itoa a).contains c = false:=by rw [itoa_dec a h0]; exact all_no (dec_dig _) hc
theorem one_at {c : UInt8} {a b : List UInt8} (h : a.contains c = false) : one c (a ++ c :: b) = (a,b,true):=by
 have h1 : ∀ x,x ∈ a -> (x != c) = true:=by
  intro x hx
  simp at h ⊢
  intro e; subst e; exact h hx
 have e1 : (a ++ c :: b).takeWhile (· != c) = a:=by
  rw [List.takeWhile_append_of_pos h1]; simp
 have e2 : (a ++ c :: b).dropWhile (· != c) = c :: b:=by
  rw [List.dropWhile_append_of_pos h1]; simp
 unfold one
 rw [e1,e2]
 simp
theorem pre_parts {ps : List (List UInt8)} (h : pre ps = 0) : ∀ p,p ∈ ps -> part p = 0:=by
 intro p hp
 unfold pre at h
 rw [preTo_worst _ (by split <;> simp)] at h
 unfold worst at h
 have hm : part p ∈ ps.map part:=List.mem_map_of_mem hp
 rcases part_err p with e | e | e
 ·exact e
 ·rw [e] at hm; rw [if_pos (Or.inr hm)] at h; cases h
 ·rw [e] at hm
  exfalso
  generalize (if 5 < ps.length then 2 else 0) = q at h
  by_cases g : q = 1 \/ 1 ∈ ps.map part
  ·rw [if_pos g] at h; omega
  ·rw [if_neg g,if_pos (Or.inr hm)] at h; omega
def core (a b c : Int) : List UInt8:=Lib.itoa a ++ 46 :: (Lib.itoa b ++ 46 :: Lib.itoa c)
theorem core3_eq (a b c : Int) (l : List UInt8) : core3 a b c ++ l = 118 :: (core a b c ++ l):=by simp [core3,core]
end Ve
end Go.Proofs.YtjbmjnbkibmkpaaGreatDoor


namespace Go.Proofs.YtjbmjnbkibmkpaaGreatDoor
open Go.RowKit
namespace Ve
theorem one_yes {c : UInt8} {l : List UInt8} (h : l.contains c = true) : ∃ j,∃ hj : j < l.length,l[j] = c /\ (∀ k (hk : k < l.length),k < j -> l[k] ≠ c) /\ (one c l).1 = l.take j /\ (one c l).2.1 = l.drop (j + 1):=by
 induction l with
 | nil=>simp at h
 | cons a r ih=>
  by_cases e : a = c
  ·subst e
   exact ⟨0,by simp,rfl,fun k hk h0=>absurd h0 (by omega),by simp [one],by simp [one]⟩
  ·have hr : r.contains c = true:=by
    simp at h ⊢
    rcases h with h | h
    ·exact absurd h.symm e
    ·exact h
   obtain ⟨j,hj,h1,h2,h3,h4⟩:=ih hr
   refine ⟨j + 1,by simp; omega,by simpa using h1,?_,?_,?_⟩
   ·intro k hk hkj
    cases k with
    | zero=>simpa using e
    | succ k=>simpa using h2 k (by simp at hk; omega) (by omega)
   ·have : (a != c) = true:=by simp [e]
    simp only [one,List.takeWhile_cons,this,if_true,List.take_succ_cons] at h3 ⊢
    rw [h3]
   ·have : (a != c) = true:=by simp [e]
    simp only [one,List.dropWhile_cons,this,if_true,List.drop_succ_cons] at h4 ⊢
    rw [h4]
end Ve
end Go.Proofs.YtjbmjnbkibmkpaaGreatDoor


namespace Go.Proofs.YtjbmjnbkibmkpaaGreatDoor
namespace Ve
theorem val_dec : ∀ (n : Nat) (p : List UInt8),p.length = n + 1 -> p.all dig = true -> (n = 0 \/ p.headD 0 ≠ 48) -> Lib.decDigits (valTo 0 p).toNat = p
 | 0,p,hl,hd,_=>by
  obtain ⟨c,rfl⟩:=List.length_eq_one_iff.1 hl
  have hc : dig c = true:=by simpa using hd
  have hb:=dig_bd hc
  have : valTo 0 [c] = (c.toNat : Int) - 48:=by simp [valTo]
  rw [this,Lib.decDigits_one (by omega)]
  congr 1
  apply UInt8.toNat_inj.1
  rw [show 48 + ((c.toNat : Int) - 48).toNat = c.toNat by omega]
  simp
 | n + 1,p,hl,hd,hz=>by
  have hne : p ≠ []:=by intro h; subst h; simp at hl
  obtain ⟨q,c,rfl⟩ : ∃ q c,p = q ++ [c]:=⟨p.dropLast,p.getLast hne,(List.dropLast_concat_getLast hne).symm⟩
  rw [all_snoc,Bool.and_eq_true] at hd
  have hql : q.length = n + 1:=by simpa using hl
  have hh : q.headD 0 ≠ 48:=by
   rcases hz with h | h
   ·cases h
   ·cases q with
    | nil=>simp at hql
    | cons x r=>simpa using h
  have ih:=val_dec n q hql hd.1 (Or.inr hh)
  have hb:=dig_bd hd.2
  have hpos : 1 <= valTo 0 q:=by
   cases q with
   | nil=>simp at hql
   | cons x r=>
    have hx:=dig_bd (c:=x) (by have:=hd.1; simp at this; exact this.1)
    have hx0 : x ≠ 48:=by simpa using hh
    have hx1 : x.toNat ≠ 48:=fun e=>hx0 (UInt8.toNat_inj.1 (by rw [e]; rfl))
    have h2:=(valTo_bd r ((x.toNat : Int) - 48) (by have:=hd.1; simp only [List.all_cons,Bool.and_eq_true] at this; exact this.2) (by omega)).1
    have h3 : valTo 0 (x :: r) = valTo ((x.toNat : Int) - 48) r:=by simp [valTo]
    have h4 : (1 : Int) <= 10 ^ r.length:=by
     have : (0 : Int) < 10 ^ r.length:=Int.pow_pos (by omega)
     omega
    rw [h3]
    have h5 : (1 : Int) * 1 <= ((x.toNat : Int) - 48) * 10 ^ r.length:=Int.mul_le_mul (by omega) h4 (by omega) (by omega)
    omega
  rw [valTo_snoc]
  have e1 : (10 * valTo 0 q + ((c.toNat : Int) - 48)).toNat / 10 = (valTo 0 q).toNat:=by omega
  have e2 : (10 * valTo 0 q + ((c.toNat : Int) - 48)).toNat % 10 = c.toNat - 48:=by omega
  rw [dec_big (by omega),e1,e2,ih]
  congr 2
  apply UInt8.toNat_inj.1
  rw [show 48 + (c.toNat - 48) = c.toNat by omega]
  simp
theorem itoa_num (p : List UInt8) (h : (num p).2 = 0) : Lib.itoa (num p).1 = p /\ 0 <= (num p).1 /\ (num p).1 <= 999999:=by
 have hd : digs p = true:=by
  cases e : digs p
  ·unfold num at h; rw [e] at h; simp at h
  ·rfl
 have hz : zero p = false:=by
  cases e : zero p
  ·rfl
  ·unfold num at h; rw [e] at h; simp at h
 have hs:=num_six p hd hz
 by_cases h6 : 6 < p.length
 ·rw [if_pos h6] at hs; rw [hs] at h; cases h
 ·rw [if_neg h6] at hs
  have hda : p.all dig = true:=by unfold digs at hd; simp only [Bool.and_eq_true] at hd; exact hd.2
  have hpos : 0 < p.length:=by unfold digs at hd; simp only [Bool.and_eq_true,decide_eq_true_eq] at hd; exact hd.1
  have hb:=val_le p hda (by omega)
  rw [hs]
  refine ⟨?_,hb.1,by show valTo 0 p <= 999999; omega⟩
  show Lib.itoa (valTo 0 p) = p
  rw [itoa_dec _ hb.1]
  refine val_dec (p.length - 1) p (by omega) hda ?_
  by_cases h1 : p.length - 1 = 0
  ·exact Or.inl h1
  ·refine Or.inr fun e=>?_
   unfold zero at hz
   rw [e] at hz
   simp at hz
   omega
theorem joinTail_ne {c : UInt8} : ∀ X : List (List UInt8),X ≠ [] -> Lib.joinTail [c] X = c :: Lib.join X [c]
 | [],h=>absurd rfl h
 | x :: r,_=>by rw [Lib.join_cons]; simp [Lib.joinTail]
theorem join_cut (c : UInt8) (l : List UInt8) : Lib.join (cutAt c l) [c] = l:=by
 induction l with
 | nil=>simp [cutAt,Lib.join_one]
 | cons b l ih=>
  unfold cutAt
  by_cases h : b = c
  ·rw [if_pos h,Lib.join_cons,joinTail_ne _ (cutAt_ne c l),ih,h]; rfl
  ·rw [if_neg h]
   obtain ⟨x,r,e⟩ : ∃ x r,cutAt c l = x :: r:=by
    cases e : cutAt c l with
    | nil=>exact absurd e (cutAt_ne c l)
    | cons x r=>exact ⟨x,r,rfl⟩
   rw [e] at ih ⊢
   rw [Lib.join_cons] at ih
   simp only [ahead,Lib.join_cons]
   rw [<- ih]
   simp
theorem one_back {c : UInt8} {l : List UInt8} (h : (one c l).2.2 = true) : l = (one c l).1 ++ c :: (one c l).2.1:=by
 obtain ⟨j,hj,e,_,e1,e2⟩:=one_yes (c:=c) (l:=l) h
 rw [e1,e2,<- e,List.getElem_cons_drop,List.take_append_drop]
theorem one_none {c : UInt8} {l : List UInt8} (h : (one c l).2.2 = false) : (one c l).1 = l:=by rw [one_no h]
theorem worst0 {b : Nat} {cs : List Nat} (h : worst b cs = 0) : 1 ∉ cs /\ 2 ∉ cs:=by
 unfold worst at h
 by_cases h1 : b = 1 \/ 1 ∈ cs
 ·rw [if_pos h1] at h; omega
 ·rw [if_neg h1] at h
  by_cases h2 : b = 2 \/ 2 ∈ cs
  ·rw [if_pos h2] at h; omega
  ·exact ⟨fun h=>h1 (Or.inr h),fun h=>h2 (Or.inr h)⟩
theorem ncode0 {ps : List (List UInt8)} (h : numsErr ps = 0) : ∀ p,p ∈ ps -> (num p).2 = 0:=by
 intro p hp
 rw [numsErr_ncode] at h
 obtain ⟨h1,h2⟩:=worst0 h
 have hm : ncode p ∈ ps.map ncode:=List.mem_map_of_mem hp
 rcases num_err p with e | e | e
 ·exact e
 ·exact absurd (show ncode p = 1 from e) (fun e=>h1 (e ▸ hm))
 ·exact absurd (show ncode p = 2 from e) (fun e=>h2 (e ▸ hm))
theorem text_back (l : List UInt8) (h : verErr l = 0) : textOf (nAt l 0) (nAt l 1) (nAt l 2) (preOf l) = l:=by
 unfold verErr at h
 by_cases hc : marked l = false \/ (coreOf l).length ≠ 3
 ·rw [if_pos hc] at h; omega
 rw [if_neg hc] at h
 have hm : marked l = true:=by
  cases e : marked l
  ·exact absurd (Or.inl e) hc
  ·rfl
 have h3 : (coreOf l).length = 3:=by
  rcases Nat.decEq (coreOf l).length 3 with h | h
  ·exact absurd (Or.inr h) hc
  ·exact h
 have hl : l = 118 :: restOf l:=by
  rw [rest_drop hm]
  cases l with
  | nil=>cases hm
  | cons b r=>
   have : b = 118:=by simpa [marked] using hm
   rw [this]; rfl
 obtain ⟨hn,hp⟩ : numsErr (coreOf l) = 0 /\ pre (preOf l) = 0:=by
  cases e : hasPre l
  ·rw [e] at h
   exact ⟨h,by unfold preOf; rw [e]; rfl⟩
  ·rw [e] at h
   have h' : worse (numsErr (coreOf l)) (pre (preOf l)) = 0:=h
   unfold worse at h'
   by_cases q : numsErr (coreOf l) = 1 \/ pre (preOf l) = 0
   ·rw [if_pos q] at h'
    refine ⟨h',?_⟩
    rcases q with q | q
    ·omega
    ·exact q
   ·rw [if_neg q] at h'; exact absurd (Or.inr h') q
 obtain ⟨p0,p1,p2,hco⟩ : ∃ p0 p1 p2,coreOf l = [p0,p1,p2]:=by
  match e : coreOf l,h3 with
  | [a,b,c],_=>exact ⟨a,b,c,rfl⟩
 have hz:=ncode0 hn
 rw [hco] at hz
 have n0 : nAt l 0 = (num p0).1:=by simp [nAt,numsOf,hco]
 have n1 : nAt l 1 = (num p1).1:=by simp [nAt,numsOf,hco]
 have n2 : nAt l 2 = (num p2).1:=by simp [nAt,numsOf,hco]
 obtain ⟨i0,l0,u0⟩:=itoa_num p0 (hz p0 (by simp))
 obtain ⟨i1,l1,u1⟩:=itoa_num p1 (hz p1 (by simp))
 obtain ⟨i2,l2,u2⟩:=itoa_num p2 (hz p2 (by simp))
 have hin : (inBB (num p0).1 && inBB (num p1).1 && inBB (num p2).1) = true:=by simp [inBB,l0,u0,l1,u1,l2,u2]
 have hj : (one 45 (restOf l)).1 = core (num p0).1 (num p1).1 (num p2).1:=by
  have e:=join_cut 46 (one 45 (restOf l)).1
  have hco' : cutAt 46 (one 45 (restOf l)).1 = [p0,p1,p2]:=hco
  rw [hco'] at e
  rw [<- e,Lib.join_cons]
  unfold core
  rw [i0,i1,i2]
  simp [Lib.joinTail]
 rw [n0,n1,n2,textOf_pre,hin,hp]
 show core3 _ _ _ ++ preText (preOf l) = l
 rw [core3_eq]
 conv=>rhs; rw [hl]
 congr 1
 cases e : hasPre l
 ·have e1 : (one 45 (restOf l)).2.2 = false:=e
  have e2:=one_none e1
  have e3 : preOf l = []:=by unfold preOf; rw [e]; rfl
  rw [e3,<- hj,e2]
  simp [preText]
 ·have e1 : (one 45 (restOf l)).2.2 = true:=e
  have e2:=one_back e1
  have e3 : preOf l = cutAt 46 (one 45 (restOf l)).2.1:=by unfold preOf; rw [e]; rfl
  have e4 : preText (preOf l) = 45 :: (one 45 (restOf l)).2.1:=by
   rw [e3]
   have e5:=join_cut 46 (one 45 (restOf l)).2.1
   obtain ⟨x,r,ex⟩ : ∃ x r,cutAt 46 (one 45 (restOf l)).2.1 = x :: r:=by
    cases ex : cutAt 46 (one 45 (restOf l)).2.1 with
    | nil=>exact absurd ex (cutAt_ne _ _)
    | cons x r=>exact ⟨x,r,rfl⟩
   rw [ex] at e5 ⊢
   simp only [preText]
   rw [e5]; rfl
  rw [e4,<- hj]
  exact e2.symm
end Ve
end Go.Proofs.YtjbmjnbkibmkpaaGreatDoor
