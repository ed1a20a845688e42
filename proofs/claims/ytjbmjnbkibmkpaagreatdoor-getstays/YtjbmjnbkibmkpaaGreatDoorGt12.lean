
import Derived.Test.YtjbmjnbkibmkpaaGreatDoorGt4
import Derived.Test.YtjbmjnbkibmkpaaGreatDoorGt11
import Derived.Test.YtjbmjnbkibmkpaaGreatDoorGt6
import Derived.Deep.AppendLies
import Derived.Test.YtjbmjnbkibmkpaaGreatDoorGt10
import Derived.Test.YtjbmjnbkibmkpaaGreatDoorGt7
set_option maxHeartbeats 8000000
namespace Go.Proofs.YtjbmjnbkibmkpaaGreatDoor
open Go.RowKit
namespace Ve
structure Ds (w : World) (A : Nat -> Addr) : Prop where
 b0 : ∃ c t,w.heap[(A 0).block]? = some (.cells c t (0,0))
 b1 : ∃ c t,w.heap[(A 1).block]? = some (.cells c t (0,0))
 b3 : ∃ c t,w.heap[(A 3).block]? = some (.cells c t (0,0))
 n0 : A 0 ≠ A 3
 n1 : A 1 ≠ A 3
theorem blk_stayD {w w' : World} {b : Nat} (hb : Below w.heap.size w w') (h : ∃ c t,w.heap[b]? = some (.cells c t (0,0))) : ∃ c t,w'.heap[b]? = some (.cells c t (0,0)):=by
 obtain ⟨c,t,e⟩:=h
 exact ⟨c,t,(hb.block _ (lt_of_blk e)).trans e⟩
theorem Ds.below {w w' : World} {A : Nat -> Addr} (h : Ds w A) (hb : Below w.heap.size w w') : Ds w' A:=⟨blk_stayD hb h.b0,blk_stayD hb h.b1,blk_stayD hb h.b3,h.n0,h.n1⟩
def likeE (l : List UInt8) : Nat:=if pathErr l = 4 then 0 else pathErr l
theorem mpath_l (s : ByteArray) (A : Nat -> Addr) (m : Int) (w : World) (hs : s.size < 4294967281) (S : Te w A m) :
  Calls Tryz.prog 36 #[.string s] w fun e w'=>e = .returned (errA A (pathErr s.data.toList)) /\ Below w.heap.size w w':=by
 have HP:=hid (readPath_any s A m w hs S)
 clear S
 go_enter Tryz.func36,Tryz.ntmps36
 go_wp2_with fail
 refine HP.out.mono ?_
 rintro e w1 ⟨⟨H,n,v,rfl,hv,_,_⟩,hb⟩
 have HV:=hid hv
 have HB:=hid hb
 clear hb hv
 go_wp2_with fail
 go_ret
 exact ⟨by rw [<- HV.out]; rfl,HB.out⟩
theorem lkp_any (s : ByteArray) (A : Nat -> Addr) (m : Int) (w : World) (hs : s.size < 4294967281) (S : Te w A m) (D : Ds w A) :
  Calls Tryz.prog 62 #[.string s] w fun e w'=>e = .returned (errA A (likeE s.data.toList)) /\ Below w.heap.size w w':=by
 have HP:=hid (mpath_l s A m w hs S)
 have HG:=hid (fun W (h : Below w.heap.size w W)=>cell_below h S.sen.g3)
 obtain ⟨i9,hi9,hcmp9⟩:=Option.map_eq_some_iff.1 compS
 obtain ⟨j9,hj9,hjs9⟩:=Option.map_eq_some_iff.1 sizeS
 have HQ0:=hid (fun W=>run_eql_iface_nil_left (P:=Tryz.prog) W 311 (.pointer (some (A 3))) Tryz.underlying33)
 have HQ1:=hid (fun W=>run_eql_iface_ptr_same (P:=Tryz.prog) W (A 3) Tryz.underlying33 Tryz.underlying311 hi9 hcmp9 hj9)
 have HQ2:=hid (fun W (h : Below w.heap.size w W)=>by
  obtain ⟨c1,t1,e1⟩:=(D.below h).b0
  obtain ⟨c2,t2,e2⟩:=(D.below h).b3
  exact run_eql_iface_ptr_other (P:=Tryz.prog) W Tryz.underlying33 Tryz.underlying311 hi9 hcmp9 hj9 (by rw [hjs9]; decide) D.n0 e1 e2)
 have HQ3:=hid (fun W (h : Below w.heap.size w W)=>by
  obtain ⟨c1,t1,e1⟩:=(D.below h).b1
  obtain ⟨c2,t2,e2⟩:=(D.below h).b3
  exact run_eql_iface_ptr_other (P:=Tryz.prog) W Tryz.underlying33 Tryz.underlying311 hi9 hcmp9 hj9 (by rw [hjs9]; decide) D.n1 e1 e2)
 have HE:=hid (show likeE s.data.toList = if pathErr s.data.toList = 4 then 0 else pathErr s.data.toList from rfl)
 have HPE:=hid (pathErr_err s.data.toList)
 generalize likeE s.data.toList = pe at *
 clear S D hi9 hcmp9 hj9 hjs9
 go_enter Tryz.func62,Tryz.ntmps62
 rcases HPE.out with h | h | h | h
 ·rw [h] at HP HE
  have HE2:=hid (show pe = 0 from HE.out)
  rw [errA0] at HP
  clear h HE HPE
  go_wp2_with fail
  refine HP.out.mono ?_
  rintro e w2 ⟨rfl,hb⟩
  have HB2:=hid hb
  have g3:=HG.out _ HB2.out
  have q0:=HQ0.out w2
  clear hb
  go_wp2_with fail
  go_ret
  exact ⟨by rw [HE2.out]; rfl,HB2.out⟩
 ·rw [h] at HP HE
  have HE2:=hid (show pe = 1 from HE.out)
  rw [errA1] at HP
  clear h HE HPE
  go_wp2_with fail
  refine HP.out.mono ?_
  rintro e w2 ⟨rfl,hb⟩
  have HB2:=hid hb
  have g3:=HG.out _ HB2.out
  have q0:=HQ2.out w2 HB2.out
  clear hb
  go_wp2_with fail
  go_ret
  exact ⟨by rw [HE2.out]; rfl,HB2.out⟩
 ·rw [h] at HP HE
  have HE2:=hid (show pe = 2 from HE.out)
  rw [errA2] at HP
  clear h HE HPE
  go_wp2_with fail
  refine HP.out.mono ?_
  rintro e w2 ⟨rfl,hb⟩
  have HB2:=hid hb
  have g3:=HG.out _ HB2.out
  have q0:=HQ3.out w2 HB2.out
  clear hb
  go_wp2_with fail
  go_ret
  exact ⟨by rw [HE2.out]; rfl,HB2.out⟩
 ·rw [h] at HP HE
  have HE2:=hid (show pe = 0 from HE.out)
  rw [errA4] at HP
  clear h HE HPE
  go_wp2_with fail
  refine HP.out.mono ?_
  rintro e w2 ⟨rfl,hb⟩
  have HB2:=hid hb
  have g3:=HG.out _ HB2.out
  have q0:=HQ1.out w2
  clear hb
  go_wp2_with fail
  go_ret
  exact ⟨by rw [HE2.out]; rfl,HB2.out⟩
end Ve
end Go.Proofs.YtjbmjnbkibmkpaaGreatDoor


namespace Go.Proofs.YtjbmjnbkibmkpaaGreatDoor
open Go.RowKit
namespace Ve
def ptE (p : ByteArray) : Nat:=likeE (xsOf p.data.toList)
theorem fltD_yes {p : ByteArray} {X : List ByteArray} {k : Nat} (hk : k < X.length) (h : ismB p X[k] = true) : (X.take (k + 1)).filter (ismB p) = (X.take k).filter (ismB p) ++ [X[k]]:=by
 rw [List.take_succ_eq_append_getElem hk,List.filter_append]; simp [h]
theorem fltD_no {p : ByteArray} {X : List ByteArray} {k : Nat} (hk : k < X.length) (h : ismB p X[k] = false) : (X.take (k + 1)).filter (ismB p) = (X.take k).filter (ismB p):=by
 rw [List.take_succ_eq_append_getElem hk,List.filter_append]; simp [h]
theorem xsD_ra (p : ByteArray) (m : Int) (w : World) (hp : p.size <= 100) (hm : w.cell? ⟨8,0,none⟩ = some (.int .i64 m)) :
  Calls Tryz.prog 63 #[.string p,.string ⟨#[46,46,46]⟩,.string ⟨#[120]⟩] w fun e w'=>∃ S : ByteArray,e = .returned (.string S) /\ S.data.toList = xsOf p.data.toList /\ S.size <= 100 /\ Below w.heap.size w w':=by
 have hc:=Lib.countB_le ⟨#[46,46,46]⟩ (by decide) _ p (Nat.le_refl _)
 refine (Tryz.strings_ReplaceAll p ⟨#[46,46,46]⟩ ⟨#[120]⟩ m w (by omega) hm (by decide) (by
  show p.size + Lib.countB p ⟨#[46,46,46]⟩ * 1 <= _
  omega)).mono fun e w' ⟨h1,h2⟩=>⟨_,h1,(xs_is _).symm,?_,h2⟩
 have h3:=xs_len p.data.toList
 rw [len_eq,xs_is] at h3
 show (Lib.replaceAll p.data.toList dots [120]).toArray.size <= 100
 rw [List.size_toArray]; omega
theorem pchkD_any (p : ByteArray) (A : Nat -> Addr) (m : Int) (w : World) (hp : p.size <= 100) (S : Te w A m) (D : Ds w A) :
  Calls Tryz.prog 32 #[.string p] w fun e w'=>e = .returned (errA A (ptE p)) /\ Below w.heap.size w w':=by
 have HR:=hid (xsD_ra p m w hp S.ml)
 have HP:=hid (fun Z W (hs : Z.size <= 100) (h : Below w.heap.size w W)=>lkp_any Z A m W (by omega) (S.below h) (D.below h))
 have HE:=hid (show ptE p = likeE (xsOf p.data.toList) from rfl)
 generalize ptE p = pe at *
 clear S D
 go_enter Tryz.func32,Tryz.ntmps32
 go_wp2_with fail
 refine HR.out.mono ?_
 rintro e w1 ⟨Z,rfl,hS,hz,hb⟩
 have HB1:=hid hb
 have HPP:=hid (HP.out Z w1 hz hb)
 rw [hS,<- HE.out] at HPP
 clear hS hz hb HP HR
 obtain ⟨ev,hev⟩ : ∃ ev,errA A pe = ev:=⟨_,rfl⟩
 have HEV:=hid hev
 rw [hev] at HPP
 clear hev
 go_wp2_with fail
 refine HPP.out.mono ?_
 rintro e w2 ⟨rfl,hb⟩
 have HB2:=hid (HB1.out.trans (hb.mono HB1.out.size))
 clear hb
 go_wp2_with fail
 go_ret
 exact ⟨by rw [HEV.out]; rfl,HB2.out⟩
theorem ownsD_from {w : World} {B C : Nat} {e : TypeId} {size : Nat} {v : Value} {n : Nat} {xs : List Value} (h : w.ownsRow B e size v n xs) (hb : C <= B) : w.ownsRow C e size v n xs:=by
 obtain ⟨hl,h | ⟨g,cap,cur,e1,e2,r⟩⟩:=h
 ·exact ⟨hl,Or.inl h⟩
 ·exact ⟨hl,Or.inr ⟨g,cap,cur,e1,Nat.le_trans hb e2,r⟩⟩
set_option maxRecDepth 100000 in
theorem someD_any (p : ByteArray) (X : List ByteArray) (v : Value) (m : Int) (w : World) (hp : p.size <= 100) (hl : X.length <= 1000) (hs : ∀ x,x ∈ X -> x.size <= 100) (hm : w.cell? ⟨8,0,none⟩ = some (.int .i64 m)) (hx : TxAt w v X) :
  Calls Tryz.prog 138 #[.string p,v] w fun e w'=>∃ u,e = .returned u /\ w'.ownsRow w.heap.size 9 1 u (X.filter (ismB p)).length ((X.filter (ismB p)).map Value.string) /\ Below w.heap.size w w':=by
 obtain ⟨i0,hi,hz0,hz1,hz2⟩:=info_parts infoStr
 have HM:=hid (matcher_any p m w hp hm)
 have HX:=hid (fun W (h : Below w.heap.size w W)=>hx.below h)
 have HS:=hid hs
 obtain ⟨va,vc,hv,-⟩:=id hx
 subst hv
 clear hm hx hs
 go_enter Tryz.func138,Tryz.ntmps138
 go_wp2_with fail
 refine HM.out.mono ?_
 rintro e w1 ⟨f,rfl,⟨K,cb,rfl,en,hK⟩,hb⟩
 have HB1:=hid hb
 have HK:=hid hK
 clear hb hK HM
 go_wp2_with fail
 go_loopw [6,13] (fun ov iv wr=>∃ k : Nat,k <= X.length /\ iv = .int .i64 k /\ Hid (wr.ownsRow w1.heap.size 9 1 ov ((X.take k).filter (ismB p)).length (((X.take k).filter (ismB p)).map Value.string)) /\ Hid (Below w1.heap.size w1 wr)) (fun _ iv _=>X.length - (intOf iv).toNat)
 case atStart=>exact ⟨0,Nat.zero_le _,rfl,hid (World.ownsRow_nil _ _ _ _),hid (Below.refl _ _)⟩
 case round=>
  obtain ⟨k,hk,rfl,HO,HN⟩:=hrel
  have HB:=hid (HB1.out.trans (HN.out.mono HB1.out.size))
  by_cases hlt : k < X.length
  ·have hkI:=ix_lt hlt
   have hk0:=ix_pos k
   have HLT:=hid hlt
   obtain ⟨la,lc,hla,-,hcells⟩:=HX.out _ HB.out
   obtain ⟨lb,lo,rfl,hcc⟩:=hcells (by intro h; rw [h] at hlt; simp at hlt)
   injection hla with hla1 hla2 hla3
   subst hla1
   have y0:=hcc k hlt
   have HLN:=hid (show ((X.take k).filter (ismB p)).length <= 1000 from Nat.le_trans (List.length_filter_le _ _) (by rw [List.length_take]; omega))
   have HFY:=hid (fun h=>fltD_yes (p:=p) hlt h)
   have HFN:=hid (fun h=>fltD_no (p:=p) hlt h)
   have HKX:=hid (HK.out wr X[k] HN.out (HS.out _ (List.getElem_mem hlt)))
   clear hcells hcc hla2 hla3 HX
   generalize X[k] = x at *
   generalize (X.take k).filter (ismB p) = Y at *
   clear hlt
   cases hz : ismB p x
   ·rw [hz] at HKX
    have HF:=hid (HFN.out hz)
    clear hz HFY HFN
    go_wp2_with fail
    refine HKX.out.mono ?_
    rintro e w2 ⟨rfl,hb⟩
    have HO2:=hid (owns_below HO.out hb)
    have HN2:=hid (HN.out.trans (hb.mono HN.out.size))
    clear hb
    go_wp2_with fail
    go_roundw
    case rel=>exact ⟨k + 1,HLT.out,by first | exact nr_idx k | exact nx_idx HLT.out (by omega : X.length <= 1000000),by rw [HF.out]; exact HO2,HN2⟩
    case measure=>first | exact nr_meas HLT.out | exact nx_meas HLT.out (by omega : X.length <= 1000000)
   ·rw [hz] at HKX
    have HF:=hid (HFY.out hz)
    clear hz HFY HFN
    go_wp2_with fail
    refine HKX.out.mono ?_
    rintro e w2 ⟨rfl,hb⟩
    have HO2:=hid (owns_below HO.out hb)
    have HN2:=hid (HN.out.trans (hb.mono HN.out.size))
    clear hb
    go_wp2_with (at_builtin; refine wpList_append_own _ rfl _ _ 26 rfl w1.heap.size 9 i0 _ 1 16 Tryz.underlying26 hi hz0 hz1 hz2 rfl (by decide) _ _ _ rfl (HO2.out.alloc _) ⟨w2.heap.size,0,none⟩ 1 1 [.string x] rfl rfl ?c1 ?c2 ?c3 ?c4 ?c5 ?_)
    case c1=>exact World.news_of_block (cs:=#[.string x]) (heap_new _ _)
    case c2=>intro u hu; simp at hu; rw [hu]; rfl
    case c3=>have:=HLN.out; unfold maxLen; omega
    case c4=>have:=HLN.out; omega
    case c5=>have:=HN2.out.size; simp; omega
    intro v' w3 hown hgrow _
    have HR3:=hid (rel_app HN2.out.size HN2.out HO2.out (Below.refl _ _) hgrow)
    have HO3:=hid hown
    clear hown hgrow
    go_wp2_with fail
    go_roundw
    case rel=>exact ⟨k + 1,HLT.out,by first | exact nr_idx k | exact nx_idx HLT.out (by omega : X.length <= 1000000),by rw [HF.out,List.length_append,List.map_append]; exact HO3,HR3⟩
    case measure=>first | exact nr_meas HLT.out | exact nx_meas HLT.out (by omega : X.length <= 1000000)
  ·have HTR:=hid (show X.take k = X from List.take_of_length_le (by omega))
   rw [HTR.out] at HO
   have hkI:=ix_nlt hlt
   clear hlt
   go_wp2_with fail
   go_ret
   exact ⟨_,rfl,ownsD_from HO.out HB1.out.size,HB.out⟩
end Ve
end Go.Proofs.YtjbmjnbkibmkpaaGreatDoor


namespace Go.Proofs.YtjbmjnbkibmkpaaGreatDoor
open Go.RowKit
namespace Ve
theorem pth_next {S : List Bm} {k : Nat} (hk : k < S.length) : (S.take (k + 1)).map (fun x=>x.1) = (S.take k).map (fun x=>x.1) ++ [S[k].1]:=by
 rw [List.take_succ_eq_append_getElem hk,List.map_append]; rfl
set_option maxRecDepth 100000 in
theorem paths_w (S : List Bm) (p q : ByteArray) (v : Value) (m : Int) (w : World) (hp : p.size <= 100) (hS : S.length <= 1000) (hs : ∀ x,x ∈ S -> x.1.size <= 100) (hm : w.cell? ⟨8,0,none⟩ = some (.int .i64 m)) (hv : MsAt w v S) :
  Calls Tryz.prog 99 #[.agg #[.string p,.string q],v] w fun e w'=>∃ u,e = .returned u /\ w'.ownsRow w.heap.size 9 1 u (wPt S p).length ((wPt S p).map Value.string) /\ Below w.heap.size w w':=by
 obtain ⟨i0,hi,hz0,hz1,hz2⟩:=info_parts infoStr
 have HB0:=hid ((Below.refl w.heap.size w).alloc (Nat.le_refl _) (.cells #[.string p,.string q] 78))
 have HW:=hid (wild_m m p (w.alloc (.cells #[.string p,.string q] 78)) hp (cell_below HB0.out hm))
 have HBX:=hid (heap_new w (.cells #[.string p,.string q] 78))
 cases hwl : wildB p
 ·rw [hwl] at HW
  have HP:=hid (show wPt S p = [p] by unfold wPt; rw [hwl]; rfl)
  obtain ⟨va,vn,vc,hvs⟩:=hv.slice
  subst hvs
  clear hwl hv hs hm
  go_enter Tryz.func99,Tryz.ntmps99
  go_wp2_with fail
  refine HW.out.mono ?_
  rintro e w1 ⟨rfl,hb⟩
  have HB1:=hid (HB0.out.trans (hb.mono HB0.out.size))
  have HX1:=hid ((hb.block _ (by simp)).trans HBX.out)
  have y0 : w1.cell? ⟨w.heap.size,0,none⟩ = some (.string p):=by rw [Lib.cell_of_heap HX1.out]; rfl
  clear hb
  go_wp2_with fail
  go_ret
  refine ⟨_,rfl,?_,HB1.out.alloc HB1.out.size _⟩
  rw [HP.out]
  exact ⟨by simp,Or.inr ⟨w1.heap.size,1,#[.string p],rfl,HB1.out.size,heap_new w1 _,by simp,by unfold maxLen; omega,by simp,by simp⟩⟩
 ·rw [hwl] at HW
  have HP:=hid (show wPt S p = (S.map (fun x=>x.1)).filter (ismB p) by unfold wPt; rw [hwl]; rfl)
  have HMS:=hid (fun W (h : Below w.heap.size w W)=>hv.below h)
  have HML:=hid (fun W (h : Below w.heap.size w W)=>cell_below h hm)
  have HSO:=hid (fun u W (h : W.cell? ⟨8,0,none⟩ = some (.int .i64 m)) (hx : TxAt W u (S.map (fun x=>x.1)))=>someD_any p (S.map (fun x=>x.1)) u m W hp (by rw [List.length_map]; exact hS) (fun x hx=>by obtain ⟨y,hy,rfl⟩:=List.mem_map.1 hx; exact hs y hy) h hx)
  have HNX:=hid (fun k (hk : k < S.length)=>pth_next hk)
  obtain ⟨Y0,hY0⟩ : ∃ Y,S.map (fun x=>x.1) = Y:=⟨_,rfl⟩
  rw [hY0] at HSO HP
  have HYE:=hid hY0
  clear hY0
  obtain ⟨va,vc,hvs,-⟩:=id hv
  subst hvs
  clear hwl hv hs hm
  go_enter Tryz.func99,Tryz.ntmps99
  go_wp2_with fail
  refine HW.out.mono ?_
  rintro e w1 ⟨rfl,hb⟩
  have HB1:=hid (HB0.out.trans (hb.mono HB0.out.size))
  have HX1:=hid ((hb.block _ (by simp)).trans HBX.out)
  clear hb
  go_wp2_with fail
  go_loopw [5,17] (fun ov iv wr=>∃ k : Nat,k <= S.length /\ iv = .int .i64 k /\ Hid (wr.ownsRow w1.heap.size 9 1 ov ((S.take k).map (fun x=>x.1)).length (((S.take k).map (fun x=>x.1)).map Value.string)) /\ Hid (Below w1.heap.size w1 wr)) (fun _ iv _=>S.length - (intOf iv).toNat)
  case atStart=>exact ⟨0,Nat.zero_le _,rfl,hid (World.ownsRow_nil _ _ _ _),hid (Below.refl _ _)⟩
  case round=>
   obtain ⟨k,hk,rfl,HO,HN⟩:=hrel
   have HB:=hid (HB1.out.trans (HN.out.mono HB1.out.size))
   by_cases hlt : k < S.length
   ·have hkI:=ix_lt hlt
    have hk0:=ix_pos k
    have HLT:=hid hlt
    obtain ⟨la,lc,hla,-,hcells⟩:=HMS.out _ HB.out
    obtain ⟨lb,lo,hlb,hcc⟩:=hcells (by intro h; rw [h] at hlt; simp at hlt)
    injection hla with hla1 hla2 hla3
    rw [hlb] at hla1
    subst hla1
    have y0:=(hcc k hlt).1
    have y1:=(hcc k hlt).2
    have HLN:=hid (show ((S.take k).map (fun x=>x.1)).length <= 1000 by rw [List.length_map,List.length_take]; omega)
    have HF:=hid (HNX.out k hlt)
    clear hcells hcc hla2 hla3 hlb HMS
    generalize S[k] = x at *
    obtain ⟨x1,x2⟩:=x
    simp only at y0 y1 HF
    generalize (S.take k).map (fun x=>x.1) = Y at *
    have HO2:=hid (HO.out.alloc (.cells #[.string x1,.string x2] 47))
    have HN2:=hid (HN.out.alloc HN.out.size (.cells #[.string x1,.string x2] 47))
    clear hlt HNX
    go_wp2_with (at_builtin; refine wpList_append_own _ rfl _ _ 26 rfl w1.heap.size 9 i0 _ 1 16 Tryz.underlying26 hi hz0 hz1 hz2 rfl (by decide) _ _ _ rfl (HO2.out.alloc _) ⟨wr.heap.size + 1,0,none⟩ 1 1 [.string x1] rfl rfl ?c1 ?c2 ?c3 ?c4 ?c5 ?_)
    case c1=>exact World.news_of_block (cs:=#[.string x1]) (by have:=heap_new (wr.alloc (.cells #[.string x1,.string x2] 47)) (.cells #[.string x1] 9); simpa using this)
    case c2=>intro u hu; simp at hu; rw [hu]; rfl
    case c3=>have:=HLN.out; unfold maxLen; omega
    case c4=>have:=HLN.out; omega
    case c5=>have:=HN2.out.size; simp at this ⊢; omega
    intro v' w3 hown hgrow _
    have HR3:=hid (rel_app HN2.out.size HN2.out HO2.out (Below.refl _ _) hgrow)
    have HO3:=hid hown
    clear hown hgrow
    go_wp2_with fail
    go_roundw
    case rel=>exact ⟨k + 1,HLT.out,by first | exact nr_idx k | exact nx_idx HLT.out (by omega : S.length <= 1000000),by rw [HF.out,List.length_append,List.map_append]; exact HO3,HR3⟩
    case measure=>first | exact nr_meas HLT.out | exact nx_meas HLT.out (by omega : S.length <= 1000000)
   ·have HTR:=hid (show S.take k = S from List.take_of_length_le (by omega))
    rw [HTR.out,HYE.out] at HO
    have HTX:=hid (own_tx HO.out)
    obtain ⟨oa,oc,hov⟩:=own_slN HO.out
    subst hov
    have hkI:=ix_nlt hlt
    have HXr:=hid ((HN.out.block _ (lt_of_blk HX1.out)).trans HX1.out)
    have z0 : wr.cell? ⟨w.heap.size,0,none⟩ = some (.string p):=by rw [Lib.cell_of_heap HXr.out]; rfl
    have HSS:=hid (HSO.out _ wr (HML.out _ HB.out) HTX.out)
    clear hlt HO
    go_wp2_with fail
    refine HSS.out.mono ?_
    rintro e w4 ⟨u,rfl,hu,hb⟩
    have HU:=hid (own_baseN hu HB.out.size)
    have HB4:=hid (HB.out.trans (hb.mono HB.out.size))
    obtain ⟨ua,uc,hus⟩:=own_slN hu
    subst hus
    clear hu hb
    go_wp2_with fail
    go_ret
    exact ⟨_,rfl,by rw [HP.out]; exact HU.out,HB4.out⟩
end Ve
end Go.Proofs.YtjbmjnbkibmkpaaGreatDoor


namespace Go.Proofs.YtjbmjnbkibmkpaaGreatDoor
open Go.RowKit
namespace Ve
def bareR (r : Raw) : Raw:=(r.1,.slice none 0 0,.slice none 0 0,r.2.2.2)
def bareE (e : Ent) : Ent:=(e.1,[],[],e.2.2.2)
def isT (t : ByteArray) (r : Raw) : Bool:=decide (r.1.1 = t)
def opQ (Q : List Raw) (t : ByteArray) : List Raw:=(Q.filter (isT t)).map bareR
def opL (L : List Ent) (t : ByteArray) : List Ent:=(L.filter fun e=>decide (e.1.1 = t)).map bareE
theorem opQ_yes {Q : List Raw} {t : ByteArray} {k : Nat} (hk : k < Q.length) (h : isT t Q[k] = true) : opQ (Q.take (k + 1)) t = opQ (Q.take k) t ++ [bareR Q[k]]:=by
 unfold opQ; rw [filter_yes hk h,List.map_append]; rfl
theorem opQ_no {Q : List Raw} {t : ByteArray} {k : Nat} (hk : k < Q.length) (h : isT t Q[k] = false) : opQ (Q.take (k + 1)) t = opQ (Q.take k) t:=by
 unfold opQ; rw [filter_no hk h]
theorem opQ_sl {Q : List Raw} {t : ByteArray} : ∀ r,r ∈ opQ Q t -> slR r:=fun r hr=>by
 obtain ⟨x,_,rfl⟩:=List.mem_map.1 hr
 exact ⟨⟨_,_,_,rfl⟩,_,_,_,rfl⟩
theorem opQ_len (Q : List Raw) (t : ByteArray) : (opQ Q t).length <= Q.length:=by unfold opQ; rw [List.length_map]; exact List.length_filter_le _ _
theorem op_pair {w : World} {t : ByteArray} : ∀ {Q : List Raw} {L : List Ent},Q.length = L.length -> (∀ j (h : j < Q.length) (h' : j < L.length),RawOk w Q[j] L[j]) -> (opQ Q t).length = (opL L t).length /\ ∀ W j (h : j < (opQ Q t).length) (h' : j < (opL L t).length),RawOk W (opQ Q t)[j] (opL L t)[j]
 | [],[],_,_=>⟨rfl,fun W j h=>absurd h (by simp [opQ])⟩
 | [],_ :: _,h,_=>by simp at h
 | _ :: _,[],h,_=>by simp at h
 | r :: Q,e :: L,hl,ho=>by
  have h0:=ho 0 (by simp) (by simp)
  simp only [List.getElem_cons_zero] at h0
  obtain ⟨i1,i2⟩:=op_pair (t:=t) (Q:=Q) (L:=L) (by simpa using hl) (fun j h h'=>by have:=ho (j + 1) (by simpa using h) (by simpa using h'); simpa using this)
  by_cases hp : r.1.1 = t
  ·have e1 : opQ (r :: Q) t = bareR r :: opQ Q t:=by unfold opQ isT; rw [List.filter_cons_of_pos (by simpa using hp)]; rfl
   have e2 : opL (e :: L) t = bareE e :: opL L t:=by unfold opL; rw [List.filter_cons_of_pos (by simpa [<- h0.m] using hp)]; rfl
   refine ⟨by rw [e1,e2]; simp [i1],fun W j h h'=>?_⟩
   simp only [e1,e2] at h h' ⊢
   cases j with
   | zero=>
    simp only [List.getElem_cons_zero]
    exact ⟨h0.m,⟨none,0,rfl,Nat.le_refl _,fun h=>absurd rfl h⟩,⟨none,0,rfl,Nat.le_refl _,fun h=>absurd rfl h⟩,h0.bk⟩
   | succ j=>
    simp only [List.getElem_cons_succ]
    exact i2 W j (by simpa using h) (by simpa using h')
  ·have e1 : opQ (r :: Q) t = opQ Q t:=by unfold opQ isT; rw [List.filter_cons_of_neg (by simpa using hp)]
   have e2 : opL (e :: L) t = opL L t:=by unfold opL; rw [List.filter_cons_of_neg (by simpa [<- h0.m] using hp)]
   refine ⟨by rw [e1,e2]; exact i1,fun W j h h'=>?_⟩
   simp only [e1,e2] at h h' ⊢
   exact i2 W j h h'
set_option maxRecDepth 100000 in
theorem ofp_any (Q : List Raw) (L : List Ent) (t : ByteArray) (v : Value) (w : World) (hQ : Q.length <= 1000) (I : Ixs w v Q L) :
  Calls Tryz.prog 100 #[v,.string t] w fun e w'=>∃ u,e = .returned u /\ Ixs w' u (opQ Q t) (opL L t) /\ Below w.heap.size w w':=by
 obtain ⟨i0,hi0,hz0,hz1,hz2⟩:=info_parts infoEnt
 have HPR:=hid (op_pair (t:=t) I.ln I.ok)
 have HES:=hid (fun W (h : Below w.heap.size w W)=>I.es.below h)
 have HSL:=hid (show ∀ r,r ∈ Q -> slR r from let ⟨_,_,_,_,h,_⟩:=I.es; h)
 obtain ⟨a,c,hv1,-⟩:=id I.es
 subst hv1
 clear I
 go_enter Tryz.func100,Tryz.ntmps100
 go_wp2_with fail
 go_loopw [5,10] (fun ov i wr=>∃ k : Nat,k <= Q.length /\ i = .int .i64 k /\ Hid (wr.ownsRow w.heap.size 54 5 ov (opQ (Q.take k) t).length (flatR (opQ (Q.take k) t))) /\ Hid (Below w.heap.size w wr)) (fun _ i _=>Q.length - (intOf i).toNat)
 case atStart=>exact ⟨0,Nat.zero_le _,rfl,hid (World.ownsRow_nil _ _ _ _),hid (Below.refl _ _)⟩
 case round=>
  obtain ⟨k,hk,rfl,HO,HB⟩:=hrel
  by_cases hlt : k < Q.length
  ·obtain ⟨la,lc,hla,-,-,hcells⟩:=HES.out _ HB.out
   obtain ⟨lb,lo,hlb,hcc⟩:=hcells (by intro h; rw [h] at hlt; simp at hlt)
   injection hla with hla1 hla2 hla3
   rw [hlb] at hla1
   subst hla1
   obtain ⟨x0,x1,x2,x3,x4⟩:=hcc k hlt
   have hsl:=HSL.out Q[k] (List.getElem_mem hlt)
   have hkI:=ix_lt hlt
   have hk0:=ix_pos k
   have HLT:=hid hlt
   have HY:=hid (fun h=>opQ_yes (t:=t) hlt h)
   have HN:=hid (fun h=>opQ_no (t:=t) hlt h)
   have HLN:=hid (show (opQ (Q.take k) t).length <= 1000 from Nat.le_trans (opQ_len _ _) (by rw [List.length_take]; omega))
   clear hcells hcc hla2 hla3 hlb HES HSL
   generalize Q[k] = x at *
   obtain ⟨⟨p,q⟩,rv,pv,bk⟩:=x
   obtain ⟨⟨ra,rn,rc,hrv⟩,pa,pn,pc,hpv⟩:=hsl
   simp only at hrv hpv x0 x1 x2 x3 x4
   subst hrv
   subst hpv
   have HBa:=hid (HB.out.alloc HB.out.size (.cells #[.string p,.string q,.slice ra rn rc,.slice pa pn pc,.bool bk] 54))
   have HOa:=hid (HO.out.alloc (.cells #[.string p,.string q,.slice ra rn rc,.slice pa pn pc,.bool bk] 54))
   clear hlt
   by_cases hp : p = t
   ·have hq : (p.toList == t.toList) = true:=by rw [hp]; exact str_refl t
    have HY2:=hid (HY.out (decide_eq_true hp))
    clear hp HY HN
    go_wp2_with (at_builtin; refine wpList_append_own _ rfl _ _ 22 rfl w.heap.size 54 i0 _ 5 88 Tryz.underlying22 hi0 hz0 hz1 hz2 rfl (by decide) _ _ _ rfl (HOa.out.alloc _) ⟨wr.heap.size + 1,0,none⟩ 1 1 [.string p,.string q,.slice none 0 0,.slice none 0 0,.bool bk] rfl rfl ?c1 ?c2 ?c3 ?c4 ?c5 ?_)
    case c1=>exact World.news_of_block (cs:=#[.string p,.string q,.slice none 0 0,.slice none 0 0,.bool bk]) (t:=54) (fr:=(0,0)) (by have:=heap_new (wr.alloc (.cells #[.string p,.string q,.slice ra rn rc,.slice pa pn pc,.bool bk] 54)) (.cells #[.string p,.string q,.slice none 0 0,.slice none 0 0,.bool bk] 54); simpa using this)
    case c2=>
     intro u hu
     simp at hu
     rcases hu with rfl | rfl | rfl | rfl | rfl <;> rfl
    case c3=>have:=HLN.out; unfold maxLen; omega
    case c4=>have:=HLN.out; omega
    case c5=>have:=HBa.out.size; simp at this ⊢; omega
    intro v' w3 hown hgrow _
    have HR3:=hid (rel_app5 HBa.out.size HBa.out HOa.out (Below.refl _ _) hgrow)
    have HO3:=hid hown
    clear hown hgrow
    go_wp2_with fail
    go_roundw
    case rel=>exact ⟨k + 1,HLT.out,by first | exact nr_idx k | exact nx_idx HLT.out (by omega : Q.length <= 1000000),hid (own_nextR (x:=bareR ((p,q),.slice ra rn rc,.slice pa pn pc,bk)) HO3.out HY2.out),HR3⟩
    case measure=>first | exact nr_meas HLT.out | exact nx_meas HLT.out (by omega : Q.length <= 1000000)
   ·have hq:=str_ne hp
    have HN2:=hid (HN.out (decide_eq_false hp))
    clear hp HY HN
    go_wp2_with fail
    go_roundw
    case rel=>exact ⟨k + 1,HLT.out,by first | exact nr_idx k | exact nx_idx HLT.out (by omega : Q.length <= 1000000),by rw [HN2.out]; exact HOa,HBa⟩
    case measure=>first | exact nr_meas HLT.out | exact nx_meas HLT.out (by omega : Q.length <= 1000000)
  ·have HTR:=hid (show Q.take k = Q from List.take_of_length_le (by omega))
   rw [HTR.out] at HO
   have hkI:=ix_nlt hlt
   have HEE:=hid (own_es opQ_sl HO.out)
   obtain ⟨oa,oc,hov⟩:=own_slN HO.out
   subst hov
   clear hlt HO
   go_wp2_with fail
   go_ret
   exact ⟨_,rfl,⟨HEE.out,HPR.out.1,fun j h1 h2=>HPR.out.2 wr j h1 h2⟩,HB.out⟩
end Ve
end Go.Proofs.YtjbmjnbkibmkpaaGreatDoor
