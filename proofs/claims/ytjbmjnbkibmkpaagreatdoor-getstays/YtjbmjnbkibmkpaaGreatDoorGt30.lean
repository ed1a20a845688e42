
import Derived.Test.YtjbmjnbkibmkpaaGreatDoorGt28
import Derived.Test.YtjbmjnbkibmkpaaGreatDoorGt15
import Derived.Test.YtjbmjnbkibmkpaaGreatDoorGt29
import Derived.Test.YtjbmjnbkibmkpaaGreatDoorGt21
set_option maxHeartbeats 8000000
namespace Go.Proofs.YtjbmjnbkibmkpaaGreatDoor
open Go.RowKit Go.Maps
namespace Ve
theorem GetP.flat {Q : List Raw} {L : List Ent} {p : ByteArray} {X : List Bm} {w w' : World} {e : Ending} {o : Option (List Bm)} (h : GetP Q L p X w e w' o) :
  ∃ ps a1 n1 c1 a2 n2 c2 na nn nc ev,e = .returned (.tuple #[.agg #[.string ps,.slice a1 n1 c1,.slice a2 n2 c2],.slice na nn nc,ev]) /\ Below w.heap.size w w' /\
   ((o = none /\ ps = ⟨#[]⟩ /\ n1 = 0 /\ nn = 0 /\ ∃ Ty ea,ev = .iface Ty (.pointer (some ea))) \/ (∃ N,o = some N /\ ps = p /\ ev = .nilIface /\ n1 = (trR Q L N).length /\ n2 = X.length /\ nn = N.length /\ MsAt w' (.slice a1 n1 c1) (trR Q L N) /\ MsAt w' (.slice a2 n2 c2) X /\ Em (.slice a2 n2 c2) X /\ MsAt w' (.slice na nn nc) N)):=by
 cases o with
 | none=>
  obtain ⟨Ty,ea,h1,h2⟩:=h
  exact ⟨⟨#[]⟩,none,0,0,none,0,0,none,0,0,_,h1,h2,Or.inl ⟨rfl,rfl,rfl,rfl,_,_,rfl⟩⟩
 | some N=>
  obtain ⟨ra,rc,xa,xc,na,nc,h1,h2,h3,h4,h5,h6⟩:=h
  exact ⟨p,ra,_,rc,xa,_,xc,na,_,nc,_,h1,h6,Or.inr ⟨N,rfl,rfl,rfl,rfl,rfl,rfl,h2,h3,h4,h5⟩⟩
structure GsB (L : List Ent) (p : ByteArray) (R X : List Bm) (G : List ByteArray) : Prop where
 i : okI L = true
 n : L.length <= 30
 p : p.size <= 70
 r : okLN 25 R = true
 x : okLN 25 X = true
 g : okA G = true
theorem shA_of {s : ByteArray} (h : s.size <= 80) : shA s:=by
 have h1:=one_le 64 s.data.toList
 have hl : s.data.toList.length = s.size:=by simp
 refine ⟨by omega,?_,?_⟩
 ·show (one 64 s.data.toList).1.toArray.size <= 100
  rw [List.size_toArray]; omega
 ·unfold argK
  simp only
  split
  ·show (one 64 s.data.toList).2.1.toArray.size <= 100
   rw [List.size_toArray]; omega
  ·decide
theorem shA_text {m : Bm} {s : ByteArray} (hm : mErr m = 0) (hz : m.1.size <= 100 /\ m.2.size <= 100) (hs : s.data.toList = modText m.1.data.toList m.2.data.toList) : shA s:=by
 have hk:=(arg_text hm hs).1
 have hm' : modErr m.1.data.toList m.2.data.toList = 0:=hm
 rw [modText_isA hm'] at hs
 have hl : s.data.toList.length = s.size:=by simp
 have h1 : m.1.data.toList.length = m.1.size:=by simp
 have h2 : m.2.data.toList.length = m.2.size:=by simp
 have h3:=congrArg List.length hs
 rw [List.length_append,List.length_cons] at h3
 exact ⟨by omega,by rw [hk]; exact hz.1,by rw [hk]; exact hz.2⟩
theorem put3_block {W : World} {b : Nat} {x0 y0 z0 x y z : Value} {T : TypeId} (h : W.heap[b]? = some (.cells #[x0,y0,z0] T (0,0))) : (((W.setCell ⟨b,0,none⟩ x).setCell ⟨b,1,none⟩ y).setCell ⟨b,2,none⟩ z).heap[b]? = some (.cells #[x,y,z] T (0,0)):=by
 have h1:=set_block (o:=0) (x:=x) h
 have h2:=set_block (o:=1) (x:=y) h1
 have h3:=set_block (o:=2) (x:=z) h2
 rw [h3]; rfl
def Fb (w W : World) (p : ByteArray) (rv xv : Value) : Prop:=W.heap[w.heap.size]? = some (.cells #[.string p,rv,xv] 25 (0,0))
theorem Fb.below {w W W' : World} {p : ByteArray} {rv xv : Value} (h : Fb w W p rv xv) (hb : Below W.heap.size W W') : Fb w W' p rv xv:=(hb.block _ (lt_of_blk h)).trans h
theorem em_of_nil {v : Value} {D : List Bm} (h : D = [] -> v = .slice none 0 0) : Em v D:=fun a c e hD=>Or.inl (by
 have:=h hD
 rw [e] at this
 rw [hD] at this
 exact this)
theorem arg_ok (s : ByteArray) (A : Nat -> Addr) (m : Int) (w : World) (hs : s.size < 999999) (hp : (argK s).1.size <= 100) (hq : (argK s).2.size <= 100) (S : Te w A m) (D : Ds w A) (hz : argZ s = 0) :
  Calls Tryz.prog 14 #[.string s] w fun e w'=>e = .returned (.tuple #[.string (argK s).1,.string (argK s).2,.nilIface]) /\ Below w.heap.size w w':=by
 have h:=arg_any s A m w hs hp hq S D
 rw [argR_ok hz,hz] at h
 exact h
def TxM (N : List Bm) (E : List ByteArray) : Prop:=∀ j (h1 : j < E.length) (h2 : j < N.length),E[j].data.toList = modText N[j].1.data.toList N[j].2.data.toList
theorem txM_next {N : List Bm} {E : List ByteArray} {T : ByteArray} (h : TxM N E) (hl : E.length < N.length) (hT : T.data.toList = modText N[E.length].1.data.toList N[E.length].2.data.toList) : TxM N (E ++ [T]):=by
 intro j h1 h2
 by_cases hj : j < E.length
 ·rw [List.getElem_append_left hj]; exact h j hj h2
 ·have e : j = E.length:=by rw [List.length_append] at h1; simp at h1; omega
  subst e
  rw [List.getElem_append_right (Nat.le_refl _)]
  simpa using hT
set_option maxRecDepth 100000 in
theorem gs_main (Q0 : List Raw) (L : List Ent) (p : ByteArray) (R X : List Bm) (G : List ByteArray) (v rv xv gv : Value) (A : Nat -> Addr) (m : Int) (w : World) (S : Te w A m) (Dz : Ds w A) (hT : TabT w) (I : Ixs w v Q0 L) (em : EmI Q0 L) (hr : MsAt w rv R) (hx : MsAt w xv X) (her : Em rv R) (hex : Em xv X) (hg : TxAt w gv G) (B : GsB L p R X G) :
  Calls Tryz.prog 3 #[v,.agg #[.string p,rv,xv],gv] w fun e w'=>e = .returned (.bool true) /\ Below w.heap.size w w':=by
 obtain ⟨a0,c0,hv0,-⟩:=id I.es
 obtain ⟨ra,rc,hrv,-⟩:=id hr
 obtain ⟨xa,xc,hxv,-⟩:=id hx
 obtain ⟨ga,gc,hgv,-⟩:=id hg
 subst hv0
 subst hrv
 subst hxv
 subst hgv
 have hR:=okLN_iff B.r
 have hX:=okLN_iff B.x
 have hG:=okA_iff B.g
 have hI:=(okI_iff B.i).2
 have hq30 : (Q0.length : Int) <= 30:=by rw [I.ln]; have:=B.n; omega
 have hq31 : ¬ (30 : Int) < (Q0.length : Int):=by omega
 have hp70 : ¬ (70 : Int) < (p.size : Int):=by have:=B.p; omega
 have q30 : decide ((30 : Int) < (Q0.length : Int)) = false:=decide_eq_false hq31
 have q70 : decide ((70 : Int) < (p.size : Int)) = false:=decide_eq_false hp70
 have HL30:=hid B.n
 have HF:=hid (fun W (h : Below w.heap.size w W)=>show Fl W R X (.slice ra R.length rc) (.slice xa X.length xc) from ⟨hr.below h,hx.below h,fun m hm=>⟨by have:=(hR.2 m hm).1; omega,by have:=(hR.2 m hm).2; omega⟩,fun m hm=>⟨by have:=(hX.2 m hm).1; omega,by have:=(hX.2 m hm).2; omega⟩,by omega,by omega⟩)
 have HB0:=hid ((Below.refl w.heap.size w).alloc (Nat.le_refl _) (.cells #[.string p,.slice ra R.length rc,.slice xa X.length xc] 25))
 have HFB:=hid (show Fb w (w.alloc (.cells #[.string p,.slice ra R.length rc,.slice xa X.length xc] 25)) p (.slice ra R.length rc) (.slice xa X.length xc) from heap_new w _)
 have HGO:=hid (fun W (h : Below w.heap.size w W)=>got_any A m W (S.below h) (Dz.below h) (stayTab _ _ hT h))
 have HLO:=hid (fun W (h : Below w.heap.size w W)=>longIQ_any Q0 L _ W (I.below h))
 rw [if_pos B.i] at HLO
 have HLR:=hid (fun W (h : Below w.heap.size w W)=>longN_any 25 (by decide) R _ W (hr.below h))
 rw [if_pos B.r] at HLR
 have HLX:=hid (fun W (h : Below w.heap.size w W)=>longN_any 25 (by decide) X _ W (hx.below h))
 rw [if_pos B.x] at HLX
 have HLA:=hid (fun W (h : Below w.heap.size w W)=>longA_any G _ W (hg.below h))
 rw [B.g] at HLA
 have HOW:=hid (fun W (h : Below w.heap.size w W)=>ownI_any Q0 L _ W (by have:=B.n; omega) (I.below h) em (okI_fits B.i))
 have HOM:=hid (fun W (h : Below w.heap.size w W)=>ownM_any _ R W (by omega) (hr.below h) her)
 have HOF:=hid (fun W (h : Below w.heap.size w W)=>ownFO_any p R X _ _ W (HF.out W h) her hex)
 have HGV:=hid (fun W (h : Below w.heap.size w W)=>hg.below h)
 have HXV:=hid (fun W (h : Below w.heap.size w W)=>hx.below h)
 have HS:=hid (fun W (h : Below w.heap.size w W)=>S.below h)
 have HD:=hid (fun W (h : Below w.heap.size w W)=>Dz.below h)
 have HT:=hid (fun W (h : Below w.heap.size w W)=>stayTab _ W hT h)
 have HSH:=hid (okI_sh B.i)
 have HGS:=hid (fun s (hs : s ∈ G)=>shA_of (hG.2 s hs))
 have HGL:=hid hG.1
 have HZ:=hid (fun e (he : e ∈ L)=>show e.1.1.size <= 80 /\ e.1.2.size <= 80 from ⟨by have:=(hI e he).1; omega,by have:=(hI e he).2.1; omega⟩)
 have HPS:=hid B.p
 have HRL:=hid hR.1
 have HXL:=hid hX.1
 clear S Dz hT I em hr hx her hex hg B hR hX hG hI
 go_enter Tryz.func3,Tryz.ntmps3
 go_wp2_with fail
 generalize w.alloc (.cells #[.string p,.slice ra R.length rc,.slice xa X.length xc] 25) = wa at *
 refine (HGO.out wa HB0.out).mono ?_
 rintro e w1 ⟨rfl,hb⟩
 have HB1:=hid (HB0.out.trans (hb.mono HB0.out.size))
 have HF1:=hid (HFB.out.below hb)
 clear hb HB0 HFB HGO
 obtain ⟨f0,f1,f2,ff,fl⟩:=cells3 HF1.out
 have HQA:=hid (fun n=>HLO.out (w1.drewN n) (HB1.out.trans ((below_drawn w1 n).mono HB1.out.size)))
 have HQB:=hid (fun n=>HLR.out (w1.drewN n) (HB1.out.trans ((below_drawn w1 n).mono HB1.out.size)))
 have HQC:=hid (fun n=>HLX.out (w1.drewN n) (HB1.out.trans ((below_drawn w1 n).mono HB1.out.size)))
 have HQD:=hid (fun n=>HLA.out (w1.drewN n) (HB1.out.trans ((below_drawn w1 n).mono HB1.out.size)))
 clear HLO HLR HLX HLA
 go_wp2_with fail
 go_quiet (first
  | (go_at_call_of 5 (Value.slice a0 Q0.length c0); refine (HQA.out _).mono fun e w' h=>⟨h.1,_,h.2⟩)
  | (go_at_call_of 6 (Value.slice ra R.length rc); refine (HQB.out _).mono fun e w' h=>⟨h.1,_,h.2⟩)
  | (go_at_call_of 6 (Value.slice xa X.length xc); refine (HQC.out _).mono fun e w' h=>⟨h.1,_,h.2⟩)
  | (go_at_call_of 7 (Value.slice ga G.length gc); refine (HQD.out _).mono fun e w' h=>⟨h.1,_,h.2⟩))
 have HB2:=hid (HB1.out.trans ((below_drawn w1 nq).mono HB1.out.size))
 have HF2:=hid (HF1.out.below (below_drawn w1 nq))
 clear f0 f1 f2 ff fl HQA HQB HQC HQD HB1 HF1
 go_wp2_with fail
 generalize w1.drewN nq = w2 at *
 refine (HOW.out w2 HB2.out).mono ?_
 rintro e w3 ⟨ou,Q,rfl,hO,hb⟩
 have HB3:=hid (HB2.out.trans (hb.mono HB2.out.size))
 have HF3:=hid (HF2.out.below hb)
 have HI3:=hid hO.ixs
 have HBW:=hid (fun W (h : Below w3.heap.size w3 W)=>HB3.out.trans (h.mono HB3.out.size))
 have HIX:=hid (fun W (h : Below w3.heap.size w3 W)=>hO.ixs.below h)
 have HFX:=hid (fun W (h : Below w3.heap.size w3 W)=>HF3.out.below h)
 obtain ⟨oa,oc,hou,-⟩:=id hO.ixs.es
 subst hou
 have HBU:=hid (fun (Z : List Bm) zv W (h : Below w3.heap.size w3 W) (hl : Z.length <= 1000) (hz : MsAt W zv Z)=>build_all Q L Z (.slice oa Q.length oc) zv A m W (by have:=HL30.out; omega) (by omega) HSH.out (HS.out _ (HBW.out _ h)) (HIX.out _ h) hz)
 have HGT:=hid (fun (R' X' : List Bm) (G' : List ByteArray) rv' xv' gv' W (h : Below w3.heap.size w3 W) (hR : R'.length <= 1000) (hX : X'.length <= 1000) (hG : G'.length <= 1000) (hs : ∀ s,s ∈ G' -> shA s) (F' : Fl W R' X' rv' xv') (he : Em xv' X') (hg : TxAt W gv' G')=>get_any TabT stayTab (pkc Q L) Q L p R' X' G' (.slice oa Q.length oc) rv' xv' gv' A m W (by have:=HL30.out; omega) HSH.out (fun e he=>⟨by have:=(HZ.out e he).1; omega,by have:=(HZ.out e he).2; omega⟩) (by have:=HPS.out; omega) hR hX hG hs (HS.out _ (HBW.out _ h)) (HD.out _ (HBW.out _ h)) (HT.out _ (HBW.out _ h)) (HIX.out _ h) F' he hg (pkc_c (by have:=HL30.out; omega) HSH.out (short_of HI3.out HZ.out) A m) (pkc_z (short_of HI3.out HZ.out)))
 obtain ⟨f0,f1,f2,ff,fl⟩:=cells3 HF3.out
 clear hb hO HOW HB2 HF2
 go_wp2_with fail
 refine (HOM.out w3 HB3.out).mono ?_
 rintro e w4 ⟨u4,rfl,ho,-,hb⟩
 have HB4:=hid hb
 have HR4:=hid (own_ms ho)
 obtain ⟨a4,c4,hu4⟩:=own_slN ho
 subst hu4
 clear ho hb f0 f1 f2 ff fl
 go_wp2_with fail
 refine (HBU.out R _ w4 HB4.out (by have:=HRL.out; omega) HR4.out).mono ?_
 rintro e w5 ⟨ba,bc,x,rfl,hM,he⟩
 have HB5:=hid (HB4.out.trans (hM.1.mono HB4.out.size))
 have HM5:=hid hM.ms
 rcases he.kind with ⟨hc,hx⟩ | ⟨hc,Ty,ea,hx⟩
 rotate_left
 ·subst hx
  have HBf:=hid (HBW.out _ HB5.out)
  clear hM he hc
  go_wp2_with fail
  go_ret
  exact ⟨rfl,HBf.out⟩
 have HCG:=hid (show (chkG Q L R).1 = 0 by
  by_cases h : (chkG Q L R).1 = 0
  ·exact h
  ·rw [rF_bad h] at hc; exact absurd hc h)
 subst hx
 have HF5:=hid (HFX.out _ HB5.out)
 obtain ⟨f0,f1,f2,ff,fl⟩:=cells3 HF5.out
 clear hM he hc HOM HR4
 have HGN:=hid (fun N (h : getV (pkc Q L) Q L p R X [] = some N)=>get_none HI3.out h)
 have HBL:=hid (show (bX Q L R).length <= 1000 from Nat.le_trans bX_len (by have:=HL30.out; omega))
 generalize bX Q L R = BX at *
 go_wp2_with fail
 refine (HOF.out w5 (HBW.out _ HB5.out)).mono ?_
 rintro e w6 ⟨v6,u6,rfl,cp⟩
 have HB6:=hid (HB5.out.trans (cp.bl.mono HB5.out.size))
 have HM6:=hid (HM5.out.below cp.bl)
 have HG6:=hid (HGT.out R X [] v6 u6 (.slice none 0 0) w6 HB6.out (by have:=HRL.out; omega) (by have:=HXL.out; omega) (by decide) (fun s hs=>absurd hs (by simp)) ⟨own_ms cp.ov,own_ms cp.ou,(HF.out _ HB3.out).rs,(HF.out _ HB3.out).xs,(HF.out _ HB3.out).rn,(HF.out _ HB3.out).xn⟩ (em_of_nil cp.zu) ⟨none,0,rfl,Nat.le_refl _,fun h=>absurd rfl h⟩)
 obtain ⟨va6,vc6,hv6⟩:=own_slN cp.ov
 obtain ⟨ua6,uc6,hu6⟩:=own_slN cp.ou
 subst hv6
 subst hu6
 clear cp f0 f1 f2 ff fl HM5
 go_wp2_with fail
 refine HG6.out.mono ?_
 intro e w7 hp
 obtain ⟨ps,a1,n1,c1,a2,n2,c2,na,nn,nc,ev,rfl,hb,hpp⟩:=hp.flat
 have HB7:=hid (HB6.out.trans (hb.mono HB6.out.size))
 have HM7:=hid (HM6.out.below hb)
 have HPP:=hid hpp
 obtain ⟨w8,hw8⟩ : ∃ W,W = w7.alloc (.cells #[.string ps,.slice a1 n1 c1,.slice a2 n2 c2] 25):=⟨_,rfl⟩
 have HA8:=hid (show Below w7.heap.size w7 w8 by rw [hw8]; exact (Below.refl _ _).alloc (Nat.le_refl _) _)
 have HX8:=hid (show w8.heap[w7.heap.size]? = some (.cells #[.string ps,.slice a1 n1 c1,.slice a2 n2 c2] 25 (0,0)) by rw [hw8]; exact heap_new w7 _)
 have HW8:=hid hw8
 have HB8:=hid (HB7.out.trans (HA8.out.mono HB7.out.size))
 have HF8:=hid (HFX.out _ HB8.out)
 have HM8:=hid (HM7.out.below HA8.out)
 clear hp hpp hb hw8 HG6 HM6 HM7
 go_upto_region 9 with fail
 rw [<- HW8.out]
 go_cut [92] (fun bv wx=>bv = .bool false /\ Hid (Below w8.heap.size w8 wx))
 case first=>
  rcases HPP.out with ⟨-,-,-,-,Ty,ea,hev⟩ | ⟨N,hN,hps,hev,-,-,hnn,-,-,-,hNm⟩
  ·subst hev
   go_wp2_with fail
   go_meet
   case rel=>exact ⟨rfl,hid (Below.refl _ _)⟩
  ·subst hev
   have hNB:=HGN.out N hN
   subst hNB
   have HSA:=hid (sameM_any N _ _ w8 (by have:=HBL.out; omega) (hNm.below HA8.out) HM8.out)
   subst hnn
   subst hps
   have he:=str_refl ps
   clear hN hNm
   go_wp2_with fail
   refine HSA.out.mono ?_
   rintro e w9 ⟨rfl,hb⟩
   have HX9:=hid ((hb.block _ (lt_of_blk HX8.out)).trans HX8.out)
   have HB9:=hid hb
   obtain ⟨t0,t1,t2,tf,tl⟩:=cells3 HX9.out
   obtain ⟨f0,f1,f2,ff,fl⟩:=cells3 (HF8.out.below hb)
   clear hb
   go_wp2_with fail
   go_meet
   case rel=>exact ⟨rfl,HB9⟩
 case rest=>
  obtain ⟨rfl,HB9⟩:=hcut
  have HBc:=hid (HB8.out.trans (HB9.out.mono HB8.out.size))
  have HXc:=hid ((HB9.out.block _ (lt_of_blk HX8.out)).trans HX8.out)
  have HFc:=hid (HFX.out _ HBc.out)
  have HXW:=hid (show w3.heap.size <= w7.heap.size from HB7.out.size)
  obtain ⟨f0,f1,f2,ff,fl⟩:=cells3 HFc.out
  clear HPP HA8 HX8 HW8 HB8 HF8 HM8 HB9 HGN HBL HB5 HF5 HB6 HB7
  go_wp2_with fail
  refine (HOF.out wc (HBW.out _ HBc.out)).mono ?_
  rintro e w10 ⟨v6,u6,rfl,cp⟩
  have HB10:=hid (HBc.out.trans (cp.bl.mono HBc.out.size))
  have HX10:=hid ((cp.bl.block _ (lt_of_blk HXc.out)).trans HXc.out)
  have HG10:=hid (HGT.out R X G v6 u6 (.slice ga G.length gc) w10 HB10.out (by have:=HRL.out; omega) (by have:=HXL.out; omega) (by have:=HGL.out; omega) HGS.out ⟨own_ms cp.ov,own_ms cp.ou,(HF.out _ HB3.out).rs,(HF.out _ HB3.out).xs,(HF.out _ HB3.out).rn,(HF.out _ HB3.out).xn⟩ (em_of_nil cp.zu) (HGV.out _ (HBW.out _ HB10.out)))
  obtain ⟨va6,vc6,hv6⟩:=own_slN cp.ov
  obtain ⟨ua6,uc6,hu6⟩:=own_slN cp.ou
  subst hv6
  subst hu6
  clear cp f0 f1 f2 ff fl HXc HFc HBc
  go_wp2_with fail
  refine HG10.out.mono ?_
  intro e w11 hp
  cases hgv : getV (pkc Q L) Q L p R X G with
  | none=>
   rw [hgv] at hp
   obtain ⟨Ty,ea,rfl,hb⟩:=hp
   have HB11:=hid (HB10.out.trans (hb.mono HB10.out.size))
   have HX11:=hid ((hb.block _ (lt_of_blk HX10.out)).trans HX10.out)
   obtain ⟨t0,t1,t2,tf,tl⟩:=cells3 HX11.out
   have HBf:=hid (HBW.out _ HB11.out)
   have HWL:=hid (show w.heap.size <= w7.heap.size from Nat.le_trans HB3.out.size HXW.out)
   clear hb hgv
   go_wp2_with fail
   go_ret
   exact ⟨rfl,put3z HBf.out HWL.out⟩
  | some N=>
   rw [hgv] at hp
   obtain ⟨ra2,rc2,xa2,xc2,na2,nc2,rfl,hm1,hm2,he2,hm3,hb⟩:=hp
   have HB11:=hid (HB10.out.trans (hb.mono HB10.out.size))
   have HX11:=hid ((hb.block _ (lt_of_blk HX10.out)).trans HX10.out)
   obtain ⟨t0,t1,t2,tf,tl⟩:=cells3 HX11.out
   have HGV2:=hid hgv
   obtain ⟨TR,hTR⟩ : ∃ TR,trR Q L N = TR:=⟨_,rfl⟩
   rw [hTR] at hm1
   rw [hTR]
   have HTR:=hid hTR
   obtain ⟨w12,hw12⟩ : ∃ W,W = (((w11.setCell ⟨w7.heap.size,0,none⟩ (.string p)).setCell ⟨w7.heap.size,1,none⟩ (.slice ra2 TR.length rc2)).setCell ⟨w7.heap.size,2,none⟩ (.slice xa2 X.length xc2)):=⟨_,rfl⟩
   have HB12:=hid (show Below w3.heap.size w3 w12 by rw [hw12]; exact put3z HB11.out HXW.out)
   have HX12:=hid (show w12.heap[w7.heap.size]? = some (.cells #[.string p,.slice ra2 TR.length rc2,.slice xa2 X.length xc2] 25 (0,0)) by rw [hw12]; exact put3_block HX11.out)
   have HM1:=hid (show MsAt w12 (.slice ra2 TR.length rc2) TR by rw [hw12]; exact put3m hm1 HX11.out)
   have HM2:=hid (show MsAt w12 (.slice xa2 X.length xc2) X by rw [hw12]; exact put3m hm2 HX11.out)
   have HM3:=hid (show MsAt w12 (.slice na2 N.length nc2) N by rw [hw12]; exact put3m hm3 HX11.out)
   have HE2:=hid he2
   have HW12:=hid hw12
   clear hb hgv hm1 hm2 he2 hm3 hTR hw12 HG10 HX10 HB10
   go_upto_region 12 with fail
   rw [<- HW12.out]
   clear t0 t1 t2 tf tl HX11 HB11 HW12
   generalize w7.heap.size = xb at *
   have HSEL:=hid (show SelF Q L N from by
    obtain ⟨K,F⟩:=getV_some HGV2.out
    exact (rbV_sel HI3.out F.c F.b).1)
   have HCK:=hid (show (chk Q L).1 = 0 from by
    obtain ⟨K,F⟩:=getV_some HGV2.out
    exact F.c)
   have HAZ:=hid (show ∀ s,s ∈ G -> argZ s = 0 from by
    obtain ⟨K,F⟩:=getV_some HGV2.out
    exact F.a)
   have HPIN:=hid (fun s (hs : s ∈ G) (hw : wildB (argK s).1 = false)=>get_pin HGV2.out hs hw)
   have HNL:=hid (show N.length <= 30 from by
    obtain ⟨K,F⟩:=getV_some HGV2.out
    exact Nat.le_trans (rbV_len F.b) HL30.out)
   have HBX2:=hid (show ∀ W,Below w12.heap.size w12 W -> Below w3.heap.size w3 W from fun W h=>HB12.out.trans (h.mono HB12.out.size))
   have HARG:=hid (fun s (hs : s ∈ G) W (h : Below w12.heap.size w12 W)=>arg_ok s A m W (HGS.out s hs).1 (HGS.out s hs).2.1 (HGS.out s hs).2.2 (HS.out _ (HBW.out _ (HBX2.out _ h))) (HD.out _ (HBW.out _ (HBX2.out _ h))) (HAZ.out s hs))
   have HWI:=hid (fun t W (ht : t.size <= 100) (h : Below w12.heap.size w12 W)=>wild_m m t W ht (HS.out _ (HBW.out _ (HBX2.out _ h))).ml)
   have HVC:=hid (fun t W (ht : t.size <= 100) (h : Below w12.heap.size w12 W)=>vcheck_is t (A 0) (A 1) m W (by omega) (HS.out _ (HBW.out _ (HBX2.out _ h))).vs)
   have HFP:=hid (fun t W (h : Below w12.heap.size w12 W)=>fp_any N t (.slice na2 N.length nc2) W (by have:=HNL.out; omega) (HM3.out.below h))
   go_wp2_with fail
   go_loopw [13] (fun iv wr=>∃ k : Nat,k <= G.length /\ iv = .int .i64 k /\ Hid (Below w12.heap.size w12 wr)) (fun iv _=>G.length - (intOf iv).toNat)
   case atStart=>exact ⟨0,Nat.zero_le _,rfl,hid (Below.refl _ _)⟩
   case round=>
    obtain ⟨k,hk,rfl,HBr⟩:=hrel
    by_cases hlt : k < G.length
    ·have hkI:=ix_lt hlt
     have hk0:=ix_pos k
     have HLT:=hid hlt
     obtain ⟨yb,yo,hya,y0⟩:=tx_cellK (HGV.out wr (HBW.out _ (HBX2.out _ HBr.out))) hlt
     subst hya
     have hmem:=List.getElem_mem hlt
     have HA1:=hid (HARG.out G[k] hmem wr HBr.out)
     have HP1:=hid (HPIN.out G[k] hmem)
     have HZ1:=hid (HGS.out G[k] hmem)
     generalize G[k] = s at *
     have HZ2:=hid HZ1.out.2
     generalize argK s = ak at *
     obtain ⟨pp,qq⟩:=ak
     simp only at HA1 HP1 HZ2
     clear hlt hmem HZ1
     go_wp2_with fail
     refine HA1.out.mono ?_
     rintro e w13 ⟨rfl,hb⟩
     have HB13:=hid (HBr.out.trans (hb.mono HBr.out.size))
     have HW1:=hid (HWI.out pp w13 HZ2.out.1 HB13.out)
     clear hb y0 HA1
     cases hwl : wildB pp
     rotate_left
     ·rw [hwl] at HW1
      clear hwl HP1
      go_wp2_with fail
      refine HW1.out.mono ?_
      rintro e w14 ⟨rfl,hb⟩
      have HB14:=hid (HB13.out.trans (hb.mono HB13.out.size))
      clear hb
      go_wp2_with fail
      go_roundw
      case rel=>exact ⟨k + 1,HLT.out,by first | exact nr_idx k | exact nx_idx HLT.out (by have:=HGL.out; omega),HB14⟩
      case measure=>first | exact nr_meas HLT.out | exact nx_meas HLT.out (by have:=HGL.out; omega)
     ·rw [hwl] at HW1
      have HP2:=hid (HP1.out hwl)
      clear hwl HP1
      go_wp2_with fail
      refine HW1.out.mono ?_
      rintro e w14 ⟨rfl,hb⟩
      have HB14:=hid (HB13.out.trans (hb.mono HB13.out.size))
      have HV1:=hid (HVC.out qq w14 HZ2.out.2 HB14.out)
      clear hb HW1
      by_cases hv : verErr qq.data.toList = 0
      ·rw [hv,errV0] at HV1
       have HP3:=hid (HP2.out.1 hv)
       obtain ⟨n1,n2⟩:=ver_not_none hv
       have k1 : (qq.toList == [110,111,110,101]) = false:=by rw [show ([110,111,110,101] : List UInt8) = bNone.data.toList from rfl,<- eqW]; exact decide_eq_false n2
       have HN1:=hid n1
       clear hv n1 n2 HP2
       go_wp2_with fail
       refine HV1.out.mono ?_
       rintro e w15 ⟨rfl,hb⟩
       have HB15:=hid (HB14.out.trans (hb.mono HB14.out.size))
       clear hb
       go_wp2_with fail
       refine (HFP.out pp w15 HB15.out).mono ?_
       rintro e w16 ⟨r,rfl,hr,hw16⟩
       subst hw16
       rcases hr with ⟨hr1,hr2⟩ | ⟨j,hr1,hj,hr2⟩
       ·exfalso
        rw [vIn_not (fun x hx=>by
         obtain ⟨i,hi,rfl⟩:=List.getElem_of_mem hx
         exact decide_eq_false (hr2 i hi))] at HP3
        exact HN1.out HP3.out.symm
       ·subst hr1
        have hjI : (j : Int) < (N.length : Int):=by omega
        have hj0 : (0 : Int) <= (j : Int):=by omega
        have hj1 : ¬ (j : Int) < 0:=by omega
        obtain ⟨la,lc,hla,-,hcells⟩:=HM3.out.below HB15.out
        obtain ⟨lb,lo,hlb,hcc⟩:=hcells (by intro h; rw [h] at hj; simp at hj)
        injection hla with hla1 hla2 hla3
        rw [hlb] at hla1
        subst hla1
        have z1:=(hcc j hj).2
        have hq : N[j].2 = qq:=by rw [<- vIn_at HSEL.out.r hj,hr2]; exact HP3.out
        rw [hq] at z1
        have hqq:=str_refl qq
        clear hcells hcc hla2 hla3 hlb hr2 hq HN1 HP3
        go_wp2_with fail
        go_roundw
        case rel=>exact ⟨k + 1,HLT.out,by first | exact nr_idx k | exact nx_idx HLT.out (by have:=HGL.out; omega),HB15⟩
        case measure=>first | exact nr_meas HLT.out | exact nx_meas HLT.out (by have:=HGL.out; omega)
      ·obtain ⟨ea,hea⟩:=errV_ne (A 0) (A 1) hv
       rw [hea] at HV1
       clear hv hea
       by_cases hqn : qq = bNone
       ·have HP3:=hid (HP2.out.2 hqn)
        have k1 : (qq.toList == [110,111,110,101]) = true:=by rw [show ([110,111,110,101] : List UInt8) = bNone.data.toList from rfl,<- eqW]; exact decide_eq_true hqn
        clear hqn HP2
        go_wp2_with fail
        refine HV1.out.mono ?_
        rintro e w15 ⟨rfl,hb⟩
        have HB15:=hid (HB14.out.trans (hb.mono HB14.out.size))
        clear hb
        go_wp2_with fail
        refine (HFP.out pp w15 HB15.out).mono ?_
        rintro e w16 ⟨r,rfl,hr,hw16⟩
        subst hw16
        rcases hr with ⟨hr1,hr2⟩ | ⟨j,hr1,hj,hr2⟩
        ·subst hr1
         clear hr2 HP3
         go_wp2_with fail
         go_roundw
         case rel=>exact ⟨k + 1,HLT.out,by first | exact nr_idx k | exact nx_idx HLT.out (by have:=HGL.out; omega),HB15⟩
         case measure=>first | exact nr_meas HLT.out | exact nx_meas HLT.out (by have:=HGL.out; omega)
        ·exfalso
         have h1:=vIn_at HSEL.out.r hj
         rw [hr2,HP3.out] at h1
         exact (ver_not_none (mErr_zero (HSEL.out.e _ (List.getElem_mem hj))).2).1 h1.symm
       ·have k1 : (qq.toList == [110,111,110,101]) = false:=by rw [show ([110,111,110,101] : List UInt8) = bNone.data.toList from rfl,<- eqW]; exact decide_eq_false hqn
        clear hqn HP2
        go_wp2_with fail
        refine HV1.out.mono ?_
        rintro e w15 ⟨rfl,hb⟩
        have HB15:=hid (HB14.out.trans (hb.mono HB14.out.size))
        clear hb
        go_wp2_with fail
        go_roundw
        case rel=>exact ⟨k + 1,HLT.out,by first | exact nr_idx k | exact nx_idx HLT.out (by have:=HGL.out; omega),HB15⟩
        case measure=>first | exact nr_meas HLT.out | exact nx_meas HLT.out (by have:=HGL.out; omega)
    ·have hkI:=ix_nlt hlt
     clear HARG HWI HVC HPIN
     have HB3r:=hid (HBX2.out _ HBr.out)
     have HXr:=hid ((HBr.out.block _ (lt_of_blk HX12.out)).trans HX12.out)
     have HTB:=hid (show bX Q L TR = N /\ (chkG Q L TR).1 = 0 /\ TR.length <= N.length /\ ∀ x,x ∈ TR -> x ∈ N from by
      obtain ⟨-,hsub,hb⟩:=fwB_tr HI3.out HCK.out HSEL.out
      rw [HTR.out] at hsub hb
      exact ⟨hb,chkG_in HI3.out HCK.out (fun x hx=>HSEL.out.u x (hsub.subset hx)),hsub.length_le,fun x hx=>hsub.subset hx⟩)
     have HZN:=hid (show ∀ x,x ∈ N -> x.1.size <= 80 /\ x.2.size <= 80 from fun x hx=>by
      obtain ⟨e,he,rfl⟩:=List.mem_map.1 (HSEL.out.u x hx)
      exact HZ.out e he)
     have HFL:=hid (show ∀ W,Below w12.heap.size w12 W -> Fl W TR X (.slice ra2 TR.length rc2) (.slice xa2 X.length xc2) from fun W h=>⟨HM1.out.below h,HM2.out.below h,fun x hx=>by have:=HZN.out x (HTB.out.2.2.2 x hx); omega,(HF.out _ HB3.out).xs,by have:=HTB.out.2.2.1; have:=HNL.out; omega,(HF.out _ HB3.out).xn⟩)
     obtain ⟨t0,t1,t2,tf,tl⟩:=cells3 HXr.out
     clear hlt HXr
     go_wp2_with fail
     refine (HBU.out TR _ wr HB3r.out (by have:=HTB.out.2.2.1; have:=HNL.out; omega) (HM1.out.below HBr.out)).mono ?_
     rintro e w13 ⟨ba3,bc3,x3,he1,hM,he⟩
     rw [HTB.out.1] at he1 hM
     rw [rF_good HTB.out.2.1] at he
     subst he1
     rcases he.kind with ⟨_,hx3⟩ | ⟨hc3,_⟩
     rotate_left
     ·exact absurd rfl hc3
     subst hx3
     have HB13:=hid (HBr.out.trans (hM.1.mono HBr.out.size))
     have HSA:=hid (sameM_any N _ _ w13 (by have:=HNL.out; omega) hM.ms (HM3.out.below HB13.out))
     clear he hM t0 t1 t2 tf tl HBr HB3r
     go_wp2_with fail
     refine HSA.out.mono ?_
     rintro e w14 ⟨rfl,hb⟩
     have HB14:=hid (HB13.out.trans (hb.mono HB13.out.size))
     have HXr:=hid ((HB14.out.block _ (lt_of_blk HX12.out)).trans HX12.out)
     have HFr:=hid (HFX.out _ (HBX2.out _ HB14.out))
     have HSX:=hid (sameM_any X _ _ w14 (by have:=HXL.out; omega) (HM2.out.below HB14.out) (HXV.out _ (HBW.out _ (HBX2.out _ HB14.out))))
     obtain ⟨t0,t1,t2,tf,tl⟩:=cells3 HXr.out
     obtain ⟨f0,f1,f2,ff,fl⟩:=cells3 HFr.out
     have hsp:=str_refl p
     clear hb HSA HXr HFr HB13
     go_wp2_with fail
     refine HSX.out.mono ?_
     rintro e w15 ⟨rfl,hb⟩
     have HB15:=hid (HB14.out.trans (hb.mono HB14.out.size))
     have HXr:=hid ((HB15.out.block _ (lt_of_blk HX12.out)).trans HX12.out)
     have HFK:=hid (fcheck_any p TR X _ _ A m w15 (by have:=HPS.out; omega) (HS.out _ (HBW.out _ (HBX2.out _ HB15.out))) (HFL.out _ HB15.out))
     clear hb t0 t1 t2 tf tl f0 f1 f2 ff fl HSX HB14
     obtain ⟨t0,t1,t2,tf,tl⟩:=cells3 HXr.out
     go_wp2_with fail
     refine HFK.out.mono ?_
     rintro e w16 ⟨x4,rfl,he,hb⟩
     have HB16:=hid (HB15.out.trans (hb.mono HB15.out.size))
     clear hb t0 t1 t2 tf tl HFK HB15 HXr
     rcases he.kind with ⟨hc,hx4⟩ | ⟨hc,Ty,ea,hx4⟩
     rotate_left
     ·subst hx4
      have HGF:=hid (show ∃ y,y ∈ N /\ y.1 = p from get_file HI3.out HGV2.out (by rw [HTR.out]; exact hc))
      have HFr:=hid (HFX.out _ (HBX2.out _ HB16.out))
      obtain ⟨f0,f1,f2,ff,fl⟩:=cells3 HFr.out
      clear he hc
      go_wp2_with fail
      refine (HFP.out p w16 HB16.out).mono ?_
      rintro e w17 ⟨r,rfl,hr,hw17⟩
      subst hw17
      have hr0 : (0 : Int) <= r:=by
       rcases hr with ⟨_,hr2⟩ | ⟨j,hr1,_⟩
       ·obtain ⟨y,hy,hyp⟩:=HGF.out
        obtain ⟨j,hj,rfl⟩:=List.getElem_of_mem hy
        exact absurd hyp (hr2 j hj)
       ·omega
      have HBf:=hid (HBW.out _ (HBX2.out _ HB16.out))
      clear hr
      go_wp2_with fail
      go_ret
      exact ⟨by first | rfl | (simp [hr0]),HBf.out⟩
     subst hx4
     have HFF:=hid (show (fileF p (trR Q L N) X).1 = 0 from by rw [HTR.out]; exact hc)
     clear he hc
     by_cases hn10 : (10 : Int) < (N.length : Int)
     ·have HBf:=hid (HBW.out _ (HBX2.out _ HB16.out))
      go_wp2_with fail
      go_ret
      exact ⟨rfl,HBf.out⟩
     have HN10:=hid (show N.length <= 10 by omega)
     obtain ⟨i0,hi,hz0,hz1,hz2⟩:=info_parts infoStr
     have HMT:=hid (fun (y : Bm) (hy : y ∈ N) W (h : Below w12.heap.size w12 W)=>mtext_any y.1 y.2 A m W (by have:=HZN.out y hy; omega) (by have:=HZN.out y hy; omega) (HS.out _ (HBW.out _ (HBX2.out _ h))))
     have HBY:=hid (show ∀ W,Below w16.heap.size w16 W -> Below w12.heap.size w12 W from fun W h=>HB16.out.trans (h.mono HB16.out.size))
     go_wp2_with fail
     go_loopw [19,20] (fun ov iv wr=>∃ (k : Nat) (E : List ByteArray),k <= N.length /\ iv = .int .i64 k /\ Hid (E.length = k) /\ Hid (TxM N E) /\ Hid (wr.ownsRow w16.heap.size 9 1 ov E.length (E.map Value.string)) /\ Hid (Below w16.heap.size w16 wr)) (fun _ iv _=>N.length - (intOf iv).toNat)
     case atStart=>exact ⟨0,[],Nat.zero_le _,rfl,hid rfl,hid (fun j h1=>absurd h1 (by simp)),hid (World.ownsRow_nil _ _ _ _),hid (Below.refl _ _)⟩
     case round=>
      obtain ⟨k,E,hk,rfl,HEL,HTM,HO,HBs⟩:=hrel
      by_cases hlt : k < N.length
      ·have hkI:=ix_lt hlt
       have hk0:=ix_pos k
       have HLT:=hid hlt
       have HBt:=hid (HBY.out _ HBs.out)
       obtain ⟨la,lc,hla,-,hcells⟩:=HM3.out.below HBt.out
       obtain ⟨lb,lo,hlb,hcc⟩:=hcells (by intro h; rw [h] at hlt; simp at hlt)
       injection hla with hla1 hla2 hla3
       rw [hlb] at hla1
       subst hla1
       have y0:=(hcc k hlt).1
       have y1:=(hcc k hlt).2
       have HM:=hid (HMT.out N[k] (List.getElem_mem hlt) _ HBt.out)
       have HNX:=hid (fun (T : ByteArray) (hT : T.data.toList = modText N[k].1.data.toList N[k].2.data.toList)=>show TxM N (E ++ [T]) from by
        have e:=HEL.out
        subst e
        exact txM_next HTM.out hlt hT)
       generalize N[k] = y at *
       obtain ⟨y1s,y2s⟩:=y
       simp only at y0 y1 HM HNX
       clear hcells hcc hla2 hla3 hlb hlt
       go_wp2_with fail
       refine HM.out.mono ?_
       rintro e w17 ⟨T,rfl,hT,hb⟩
       have HTx:=hid (HNX.out T hT)
       have HO2:=hid (owns_below HO.out hb)
       have HBu:=hid hb
       have HSZ:=hid (show w16.heap.size <= w17.heap.size from Nat.le_trans HBs.out.size hb.size)
       clear hb hT y0 y1 HM HNX
       go_wp2_with (at_builtin; refine wpList_append_own _ rfl _ _ 26 rfl w16.heap.size 9 i0 _ 1 16 Tryz.underlying26 hi hz0 hz1 hz2 rfl (by decide) _ _ _ rfl (HO2.out.alloc _) ⟨w17.heap.size,0,none⟩ 1 1 [.string T] rfl rfl ?c1 ?c2 ?c3 ?c4 ?c5 ?_)
       case c1=>exact World.news_of_block (cs:=#[.string T]) (by have:=heap_new w17 (.cells #[.string T] 9); simpa using this)
       case c2=>intro u hu; simp at hu; rw [hu]; rfl
       case c3=>have:=HEL.out; have:=HN10.out; have:=HLT.out; unfold maxLen; omega
       case c4=>have:=HEL.out; have:=HN10.out; have:=HLT.out; omega
       case c5=>have:=HSZ.out; simp at this ⊢; omega
       intro v' w18 hown hgrow _
       have HR3:=hid (rel_app HBs.out.size HBs.out HO.out HBu.out hgrow)
       have HO3:=hid hown
       clear hown hgrow
       go_wp2_with fail
       go_roundw
       case rel=>exact ⟨k + 1,E ++ [T],HLT.out,by first | exact nr_idx k | exact nx_idx HLT.out (by have:=HNL.out; omega),hid (by rw [List.length_append,HEL.out]; rfl),HTx,by rw [List.length_append,List.map_append]; exact HO3,HR3⟩
       case measure=>first | exact nr_meas HLT.out | exact nx_meas HLT.out (by have:=HNL.out; omega)
      ·have hkI:=ix_nlt hlt
       have HKN:=hid (show E.length = N.length by rw [HEL.out]; omega)
       have HTX:=hid (own_tx HO.out)
       obtain ⟨ea,ec,hov⟩:=own_slN HO.out
       subst hov
       have HBt:=hid (HBY.out _ HBs.out)
       have HSE:=hid (show ∀ s,s ∈ E -> shA s from fun s hs=>by
        obtain ⟨j,hj,rfl⟩:=List.getElem_of_mem hs
        have hj2 : j < N.length:=by rw [<- HKN.out]; exact hj
        have hz:=HZN.out N[j] (List.getElem_mem hj2)
        exact shA_text (HSEL.out.e _ (List.getElem_mem hj2)) ⟨by omega,by omega⟩ (HTM.out j hj hj2))
       have HAG:=hid (show getV (pkc Q L) Q L p TR X E = some N from by
        have hag:=get_again (E:=E) HI3.out HGV2.out HFF.out HN10.out HKN.out HTM.out
        rw [HTR.out] at hag
        exact hag)
       have HXr:=hid ((HBt.out.block _ (lt_of_blk HX12.out)).trans HX12.out)
       obtain ⟨t0,t1,t2,tf,tl⟩:=cells3 HXr.out
       clear hlt HO HMT HXr
       go_wp2_with fail
       refine (HGT.out TR X E _ _ _ wr (HBX2.out _ HBt.out) (by have:=HTB.out.2.2.1; have:=HNL.out; omega) (by have:=HXL.out; omega) (by have:=HKN.out; have:=HN10.out; omega) HSE.out (HFL.out _ HBt.out) HE2.out HTX.out).mono ?_
       intro e w20 hp
       rw [HAG.out] at hp
       obtain ⟨ra3,rc3,xa3,xc3,na3,nc3,rfl,hm1,hm2,he2,hm3,hb⟩:=hp
       rw [HTR.out] at hm1
       rw [HTR.out]
       have HB20:=hid (HBt.out.trans (hb.mono HBt.out.size))
       obtain ⟨w21,hw21⟩ : ∃ W,W = w20.alloc (.cells #[.string p,.slice ra3 TR.length rc3,.slice xa3 X.length xc3] 25):=⟨_,rfl⟩
       have HA:=hid (show Below w20.heap.size w20 w21 by rw [hw21]; exact (Below.refl _ _).alloc (Nat.le_refl _) _)
       have HB21:=hid (HB20.out.trans (HA.out.mono HB20.out.size))
       have HY:=hid (show w21.heap[w20.heap.size]? = some (.cells #[.string p,.slice ra3 TR.length rc3,.slice xa3 X.length xc3] 25 (0,0)) by rw [hw21]; exact heap_new w20 _)
       have HXr:=hid ((HB21.out.block _ (lt_of_blk HX12.out)).trans HX12.out)
       have HSF:=hid (sameFO_any p TR X _ _ _ _ w21 ⟨hm1.below HA.out,hm2.below HA.out,(HFL.out _ HB21.out).rs,(HFL.out _ HB21.out).xs,(HFL.out _ HB21.out).rn,(HFL.out _ HB21.out).xn⟩ (HFL.out _ HB21.out))
       have HM3b:=hid (hm3.below HA.out)
       have HW:=hid hw21
       clear hb hm1 hm2 he2 hm3 hw21 t0 t1 t2 tf tl HTX
       go_upto_region 40 with fail
       rw [<- HW.out]
       obtain ⟨t0,t1,t2,tf,tl⟩:=cells3 HXr.out
       obtain ⟨z0,z1,z2,zf,zl⟩:=cells3 HY.out
       clear HW HA HY HXr
       go_wp2_with fail
       refine HSF.out.mono ?_
       rintro e w22 ⟨rfl,hb⟩
       have HB22:=hid (HB21.out.trans (hb.mono HB21.out.size))
       have HSA:=hid (sameM_any N _ _ w22 (by have:=HNL.out; omega) (HM3b.out.below hb) (HM3.out.below HB22.out))
       clear hb t0 t1 t2 tf tl z0 z1 z2 zf zl HSF
       go_wp2_with fail
       refine HSA.out.mono ?_
       rintro e w23 ⟨rfl,hb⟩
       have HBf:=hid (HBW.out _ (HBX2.out _ (HB22.out.trans (hb.mono HB22.out.size))))
       clear hb
       go_wp2_with fail
       go_ret
       exact ⟨rfl,HBf.out⟩
end Ve
end Go.Proofs.YtjbmjnbkibmkpaaGreatDoor
