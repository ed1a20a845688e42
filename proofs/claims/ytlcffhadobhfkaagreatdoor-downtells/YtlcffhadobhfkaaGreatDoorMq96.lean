/-
  DtF DtG
-/
import Derived.Test.YtlcffhadobhfkaaGreatDoorMq3
import Derived.Test.YtlcffhadobhfkaaGreatDoorMq5
import Derived.Test.YtlcffhadobhfkaaGreatDoorMq6
import Derived.Test.YtlcffhadobhfkaaGreatDoorMq9
import Derived.Test.YtlcffhadobhfkaaGreatDoorMq11
import Derived.Test.YtlcffhadobhfkaaGreatDoorMq18
import Derived.Test.YtlcffhadobhfkaaGreatDoorMq1
import Derived.Test.YtlcffhadobhfkaaGreatDoorMq2
import Derived.Test.YtlcffhadobhfkaaGreatDoorMq19
import Derived.Test.YtlcffhadobhfkaaGreatDoorMq20
import Derived.Test.YtlcffhadobhfkaaGreatDoorMq17
import Derived.Test.YtlcffhadobhfkaaGreatDoorMq23
import Derived.Test.YtlcffhadobhfkaaGreatDoorMq37
import Derived.Test.YtlcffhadobhfkaaGreatDoorMq22
import Derived.Test.YtlcffhadobhfkaaGreatDoorMq34
import Derived.Test.YtlcffhadobhfkaaGreatDoorMq39
import Derived.Test.YtlcffhadobhfkaaGreatDoorMq47
import Derived.Test.YtlcffhadobhfkaaGreatDoorMq45
import Derived.Test.YtlcffhadobhfkaaGreatDoorMq43
import Derived.Test.YtlcffhadobhfkaaGreatDoorMq36
import Derived.Test.YtlcffhadobhfkaaGreatDoorMq48
import Derived.Test.YtlcffhadobhfkaaGreatDoorMq87
import Derived.Test.YtlcffhadobhfkaaGreatDoorMq88
import Derived.Test.YtlcffhadobhfkaaGreatDoorMq85
import Derived.Test.YtlcffhadobhfkaaGreatDoorMq89
import Derived.Test.YtlcffhadobhfkaaGreatDoorMq90
import Derived.Test.YtlcffhadobhfkaaGreatDoorMq94
import Derived.Test.YtlcffhadobhfkaaGreatDoorMq95
namespace Go.Proofs.YtlcffhadobhfkaaGreatDoor
open Go.RowKit Go.Maps
namespace Ve
theorem bs_bv {W : World} {v : Value} {O : List Bool} (h : BsAt W v O) : BvAt W v O:=by
  obtain ⟨a,c,rfl,h1⟩:=h
  refine ⟨a,c,rfl,fun hO=>?_⟩
  obtain ⟨g,rfl,h2⟩:=h1 hO
  exact ⟨g,0,rfl,fun j hj=>by rw [Nat.zero_add]; exact bwc_at h2 hj⟩
theorem capE_le (caps : List Bm) (i : Nat) : capE caps i <= 10:=by
  unfold capE
  split
  · omega
  · unfold capW
    rename_i m _
    have h1:=pathErr_err m.1.data.toList
    have h2:=verErr_err (vb m)
    repeat' split
    all_goals omega
theorem chkP_le (caps : List Bm) : (chkP caps).1 <= 10:=codeE_le (capE_le caps)
theorem bF_le (Q : List Raw) (L : List Ent) (caps : List Bm) : (bF Q L caps).1 <= 10:=by
  unfold bF
  split
  · exact chkP_le _
  · exact chk_le _ _
theorem tF_le (Q : List Raw) (L : List Ent) (roots caps : List Bm) : (tF Q L roots caps).1 <= 10:=by
  unfold tF
  split
  · exact chkG_le _ _ _
  · exact bF_le _ _ _
theorem bF_same {Q Q' : List Raw} {L : List Ent} (h : Q.map (fun r=>r.1) = Q'.map (fun r=>r.1)) (caps : List Bm) : bF Q L caps = bF Q' L caps:=by unfold bF; rw [chk_same h]
theorem bdL_same {Q Q' : List Raw} {L : List Ent} (h : Q.map (fun r=>r.1) = Q'.map (fun r=>r.1)) (caps : List Bm) : bdL Q L caps = bdL Q' L caps:=by unfold bdL; rw [reqQ_same h]
theorem bO_same {Q Q' : List Raw} {L : List Ent} (h : Q.map (fun r=>r.1) = Q'.map (fun r=>r.1)) (caps : List Bm) : bO Q L caps = bO Q' L caps:=by unfold bO; rw [bF_same h,bdL_same h]
theorem tF_same {Q Q' : List Raw} {L : List Ent} (h : Q.map (fun r=>r.1) = Q'.map (fun r=>r.1)) (roots caps : List Bm) : tF Q L roots caps = tF Q' L roots caps:=by unfold tF; rw [bF_same h,chkG_same h]
theorem tX_same {Q Q' : List Raw} {L : List Ent} (h : Q.map (fun r=>r.1) = Q'.map (fun r=>r.1)) (roots caps : List Bm) : tX Q L roots caps = tX Q' L roots caps:=by unfold tX toL; rw [tF_same h,bdL_same h]
theorem bO_len (Q : List Raw) (L : List Ent) (caps : List Bm) : (bO Q L caps).length <= L.length:=by
  unfold bO
  split
  · rw [bdL_len]; exact Nat.le_refl _
  · simp
theorem tX_len (Q : List Raw) (L : List Ent) (roots caps : List Bm) : (tX Q L roots caps).length <= L.length:=by
  unfold tX toL
  split
  · have:=selO_leW (kpN (univ L) (bdL Q L caps) roots) (univ L)
    rw [univ_len] at this; exact this
  · simp
set_option maxRecDepth 100000 in
set_option maxHeartbeats 8000000 in
theorem dt_main (Q0 : List Raw) (L : List Ent) (roots caps : List Bm) (v u s : Value) (A : Nat → Addr) (m : Int) (w : World) (S : Te w A m) (N : Er.Sen w A) (I : Ixs w v Q0 L) (em : EmI Q0 L) (hr : MsAt w u roots) (her : Em u roots) (hc : MsAt w s caps) (hec : Em s caps) (hok : okI L = true) (h30 : L.length ≤ 30) (hrk : okLN 15 roots = true) (hck : okLN 15 caps = true) :
    Calls Tryz.prog 11 #[v,u,s] w fun e w'=>e = .returned (.bool true) /\ Below w.heap.size w w':=by
  obtain ⟨a0,c0,hv0,-⟩:=id I.es
  subst hv0
  obtain ⟨ra,rc,hu0,-⟩:=id hr
  subst hu0
  obtain ⟨ca,cc,hs0,-⟩:=id hc
  subst hs0
  have hr15 : roots.length <= 15:=(okLN_iff hrk).1
  have hc15 : caps.length <= 15:=(okLN_iff hck).1
  have hq30 : (Q0.length : Int) <= 30:=by rw [I.ln]; omega
  have HZR:=hid (show ∀ x,x ∈ roots -> x.2.size < 999999 from fun x hx=>by have:=((okLN_iff hrk).2 x hx).2; omega)
  have HZC:=hid (show shortL caps from fun x hx=>by have:=(okLN_iff hck).2 x hx; exact ⟨by omega,by omega⟩)
  have HIN:=hid (low_any A m w S)
  have HLO:=hid (fun W (h : Below w.heap.size w W)=>longI_any Q0 L _ W (I.below h))
  rw [if_pos hok] at HLO
  have HLM:=hid (fun W (h : Below w.heap.size w W)=>longN_any 15 (by decide) roots _ W (hr.below h))
  rw [if_pos hrk] at HLM
  have HLC:=hid (fun W (h : Below w.heap.size w W)=>longN_any 15 (by decide) caps _ W (hc.below h))
  rw [if_pos hck] at HLC
  have HOW:=hid (fun W (h : Below w.heap.size w W)=>ownI_any Q0 L _ W (by omega) (I.below h) em (okI_fits hok))
  have HOM:=hid (fun W (h : Below w.heap.size w W)=>ownM_any _ roots W (by omega) (hr.below h) her)
  have HOC:=hid (fun W (h : Below w.heap.size w W)=>ownM_any _ caps W (by omega) (hc.below h) hec)
  have HS:=hid (fun W (h : Below w.heap.size w W)=>S.below h)
  have HN:=hid (fun W (h : Below w.heap.size w W)=>N.below h)
  have HSH:=hid (okI_sh hok)
  have HU0:=hid (univ_eq I)
  have HCF:=hid (fun W (h : Below w.heap.size w W)=>capsF_any caps _ W (by omega) HZC.out (hc.below h))
  have HBO:=hid (fun W (h : Below w.heap.size w W)=>bdo_all Q0 L caps _ _ W (by omega) (by omega) HZC.out (okI_sh hok) (I.below h) (hc.below h))
  have HTO:=hid (fun W (h : Below w.heap.size w W)=>too_all Q0 L roots caps _ _ _ W (by omega) (by omega) (by omega) HZC.out HZR.out (okI_sh hok) (I.below h) (hr.below h) (hc.below h))
  clear S N I em hok hr her hrk hc hec hck
  go_enter Tryz.func11,Tryz.ntmps11
  go_wp2_with fail
  refine HIN.out.mono ?_
  rintro e w1 ⟨rfl,hb⟩
  have HB1:=hid hb
  clear hb
  go_wp2_with fail
  refine (HLO.out w1 HB1.out).mono ?_
  rintro e w2 ⟨rfl,hb⟩
  have HB2:=hid (HB1.out.trans (hb.mono HB1.out.size))
  clear hb
  go_wp2_with fail
  refine (HLM.out w2 HB2.out).mono ?_
  rintro e w2' ⟨rfl,rfl⟩
  go_wp2_with fail
  refine (HLC.out w2' HB2.out).mono ?_
  rintro e w2'' ⟨rfl,rfl⟩
  go_wp2_with fail
  refine (HOW.out w2'' HB2.out).mono ?_
  rintro e w3 ⟨ou,Q,rfl,hO,hb⟩
  have HB3':=hid (HB2.out.trans (hb.mono HB2.out.size))
  have HIX:=hid (fun W (h : Below w3.heap.size w3 W)=>hO.ixs.below h)
  have HKQ:=hid ((univ_eq hO.ixs).trans HU0.out.symm)
  obtain ⟨oa,oc,hou,-⟩:=id hO.ixs.es
  subst hou
  have HBW:=hid (fun W (h : Below w3.heap.size w3 W)=>HB3'.out.trans (h.mono HB3'.out.size))
  have HP1:=hid (fun W a (h : Below w3.heap.size w3 W) (hR : MsAt W a caps)=>caps_any caps a A m W (by omega) HZC.out (HS.out _ (HBW.out _ h)) hR)
  have HP2:=hid (fun W a (h : Below w3.heap.size w3 W) (hR : MsAt W a caps)=>bad_all Q L caps _ a A m W (by omega) (by omega) HSH.out HZC.out (HS.out _ (HBW.out _ h)) (HIX.out _ h) hR)
  rw [bO_same HKQ.out,bF_same HKQ.out] at HP2
  have HP3:=hid (fun W a b (h : Below w3.heap.size w3 W) (hR : MsAt W a roots) (hC : MsAt W b caps)=>to_all Q L roots caps _ a b A m W (by omega) (by omega) (by omega) HSH.out HZC.out (HS.out _ (HBW.out _ h)) (HIX.out _ h) hR hC)
  rw [tX_same HKQ.out,tF_same HKQ.out] at HP3
  have HF1:=hid (fun W y (h : Below w3.heap.size w3 W) (he : ErrAt W A y (chkP caps).1 (chkP caps).2)=>faulted2_any A y (chkP caps) W (HN.out _ (HBW.out _ h)) he (chkP_le _))
  have HF2:=hid (fun W y (h : Below w3.heap.size w3 W) (he : ErrAt W A y (bF Q0 L caps).1 (bF Q0 L caps).2)=>faulted2_any A y (bF Q0 L caps) W (HN.out _ (HBW.out _ h)) he (bF_le _ _ _))
  have HF3:=hid (fun W y (h : Below w3.heap.size w3 W) (he : ErrAt W A y (tF Q0 L roots caps).1 (tF Q0 L roots caps).2)=>faulted2_any A y (tF Q0 L roots caps) W (HN.out _ (HBW.out _ h)) he (tF_le _ _ _ _))
  have hX1 : (bO Q0 L caps).length <= 1000000:=Nat.le_trans (bO_len _ _ _) (by omega)
  have HX2:=hid (show (tX Q0 L roots caps).length <= 1000000 from Nat.le_trans (tX_len _ _ _ _) (by omega))
  clear hb hO HLO HLM HLC HOW HIN HB1 HB2 HS HN HIX HKQ HU0 HSH HZC HZR
  generalize bO Q0 L caps = X1 at *
  generalize tX Q0 L roots caps = X2 at *
  obtain ⟨f1,hf1⟩ : ∃ f,f = chkP caps:=⟨_,rfl⟩
  rw [<- hf1] at HP1 HCF HF1
  obtain ⟨f2,hf2⟩ : ∃ f,f = bF Q0 L caps:=⟨_,rfl⟩
  rw [<- hf2] at HP2 HBO HF2
  obtain ⟨f3,hf3⟩ : ∃ f,f = tF Q0 L roots caps:=⟨_,rfl⟩
  rw [<- hf3] at HP3 HTO HF3
  clear hf1 hf2 hf3
  obtain ⟨a1,b1⟩:=f1
  obtain ⟨a2,b2⟩:=f2
  obtain ⟨a3,b3⟩:=f3
  unfold faultV at HCF HBO HTO HF1 HF2 HF3
  simp only at HP1 HP2 HP3 HCF HBO HTO HF1 HF2 HF3
  have HB3:=hid (Below.refl w3.heap.size w3)
  go_wp2_with fail
  refine (HOC.out w3 (HBW.out _ HB3.out)).mono ?_
  rintro e w4 ⟨u4,rfl,ho,-,hb⟩
  have HB4:=hid (HB3.out.trans (hb.mono HB3.out.size))
  have HR4:=hid (mr_own ho hb)
  obtain ⟨a4,c4,hu4⟩:=HR4.out.sl
  subst hu4
  clear ho hb
  go_wp2_with fail
  refine (HP1.out w4 _ HB4.out HR4.out.ms).mono ?_
  rintro e w5 ⟨y5,rfl,he,hb⟩
  have HB5:=hid (HB4.out.trans (hb.mono HB4.out.size))
  have HE5:=hid he
  clear he hb HB4 HR4 HP1
  go_wp2_with fail
  refine (HCF.out w5 (HBW.out _ HB5.out)).mono ?_
  rintro e w6 ⟨rfl,hb⟩
  have HB6:=hid (HB5.out.trans (hb.mono HB5.out.size))
  have HE6:=hid (HE5.out.below hb)
  clear hb HB5 HE5 HCF
  go_wp2_with fail
  refine (HF1.out w6 y5 HB6.out HE6.out).mono ?_
  rintro e w7 ⟨rfl,hb⟩
  have HB7:=hid (HB6.out.trans (hb.mono HB6.out.size))
  clear hb HB6 HE6 HF1
  go_wp2_with fail
  refine (HOC.out w7 (HBW.out _ HB7.out)).mono ?_
  rintro e w8 ⟨u8,rfl,ho,-,hb⟩
  have HB8:=hid (HB7.out.trans (hb.mono HB7.out.size))
  have HR8:=hid (mr_own ho hb)
  obtain ⟨a8,c8,hu8⟩:=HR8.out.sl
  subst hu8
  clear ho hb HB7
  go_wp2_with fail
  refine (HP2.out w8 _ HB8.out HR8.out.ms).mono ?_
  rintro e w9 ⟨xa,xc,y9,rfl,hm,he,hb⟩
  have HB9:=hid (HB8.out.trans (hb.mono HB8.out.size))
  have HX9:=hid (bs_bv hm)
  have HE9:=hid he
  clear hm he hb HB8 HR8 HP2
  go_wp2_with fail
  refine (HBO.out w9 (HBW.out _ HB9.out)).mono ?_
  rintro e w10 ⟨wa,wc,rfl,hm,hb⟩
  have HB10:=hid (HB9.out.trans (hb.mono HB9.out.size))
  have HX10:=hid (HX9.out.below hb)
  have HW10:=hid hm
  have HE10:=hid (HE9.out.below hb)
  clear hm hb HB9 HX9 HE9 HBO
  have HA11:=hid ((Below.refl w10.heap.size w10).alloc (Nat.le_refl _) (.cells #[.int .i64 (a2 : Nat),.int .i64 (atOf b2)] 36))
  have HB11:=hid (HB10.out.trans (HA11.out.mono HB10.out.size))
  have HG11:=hid (heap_new w10 (.cells #[.int .i64 (a2 : Nat),.int .i64 (atOf b2)] 36))
  have HX11:=hid (HX10.out.below HA11.out)
  have HW11:=hid (HW10.out.below HA11.out)
  have HE11:=hid (HE10.out.below HA11.out)
  have HSG:=hid (show w3.heap.size <= w10.heap.size from HB10.out.size)
  generalize hf1 : ((a2 : Nat) : Int) = F1 at *
  generalize atOf b2 = F2 at *
  go_wp2_with fail
  generalize w10.alloc (.cells #[.int .i64 F1,.int .i64 F2] 36) = w11 at *
  generalize w10.heap.size = g at *
  clear HA11 HE10 HW10 HX10 HB10
  refine (HF2.out w11 y9 HB11.out HE11.out).mono ?_
  rintro e w12 ⟨rfl,hb⟩
  have HB12:=hid (HB11.out.trans (hb.mono HB11.out.size))
  have HG12:=hid ((hb.block _ (lt_of_blk HG11.out)).trans HG11.out)
  have HX12:=hid (fun W (h : Below w12.heap.size w12 W)=>(HX11.out.below hb).below h)
  have HW12:=hid (fun W (h : Below w12.heap.size w12 W)=>(HW11.out.below hb).below h)
  clear hb HE11 HX11 HW11 HG11 HB11 HF2 hf1
  go_wp2_with fail
  go_loopw [13] (fun iv wr=>∃ i : Nat,i <= X1.length /\ iv = .int .i64 i /\ Hid (Below w12.heap.size w12 wr)) (fun iv _=>X1.length - (intOf iv).toNat)
  case atStart=>exact ⟨0,Nat.zero_le _,rfl,hid (Below.refl _ _)⟩
  case round=>
    obtain ⟨i,hi,rfl,HBi⟩:=hrel
    by_cases hlt : i < X1.length
    · have hiI : (i : Int) < (X1.length : Int):=by omega
      have hii : (0 : Int) <= (i : Int):=by omega
      have HLI:=hid hlt
      obtain ⟨xb,xo,hxa,e1'⟩:=(HX12.out _ HBi.out).cells hlt
      subst hxa
      obtain ⟨wb,wo,hwa,e2'⟩:=(HW12.out _ HBi.out).cells hlt
      subst hwa
      obtain ⟨b,e1,e2⟩ : ∃ b : Bool,wr.cell? ⟨xb,xo + i,none⟩ = some (.bool b) /\ wr.cell? ⟨wb,wo + i,none⟩ = some (.bool b):=⟨_,e1',e2'⟩
      clear hlt e1' e2'
      cases b
      all_goals
        go_wp2_with fail
        go_quiet (fail)
        go_wp2_with fail
        go_roundw
        case rel=>first | exact ⟨i + 1,HLI.out,nr_idx i,hid (HBi.out.trans ((below_drawn _ _).mono HBi.out.size))⟩ | exact ⟨i + 1,HLI.out,nx_idx HLI.out hX1,hid (HBi.out.trans ((below_drawn _ _).mono HBi.out.size))⟩
        case measure=>first | exact nr_meas HLI.out | exact nx_meas HLI.out hX1
    · have hiI : ¬ (i : Int) < (X1.length : Int):=by omega
      have HB13:=hid (HB12.out.trans (HBi.out.mono HB12.out.size))
      have HG13:=hid ((HBi.out.block _ (lt_of_blk HG12.out)).trans HG12.out)
      clear hlt HB12 HG12 HBi HX12 HW12
      go_wp2_with fail
      refine (HOM.out wr (HBW.out _ HB13.out)).mono ?_
      rintro e w14 ⟨u14,rfl,ho,-,hb⟩
      have HB14:=hid (HB13.out.trans (hb.mono HB13.out.size))
      have HG14:=hid ((hb.block _ (lt_of_blk HG13.out)).trans HG13.out)
      have HR14:=hid (mr_own ho hb)
      obtain ⟨a14,c14,hu14⟩:=HR14.out.sl
      subst hu14
      clear ho hb HB13 HG13
      go_wp2_with fail
      refine (HOC.out w14 (HBW.out _ HB14.out)).mono ?_
      rintro e w15 ⟨u15,rfl,ho,-,hb⟩
      have HB15:=hid (HB14.out.trans (hb.mono HB14.out.size))
      have HG15:=hid ((hb.block _ (lt_of_blk HG14.out)).trans HG14.out)
      have HR15:=hid (mr_own ho hb)
      have HQ15:=hid (HR14.out.ms.below hb)
      obtain ⟨a15,c15,hu15⟩:=HR15.out.sl
      subst hu15
      clear ho hb HB14 HG14 HR14
      go_wp2_with fail
      refine (HP3.out w15 _ _ HB15.out HQ15.out HR15.out.ms).mono ?_
      rintro e w16 ⟨ya,yc,y16,rfl,hm,he⟩
      have HB16:=hid (HB15.out.trans (hm.1.mono HB15.out.size))
      have HG16:=hid ((hm.1.block _ (lt_of_blk HG15.out)).trans HG15.out)
      have HM16:=hid hm.ms
      have HE16:=hid he
      clear hm he HB15 HG15 HR15 HQ15 HP3
      go_wp2_with fail
      refine (HTO.out w16 (HBW.out _ HB16.out)).mono ?_
      rintro e w17 ⟨za,zc,rfl,hm,hb⟩
      have HB17:=hid (HB16.out.trans (hb.mono HB16.out.size))
      have HG17:=hid ((hb.block _ (lt_of_blk HG16.out)).trans HG16.out)
      have HM17:=hid (HM16.out.below hb)
      have HZ17:=hid hm
      have HE17:=hid (HE16.out.below hb)
      clear hm hb HB16 HG16 HM16 HE16 HTO
      obtain ⟨q0,q1,qf⟩:=box_two HG17.out
      have HB18:=hid (put2_below (x:=.int .i64 ((a3 : Nat) : Int)) (y:=.int .i64 (atOf b3)) HB17.out HSG.out)
      have HG18:=hid (box_put2D (.int .i64 ((a3 : Nat) : Int)) (.int .i64 (atOf b3)) HG17.out)
      have HE18:=hid (HE17.out.set2D HG17.out (.int .i64 ((a3 : Nat) : Int)) (.int .i64 (atOf b3)))
      have HM18:=hid (ms_put2D (x:=.int .i64 ((a3 : Nat) : Int)) (y:=.int .i64 (atOf b3)) HM17.out HG17.out)
      have HZ18:=hid (ms_put2D (x:=.int .i64 ((a3 : Nat) : Int)) (y:=.int .i64 (atOf b3)) HZ17.out HG17.out)
      go_wp2_with fail
      generalize (w17.setCell ⟨g,0,none⟩ (.int .i64 ((a3 : Nat) : Int))).setCell ⟨g,1,none⟩ (.int .i64 (atOf b3)) = w18 at *
      clear HB17 HG17 HM17 HZ17 HE17 q0 q1 qf
      generalize hf : ((a3 : Nat) : Int) = G1 at *
      generalize atOf b3 = G2 at *
      refine (HF3.out w18 y16 HB18.out HE18.out).mono ?_
      rintro e w19 ⟨rfl,hb⟩
      have HB19:=hid (HB18.out.trans (hb.mono HB18.out.size))
      have HSA:=hid (sameM_any X2 _ _ w19 HX2.out (HM18.out.below hb) (HZ18.out.below hb))
      clear hb HB18 HG18 HM18 HZ18 HE18 HF3 hf
      go_wp2_with fail
      refine HSA.out.mono ?_
      rintro e w20 ⟨rfl,hb⟩
      have HBe:=hid (HBW.out _ (HB19.out.trans (hb.mono HB19.out.size)))
      clear hb
      go_wp2_with fail
      go_ret
      exact ⟨rfl,HBe.out⟩
set_option maxRecDepth 100000 in
set_option maxHeartbeats 2000000 in
theorem dt_long1 (Q0 : List Raw) (L : List Ent) (roots caps : List Bm) (v u s : Value) (A : Nat -> Addr) (m : Int) (w : World) (S : Te w A m) (I : Ixs w v Q0 L) (hr : MsAt w u roots) (hc : MsAt w s caps) (hok : okI L = false) :
    Calls Tryz.prog 11 #[v,u,s] w fun e w'=>e = .returned (.bool true) /\ Below w.heap.size w w':=by
  obtain ⟨a0,c0,hv0,-⟩:=id I.es
  subst hv0
  obtain ⟨ra,rc,hu0,-⟩:=id hr
  subst hu0
  obtain ⟨ca,cc,hs0,-⟩:=id hc
  subst hs0
  have HIN:=hid (low_any A m w S)
  have HLO:=hid (fun W (h : Below w.heap.size w W)=>longI_any Q0 L _ W (I.below h))
  rw [hok] at HLO
  clear S I hok hr hc
  go_enter Tryz.func11,Tryz.ntmps11
  go_wp2_with fail
  refine HIN.out.mono ?_
  rintro e w1 ⟨rfl,hb⟩
  have HB1:=hid hb
  clear hb
  go_wp2_with fail
  refine (HLO.out w1 HB1.out).mono ?_
  rintro e w2 ⟨rfl,hb⟩
  have HB2:=hid (HB1.out.trans (hb.mono HB1.out.size))
  clear hb
  go_wp2_with fail
  go_ret
  exact ⟨rfl,HB2.out⟩
set_option maxRecDepth 100000 in
set_option maxHeartbeats 2000000 in
theorem dt_long2 (Q0 : List Raw) (L : List Ent) (roots caps : List Bm) (v u s : Value) (A : Nat -> Addr) (m : Int) (w : World) (S : Te w A m) (I : Ixs w v Q0 L) (hr : MsAt w u roots) (hc : MsAt w s caps) (hok : okI L = true) (h30 : ¬ L.length <= 30) :
    Calls Tryz.prog 11 #[v,u,s] w fun e w'=>e = .returned (.bool true) /\ Below w.heap.size w w':=by
  obtain ⟨a0,c0,hv0,-⟩:=id I.es
  subst hv0
  obtain ⟨ra,rc,hu0,-⟩:=id hr
  subst hu0
  obtain ⟨ca,cc,hs0,-⟩:=id hc
  subst hs0
  have hq30 : (30 : Int) < (Q0.length : Int):=by rw [I.ln]; omega
  have HIN:=hid (low_any A m w S)
  have HLO:=hid (fun W (h : Below w.heap.size w W)=>longI_any Q0 L _ W (I.below h))
  rw [if_pos hok] at HLO
  clear S I hok hr hc
  go_enter Tryz.func11,Tryz.ntmps11
  go_wp2_with fail
  refine HIN.out.mono ?_
  rintro e w1 ⟨rfl,hb⟩
  have HB1:=hid hb
  clear hb
  go_wp2_with fail
  refine (HLO.out w1 HB1.out).mono ?_
  rintro e w2 ⟨rfl,hb⟩
  have HB2:=hid (HB1.out.trans (hb.mono HB1.out.size))
  clear hb
  go_wp2_with fail
  go_ret
  exact ⟨rfl,HB2.out⟩
set_option maxRecDepth 100000 in
set_option maxHeartbeats 2000000 in
theorem dt_long3 (Q0 : List Raw) (L : List Ent) (roots caps : List Bm) (v u s : Value) (A : Nat -> Addr) (m : Int) (w : World) (S : Te w A m) (I : Ixs w v Q0 L) (hr : MsAt w u roots) (hc : MsAt w s caps) (h30 : L.length <= 30) (a b : Int) (hok : okI L = true) (hx : (if okLN 15 roots then (0 : Int) else 1) = a) (hy : (if okLN 15 caps then (0 : Int) else 1) = b) (hxy : (a = 1 /\ b = 0) \/ (a = 0 /\ b = 1) \/ (a = 1 /\ b = 1)) :
    Calls Tryz.prog 11 #[v,u,s] w fun e w'=>e = .returned (.bool true) /\ Below w.heap.size w w':=by
  obtain ⟨a0,c0,hv0,-⟩:=id I.es
  subst hv0
  obtain ⟨ra,rc,hu0,-⟩:=id hr
  subst hu0
  obtain ⟨ca,cc,hs0,-⟩:=id hc
  subst hs0
  have hq30 : (Q0.length : Int) <= 30:=by rw [I.ln]; omega
  have HIN:=hid (low_any A m w S)
  have HLO:=hid (fun W (h : Below w.heap.size w W)=>longI_any Q0 L _ W (I.below h))
  rw [if_pos hok] at HLO
  have HLM:=hid (fun W (h : Below w.heap.size w W)=>longN_any 15 (by decide) roots _ W (hr.below h))
  rw [hx] at HLM
  have HLS:=hid (fun W (h : Below w.heap.size w W)=>longN_any 15 (by decide) caps _ W (hc.below h))
  rw [hy] at HLS
  clear S I hok hr hc hx hy
  rcases hxy with ⟨rfl,rfl⟩ | ⟨rfl,rfl⟩ | ⟨rfl,rfl⟩
  all_goals
    go_enter Tryz.func11,Tryz.ntmps11
    go_wp2_with fail
    refine HIN.out.mono ?_
    rintro e w1 ⟨rfl,hb⟩
    have HB1:=hid hb
    clear hb
    go_wp2_with fail
    refine (HLO.out w1 HB1.out).mono ?_
    rintro e w2 ⟨rfl,hb⟩
    have HB2:=hid (HB1.out.trans (hb.mono HB1.out.size))
    clear hb
    go_wp2_with fail
    refine (HLM.out w2 HB2.out).mono ?_
    rintro e w2a ⟨rfl,rfl⟩
    go_wp2_with fail
    refine (HLS.out w2a HB2.out).mono ?_
    rintro e w2b ⟨rfl,rfl⟩
    go_wp2_with fail
    go_ret
    exact ⟨rfl,HB2.out⟩
theorem downTells_any (Q0 : List Raw) (L : List Ent) (roots caps : List Bm) (v u s : Value) (A : Nat -> Addr) (m : Int) (w : World) (S : Te w A m) (N : Er.Sen w A) (I : Ixs w v Q0 L) (em : EmI Q0 L) (hr : MsAt w u roots) (her : Em u roots) (hc : MsAt w s caps) (hec : Em s caps) :
    Calls Tryz.prog 11 #[v,u,s] w fun e w'=>e = .returned (.bool true) /\ Below w.heap.size w w':=by
  cases hok : okI L with
  | false=>exact dt_long1 Q0 L roots caps v u s A m w S I hr hc hok
  | true=>
    by_cases h30 : L.length <= 30
    · cases hrk : okLN 15 roots <;> cases hck : okLN 15 caps
      case true.true=>exact dt_main Q0 L roots caps v u s A m w S N I em hr her hc hec hok h30 hrk hck
      all_goals exact dt_long3 Q0 L roots caps v u s A m w S I hr hc h30 _ _ hok rfl rfl (by rw [hrk,hck]; decide)
    · exact dt_long2 Q0 L roots caps v u s A m w S I hr hc hok h30
end Ve
end Go.Proofs.YtlcffhadobhfkaaGreatDoor
