/-
  TtA TtG
-/
import Derived.Test.YtlcffhadobhfkaaGreatDoorMq3
import Derived.Test.YtlcffhadobhfkaaGreatDoorMq5
import Derived.Test.YtlcffhadobhfkaaGreatDoorMq6
import Derived.Test.YtlcffhadobhfkaaGreatDoorMq9
import Derived.Test.YtlcffhadobhfkaaGreatDoorMq11
import Derived.Test.YtlcffhadobhfkaaGreatDoorMq2
import Derived.Test.YtlcffhadobhfkaaGreatDoorMq18
import Derived.Test.YtlcffhadobhfkaaGreatDoorMq19
import Derived.Test.YtlcffhadobhfkaaGreatDoorMq20
import Derived.Test.YtlcffhadobhfkaaGreatDoorMq17
import Derived.Test.YtlcffhadobhfkaaGreatDoorMq23
import Derived.Test.YtlcffhadobhfkaaGreatDoorMq1
import Derived.Test.YtlcffhadobhfkaaGreatDoorMq37
import Derived.Test.YtlcffhadobhfkaaGreatDoorMq22
import Derived.Test.YtlcffhadobhfkaaGreatDoorMq34
import Derived.Test.YtlcffhadobhfkaaGreatDoorMq39
import Derived.Test.YtlcffhadobhfkaaGreatDoorMq47
import Derived.Test.YtlcffhadobhfkaaGreatDoorMq45
import Derived.Test.YtlcffhadobhfkaaGreatDoorMq43
import Derived.Test.YtlcffhadobhfkaaGreatDoorMq31
import Derived.Test.YtlcffhadobhfkaaGreatDoorMq36
import Derived.Test.YtlcffhadobhfkaaGreatDoorMq32
import Derived.Test.YtlcffhadobhfkaaGreatDoorMq40
import Derived.Test.YtlcffhadobhfkaaGreatDoorMq104
import Derived.Test.YtlcffhadobhfkaaGreatDoorMq105
import Derived.Test.YtlcffhadobhfkaaGreatDoorMq106
namespace Go.Proofs.YtlcffhadobhfkaaGreatDoor
open Go.RowKit Go.Maps
namespace Ve
theorem trF_le (Q : List Raw) (L : List Ent) (sel : List Bm) : (trF Q L sel).1 <= 10:=by
  by_cases h0 : (chkG Q L sel).1 = 0
  · by_cases h1 : bX Q L sel = sel
    · rw [trF_good h0 h1]; decide
    · rw [trF_other h0 h1]; decide
  · rw [trF_bad h0]; exact chkG_le _ _ _
set_option maxRecDepth 100000 in
set_option maxHeartbeats 8000000 in
theorem tt_main (Q0 : List Raw) (L : List Ent) (roots caps : List Bm) (v u s : Value) (A : Nat → Addr) (m : Int) (w : World) (S : Te w A m) (N : Er.Sen w A) (I : Ixs w v Q0 L) (em : EmI Q0 L) (hr : MsAt w u roots) (her : Em u roots) (hc : MsAt w s caps) (hec : Em s caps) (hok : okI L = true) (h30 : L.length ≤ 30) (hrk : okLN 15 roots = true) (hck : okLN 15 caps = true) :
    Calls Tryz.prog 14 #[v,u,s] w fun e w'=>e = .returned (.bool true) /\ Below w.heap.size w w':=by
  obtain ⟨a0,c0,hv0,-⟩:=id I.es
  subst hv0
  obtain ⟨ra,rc,hu0,-⟩:=id hr
  subst hu0
  obtain ⟨ca,cc,hs0,-⟩:=id hc
  subst hs0
  have hr15 : roots.length <= 15:=(okLN_iff hrk).1
  have hc15 : caps.length <= 15:=(okLN_iff hck).1
  have hq30 : (Q0.length : Int) <= 30:=by rw [I.ln]; omega
  have HIN:=hid (trimd_any A m w S)
  have HLO:=hid (fun W (h : Below w.heap.size w W)=>longI_any Q0 L _ W (I.below h))
  rw [if_pos hok] at HLO
  have HLM:=hid (fun W (h : Below w.heap.size w W)=>longN_any 15 (by decide) roots _ W (hr.below h))
  rw [if_pos hrk] at HLM
  have HLC:=hid (fun W (h : Below w.heap.size w W)=>longN_any 15 (by decide) caps _ W (hc.below h))
  rw [if_pos hck] at HLC
  have HOW:=hid (fun W (h : Below w.heap.size w W)=>ownI_any Q0 L _ W (by omega) (I.below h) em (okI_fits hok))
  have HOM:=hid (fun W (h : Below w.heap.size w W)=>ownM_any _ roots W (by omega) (hr.below h) her)
  have HOC:=hid (fun W (h : Below w.heap.size w W)=>ownM_any _ caps W (by omega) (hc.below h) hec)
  have HS:=hid (fun W (h : Below w.heap.size w W)=>S.below h)
  have HN:=hid (fun W (h : Below w.heap.size w W)=>N.below h)
  have HSH:=hid (okI_sh hok)
  have HU0:=hid (univ_eq I)
  have HRO:=hid (fun W (h : Below w.heap.size w W)=>ro_all Q0 L roots _ _ W (by omega) (by omega) (okI_sh hok) (I.below h) (hr.below h) her)
  have HBA:=hid (fun W (h : Below w.heap.size w W)=>bo_all Q0 L roots _ _ W (by omega) (by omega) (okI_sh hok) (I.below h) (hr.below h))
  have HBB:=hid (fun W (h : Below w.heap.size w W)=>bo_all Q0 L caps _ _ W (by omega) (by omega) (okI_sh hok) (I.below h) (hc.below h))
  clear S N I em hok hr her hrk hc hec hck
  go_enter Tryz.func14,Tryz.ntmps14
  go_wp2_with fail
  refine HIN.out.mono ?_
  rintro e w1 ⟨rfl,hb⟩
  have HB1:=hid hb
  clear hb
  go_wp2_with fail
  refine (HLO.out w1 HB1.out).mono ?_
  rintro e w2 ⟨rfl,hb⟩
  have HB2:=hid (HB1.out.trans (hb.mono HB1.out.size))
  clear hb
  go_wp2_with fail
  refine (HLM.out w2 HB2.out).mono ?_
  rintro e w2' ⟨rfl,rfl⟩
  go_wp2_with fail
  refine (HLC.out w2' HB2.out).mono ?_
  rintro e w2'' ⟨rfl,rfl⟩
  go_wp2_with fail
  refine (HOW.out w2'' HB2.out).mono ?_
  rintro e w3 ⟨ou,Q,rfl,hO,hb⟩
  have HB3':=hid (HB2.out.trans (hb.mono HB2.out.size))
  have HIX:=hid (fun W (h : Below w3.heap.size w3 W)=>hO.ixs.below h)
  have HKQ:=hid ((univ_eq hO.ixs).trans HU0.out.symm)
  obtain ⟨oa,oc,hou,-⟩:=id hO.ixs.es
  subst hou
  have HBW:=hid (fun W (h : Below w3.heap.size w3 W)=>HB3'.out.trans (h.mono HB3'.out.size))
  have HP1:=hid (fun W a (h : Below w3.heap.size w3 W) (hR : MsAt W a roots) (hE : Em a roots)=>roots_all Q L roots _ a A m W (by omega) (by omega) HSH.out (HS.out _ (HBW.out _ h)) (HIX.out _ h) hR hE)
  rw [trR_same HKQ.out,trF_same HKQ.out] at HP1
  have HP2:=hid (fun W a b (h : Below w3.heap.size w3 W) (hR : MsAt W a roots) (hC : MsAt W b caps)=>tsame_all Q L roots caps _ a b A m W (by omega) (by omega) (by omega) HSH.out (HS.out _ (HBW.out _ h)) (HIX.out _ h) hR hC)
  rw [smB_same HKQ.out,smF_same HKQ.out] at HP2
  have HF1:=hid (fun W y (h : Below w3.heap.size w3 W) (he : ErrAt W A y (trF Q0 L roots).1 (trF Q0 L roots).2)=>faulted2_any A y (trF Q0 L roots) W (HN.out _ (HBW.out _ h)) he (trF_le _ _ _))
  have HF2:=hid (fun (f : Nat × Option Nat) W y (h : Below w3.heap.size w3 W) (hf : f.1 <= 10) (he : ErrAt W A y f.1 f.2)=>faulted2_any A y f W (HN.out _ (HBW.out _ h)) he hf)
  have HX1:=hid (show (trR Q0 L roots).length <= 1000000 from Nat.le_trans (trR_len _ _ _) (by omega))
  have HXA:=hid (show (bX Q0 L roots).length <= 1000000 from Nat.le_trans bX_len (by omega))
  clear hb hO HLO HLM HLC HOW HIN HB1 HB2 HS HN HIX HKQ HU0 HSH
  generalize trR Q0 L roots = X1 at *
  obtain ⟨f1,hf1⟩ : ∃ f,f = trF Q0 L roots:=⟨_,rfl⟩
  rw [<- hf1] at HP1 HRO HF1
  clear hf1
  obtain ⟨a1,b1⟩:=f1
  unfold faultV at HRO HF1
  simp only at HP1 HRO HF1
  have HB3:=hid (Below.refl w3.heap.size w3)
  go_wp2_with fail
  refine (HOM.out w3 (HBW.out _ HB3.out)).mono ?_
  rintro e w4 ⟨u4,rfl,ho,-,hb⟩
  have HB4:=hid (HB3.out.trans (hb.mono HB3.out.size))
  have HR4:=hid (mr_own ho hb)
  obtain ⟨a4,c4,hu4⟩:=HR4.out.sl
  subst hu4
  clear ho hb
  go_wp2_with fail
  refine (HP1.out w4 _ HB4.out HR4.out.ms HR4.out.em).mono ?_
  rintro e w5 ⟨xa,xc,y5,rfl,hm,he⟩
  have HB5:=hid (HB4.out.trans (hm.1.mono HB4.out.size))
  have HX5:=hid hm.ms
  have HE5:=hid he
  clear hm he HB4 HR4 HP1
  go_wp2_with fail
  refine (HRO.out w5 (HBW.out _ HB5.out)).mono ?_
  rintro e w6 ⟨wa,wc,rfl,hm,hb⟩
  have HB6:=hid (HB5.out.trans (hb.mono HB5.out.size))
  have HX6:=hid (HX5.out.below hb)
  have HW6:=hid hm
  have HE6:=hid (HE5.out.below hb)
  clear hm hb HB5 HX5 HE5 HRO
  have HA7:=hid ((Below.refl w6.heap.size w6).alloc (Nat.le_refl _) (.cells #[.int .i64 (a1 : Nat),.int .i64 (atOf b1)] 36))
  have HB7:=hid (HB6.out.trans (HA7.out.mono HB6.out.size))
  have HG7:=hid (heap_new w6 (.cells #[.int .i64 (a1 : Nat),.int .i64 (atOf b1)] 36))
  have HX7:=hid (HX6.out.below HA7.out)
  have HW7:=hid (HW6.out.below HA7.out)
  have HE7:=hid (HE6.out.below HA7.out)
  have HSG:=hid (show w3.heap.size <= w6.heap.size from HB6.out.size)
  generalize hf1 : ((a1 : Nat) : Int) = F1 at *
  generalize atOf b1 = F2 at *
  go_wp2_with fail
  generalize w6.alloc (.cells #[.int .i64 F1,.int .i64 F2] 36) = w7 at *
  generalize w6.heap.size = g at *
  clear HA7 HE6 HW6 HX6 HB6
  refine (HF1.out w7 y5 HB7.out HE7.out).mono ?_
  rintro e w8 ⟨rfl,hb⟩
  have HB8:=hid (HB7.out.trans (hb.mono HB7.out.size))
  have HG8:=hid ((hb.block _ (lt_of_blk HG7.out)).trans HG7.out)
  have HSA:=hid (sameM_any X1 _ _ w8 HX1.out (HX7.out.below hb) (HW7.out.below hb))
  clear hb HE7 HX7 HW7 HG7 HB7 HF1 hf1
  go_wp2_with fail
  refine HSA.out.mono ?_
  rintro e w9 ⟨rfl,hb⟩
  have HB9:=hid (HB8.out.trans (hb.mono HB8.out.size))
  have HG9:=hid ((hb.block _ (lt_of_blk HG8.out)).trans HG8.out)
  clear hb HSA HB8 HG8
  go_wp2_with fail
  refine (HOM.out w9 (HBW.out _ HB9.out)).mono ?_
  rintro e w10 ⟨u10,rfl,ho,-,hb⟩
  have HB10:=hid (HB9.out.trans (hb.mono HB9.out.size))
  have HG10:=hid ((hb.block _ (lt_of_blk HG9.out)).trans HG9.out)
  have HR10:=hid (mr_own ho hb)
  obtain ⟨a10,c10,hu10⟩:=HR10.out.sl
  subst hu10
  clear ho hb HB9 HG9
  go_wp2_with fail
  refine (HOC.out w10 (HBW.out _ HB10.out)).mono ?_
  rintro e w11 ⟨u11,rfl,ho,-,hb⟩
  have HB11:=hid (HB10.out.trans (hb.mono HB10.out.size))
  have HG11:=hid ((hb.block _ (lt_of_blk HG10.out)).trans HG10.out)
  have HR11:=hid (mr_own ho hb)
  have HQ11:=hid (HR10.out.ms.below hb)
  obtain ⟨a11,c11,hu11⟩:=HR11.out.sl
  subst hu11
  clear ho hb HB10 HG10 HR10
  have HP3:=hid (HP2.out w11 _ _ HB11.out HQ11.out HR11.out.ms)
  clear HP2 HQ11 HR11
  by_cases hA : (chkG Q0 L roots).1 = 0
  · by_cases hB : (chkG Q0 L caps).1 = 0
    · rw [smF_b hA,rF_good hB] at HP3
      rw [rF_good hA,faultV0] at HBA
      rw [rF_good hB,faultV0] at HBB
      have HSM:=hid (smB_good hA hB)
      clear hA hB HF2
      generalize smB Q0 L roots caps = z at *
      generalize bX Q0 L roots = XA at *
      generalize bX Q0 L caps = XB at *
      go_wp2_with fail
      refine HP3.out.mono ?_
      rintro e w12 ⟨y12,rfl,he,hb⟩
      have he : y12 = .nilIface:=he
      subst he
      have HB12:=hid (HB11.out.trans (hb.mono HB11.out.size))
      have HG12:=hid ((hb.block _ (lt_of_blk HG11.out)).trans HG11.out)
      clear hb HB11 HG11 HP3
      go_wp2_with fail
      refine (HBA.out w12 (HBW.out _ HB12.out)).mono ?_
      rintro e w13 ⟨pa,pc,rfl,hm⟩
      have HB13:=hid (HB12.out.trans (hm.1.mono HB12.out.size))
      have HG13:=hid ((hm.1.block _ (lt_of_blk HG12.out)).trans HG12.out)
      have HM13:=hid hm.ms
      clear hm HB12 HG12 HBA
      obtain ⟨q0,q1,qf⟩:=box_two HG13.out
      have HB14:=hid (put2_below (x:=.int .i64 0) (y:=.int .i64 (-1)) HB13.out HSG.out)
      have HG14:=hid (box_put2D (.int .i64 0) (.int .i64 (-1)) HG13.out)
      have HM14:=hid (ms_put2D (x:=.int .i64 0) (y:=.int .i64 (-1)) HM13.out HG13.out)
      go_wp2_with fail
      generalize (w13.setCell ⟨g,0,none⟩ (.int .i64 0)).setCell ⟨g,1,none⟩ (.int .i64 (-1)) = w14 at *
      clear HB13 HG13 HM13 q0 q1 qf
      refine (HBB.out w14 (HBW.out _ HB14.out)).mono ?_
      rintro e w15 ⟨qa,qc,rfl,hm⟩
      have HA16:=hid ((Below.refl w15.heap.size w15).alloc (Nat.le_refl _) (.cells #[.int .i64 0,.int .i64 (-1)] 36))
      have HB16:=hid (HB14.out.trans ((hm.1.trans (HA16.out.mono hm.1.size)).mono HB14.out.size))
      have HG15:=hid ((hm.1.block _ (lt_of_blk HG14.out)).trans HG14.out)
      have HG16:=hid (heap_old w15 (.cells #[.int .i64 0,.int .i64 (-1)] 36) HG15.out)
      have HK16:=hid (heap_new w15 (.cells #[.int .i64 0,.int .i64 (-1)] 36))
      have HM16:=hid ((HM14.out.below hm.1).below HA16.out)
      have HQ16:=hid (hm.ms.below HA16.out)
      have hne : ¬ w15.heap.size = g:=Nat.ne_of_gt (lt_of_blk HG15.out)
      have hne2 : ¬ g = w15.heap.size:=Nat.ne_of_lt (lt_of_blk HG15.out)
      clear hm HB14 HG14 HG15 HM14 HBB
      obtain ⟨q0,q1,qf⟩:=box_two HG16.out
      obtain ⟨r0,r1,rf⟩:=box_two HK16.out
      have HB17:=hid (put2_below (x:=.int .i64 0) (y:=.int .i64 (-1)) HB16.out HSG.out)
      have HG17:=hid (box_put2D (.int .i64 0) (.int .i64 (-1)) HG16.out)
      have HM17:=hid (ms_put2D (x:=.int .i64 0) (y:=.int .i64 (-1)) HM16.out HG16.out)
      have HQ17:=hid (ms_put2D (x:=.int .i64 0) (y:=.int .i64 (-1)) HQ16.out HG16.out)
      go_wp2_with fail
      generalize ((w15.alloc (.cells #[.int .i64 0,.int .i64 (-1)] 36)).setCell ⟨g,0,none⟩ (.int .i64 0)).setCell ⟨g,1,none⟩ (.int .i64 (-1)) = w17 at *
      clear HB16 HG16 HM16 HQ16 HK16 q0 q1 qf r0 r1 rf
      have HSG2:=hid (sameG_any XA XB _ _ w17 HXA.out HM17.out HQ17.out)
      have HDE:=hid (show z = decide (XA = XB) by rw [Bool.eq_iff_iff,HSM.out,decide_eq_true_iff]; exact eq_comm)
      rw [<- HDE.out] at HSG2
      refine HSG2.out.mono ?_
      rintro e w18 ⟨rfl,hb⟩
      have HBe:=hid (HBW.out _ (HB17.out.trans (hb.mono HB17.out.size)))
      clear hb
      cases z
      all_goals
        go_wp2_with fail
        go_ret
        exact ⟨rfl,HBe.out⟩
    · rw [smF_b hA,rF_bad hB,smB_b hA hB] at HP3
      rw [rF_good hA,faultV0] at HBA
      rw [rF_bad hB] at HBB
      have HF3:=hid (fun W y h he=>HF2.out (chkG Q0 L caps) W y h (chkG_le _ _ _) he)
      obtain ⟨cb,ob,hco⟩ : ∃ cb ob,chkG Q0 L caps = (cb,ob):=⟨_,_,rfl⟩
      rw [hco] at HP3 HBB HF3 hB
      unfold faultV at HBB HF3
      simp only at HP3 HBB HF3 hB
      have hp1 : (0 : Int) < (cb : Int):=by omega
      have hp2 : ((cb : Int) == 0) = false:=by simp; omega
      have hp3 : ¬ (cb : Int) = 0:=by omega
      clear hA hB HF2 hco
      generalize bX Q0 L roots = XA at *
      generalize bX Q0 L caps = XB at *
      go_wp2_with fail
      refine HP3.out.mono ?_
      rintro e w12 ⟨y12,rfl,he,hb⟩
      have HE12:=hid he
      have HB12:=hid (HB11.out.trans (hb.mono HB11.out.size))
      have HG12:=hid ((hb.block _ (lt_of_blk HG11.out)).trans HG11.out)
      clear hb he HB11 HG11 HP3
      go_wp2_with fail
      refine (HBA.out w12 (HBW.out _ HB12.out)).mono ?_
      rintro e w13 ⟨pa,pc,rfl,hm⟩
      have HB13:=hid (HB12.out.trans (hm.1.mono HB12.out.size))
      have HG13:=hid ((hm.1.block _ (lt_of_blk HG12.out)).trans HG12.out)
      have HE13:=hid (HE12.out.below hm.1)
      clear hm HB12 HG12 HE12 HBA
      obtain ⟨q0,q1,qf⟩:=box_two HG13.out
      have HB14:=hid (put2_below (x:=.int .i64 0) (y:=.int .i64 (-1)) HB13.out HSG.out)
      have HG14:=hid (box_put2D (.int .i64 0) (.int .i64 (-1)) HG13.out)
      have HE14:=hid (HE13.out.set2D HG13.out (.int .i64 0) (.int .i64 (-1)))
      go_wp2_with fail
      generalize (w13.setCell ⟨g,0,none⟩ (.int .i64 0)).setCell ⟨g,1,none⟩ (.int .i64 (-1)) = w14 at *
      clear HB13 HG13 HE13 q0 q1 qf
      refine (HBB.out w14 (HBW.out _ HB14.out)).mono ?_
      rintro e w15 ⟨qa,qc,rfl,hm⟩
      have HA16:=hid ((Below.refl w15.heap.size w15).alloc (Nat.le_refl _) (.cells #[.int .i64 (cb : Int),.int .i64 (atOf ob)] 36))
      have HB16:=hid (HB14.out.trans ((hm.1.trans (HA16.out.mono hm.1.size)).mono HB14.out.size))
      have HG15:=hid ((hm.1.block _ (lt_of_blk HG14.out)).trans HG14.out)
      have HG16:=hid (heap_old w15 (.cells #[.int .i64 (cb : Int),.int .i64 (atOf ob)] 36) HG15.out)
      have HK16:=hid (heap_new w15 (.cells #[.int .i64 (cb : Int),.int .i64 (atOf ob)] 36))
      have HE16:=hid ((HE14.out.below hm.1).below HA16.out)
      have hne : ¬ w15.heap.size = g:=Nat.ne_of_gt (lt_of_blk HG15.out)
      have hne2 : ¬ g = w15.heap.size:=Nat.ne_of_lt (lt_of_blk HG15.out)
      clear hm HB14 HG14 HG15 HE14 HBB
      generalize hf : ((cb : Nat) : Int) = G1 at *
      generalize atOf ob = G2 at *
      obtain ⟨q0,q1,qf⟩:=box_two HG16.out
      obtain ⟨r0,r1,rf⟩:=box_two HK16.out
      have HB17:=hid (put2_below (x:=.int .i64 G1) (y:=.int .i64 G2) HB16.out HSG.out)
      have HG17:=hid (box_put2D (.int .i64 G1) (.int .i64 G2) HG16.out)
      have HE17:=hid (HE16.out.set2D HG16.out (.int .i64 G1) (.int .i64 G2))
      go_wp2_with fail
      generalize ((w15.alloc (.cells #[.int .i64 G1,.int .i64 G2] 36)).setCell ⟨g,0,none⟩ (.int .i64 G1)).setCell ⟨g,1,none⟩ (.int .i64 G2) = w17 at *
      clear HB16 HG16 HE16 HK16 q0 q1 qf r0 r1 rf
      refine (HF3.out w17 y12 HB17.out HE17.out).mono ?_
      rintro e w18 ⟨rfl,hb⟩
      have HBe:=hid (HBW.out _ (HB17.out.trans (hb.mono HB17.out.size)))
      clear hb
      go_wp2_with fail
      go_ret
      exact ⟨rfl,HBe.out⟩
  · rw [smF_a hA,smB_a hA] at HP3
    rw [rF_bad hA] at HBA
    have HF3:=hid (fun W y h he=>HF2.out (chkG Q0 L roots) W y h (chkG_le _ _ _) he)
    obtain ⟨cb,ob,hco⟩ : ∃ cb ob,chkG Q0 L roots = (cb,ob):=⟨_,_,rfl⟩
    rw [hco] at HP3 HBA HF3 hA
    obtain ⟨cd,od,hcd⟩ : ∃ cd od,rF Q0 L caps = (cd,od):=⟨_,_,rfl⟩
    rw [hcd] at HBB
    unfold faultV at HBA HBB HF3
    simp only at HP3 HBA HBB HF3 hA
    have hp1 : (0 : Int) < (cb : Int):=by omega
    have hp2 : ((cb : Int) == 0) = false:=by simp; omega
    have hp3 : ¬ (cb : Int) = 0:=by omega
    clear hA HF2 hco hcd
    generalize bX Q0 L roots = XA at *
    generalize bX Q0 L caps = XB at *
    go_wp2_with fail
    refine HP3.out.mono ?_
    rintro e w12 ⟨y12,rfl,he,hb⟩
    have HE12:=hid he
    have HB12:=hid (HB11.out.trans (hb.mono HB11.out.size))
    have HG12:=hid ((hb.block _ (lt_of_blk HG11.out)).trans HG11.out)
    clear hb he HB11 HG11 HP3
    go_wp2_with fail
    refine (HBA.out w12 (HBW.out _ HB12.out)).mono ?_
    rintro e w13 ⟨pa,pc,rfl,hm⟩
    have HB13:=hid (HB12.out.trans (hm.1.mono HB12.out.size))
    have HG13:=hid ((hm.1.block _ (lt_of_blk HG12.out)).trans HG12.out)
    have HE13:=hid (HE12.out.below hm.1)
    clear hm HB12 HG12 HE12 HBA
    generalize hf : ((cb : Nat) : Int) = G1 at *
    generalize atOf ob = G2 at *
    generalize ((cd : Nat) : Int) = D1 at *
    generalize atOf od = D2 at *
    obtain ⟨q0,q1,qf⟩:=box_two HG13.out
    have HB14:=hid (put2_below (x:=.int .i64 G1) (y:=.int .i64 G2) HB13.out HSG.out)
    have HG14:=hid (box_put2D (.int .i64 G1) (.int .i64 G2) HG13.out)
    have HE14:=hid (HE13.out.set2D HG13.out (.int .i64 G1) (.int .i64 G2))
    go_wp2_with fail
    generalize (w13.setCell ⟨g,0,none⟩ (.int .i64 G1)).setCell ⟨g,1,none⟩ (.int .i64 G2) = w14 at *
    clear HB13 HG13 HE13 q0 q1 qf
    refine (HBB.out w14 (HBW.out _ HB14.out)).mono ?_
    rintro e w15 ⟨qa,qc,rfl,hm⟩
    have HA16:=hid ((Below.refl w15.heap.size w15).alloc (Nat.le_refl _) (.cells #[.int .i64 D1,.int .i64 D2] 36))
    have HB16:=hid (HB14.out.trans ((hm.1.trans (HA16.out.mono hm.1.size)).mono HB14.out.size))
    have HG15:=hid ((hm.1.block _ (lt_of_blk HG14.out)).trans HG14.out)
    have HG16:=hid (heap_old w15 (.cells #[.int .i64 D1,.int .i64 D2] 36) HG15.out)
    have HE16:=hid ((HE14.out.below hm.1).below HA16.out)
    have hne : ¬ w15.heap.size = g:=Nat.ne_of_gt (lt_of_blk HG15.out)
    have hne2 : ¬ g = w15.heap.size:=Nat.ne_of_lt (lt_of_blk HG15.out)
    obtain ⟨q0,q1,qf⟩:=box_two HG16.out
    clear hm HB14 HG14 HG15 HE14 HBB
    go_wp2_with fail
    generalize w15.alloc (.cells #[.int .i64 D1,.int .i64 D2] 36) = w16 at *
    refine (HF3.out w16 y12 HB16.out HE16.out).mono ?_
    rintro e w18 ⟨rfl,hb⟩
    have HBe:=hid (HBW.out _ (HB16.out.trans (hb.mono HB16.out.size)))
    clear hb
    go_wp2_with fail
    go_ret
    exact ⟨rfl,HBe.out⟩
set_option maxRecDepth 100000 in
set_option maxHeartbeats 2000000 in
theorem tt_long1 (Q0 : List Raw) (L : List Ent) (roots caps : List Bm) (v u s : Value) (A : Nat -> Addr) (m : Int) (w : World) (S : Te w A m) (I : Ixs w v Q0 L) (hr : MsAt w u roots) (hc : MsAt w s caps) (hok : okI L = false) :
    Calls Tryz.prog 14 #[v,u,s] w fun e w'=>e = .returned (.bool true) /\ Below w.heap.size w w':=by
  obtain ⟨a0,c0,hv0,-⟩:=id I.es
  subst hv0
  obtain ⟨ra,rc,hu0,-⟩:=id hr
  subst hu0
  obtain ⟨ca,cc,hs0,-⟩:=id hc
  subst hs0
  have HIN:=hid (trimd_any A m w S)
  have HLO:=hid (fun W (h : Below w.heap.size w W)=>longI_any Q0 L _ W (I.below h))
  rw [hok] at HLO
  clear S I hok hr hc
  go_enter Tryz.func14,Tryz.ntmps14
  go_wp2_with fail
  refine HIN.out.mono ?_
  rintro e w1 ⟨rfl,hb⟩
  have HB1:=hid hb
  clear hb
  go_wp2_with fail
  refine (HLO.out w1 HB1.out).mono ?_
  rintro e w2 ⟨rfl,hb⟩
  have HB2:=hid (HB1.out.trans (hb.mono HB1.out.size))
  clear hb
  go_wp2_with fail
  go_ret
  exact ⟨rfl,HB2.out⟩
set_option maxRecDepth 100000 in
set_option maxHeartbeats 2000000 in
theorem tt_long2 (Q0 : List Raw) (L : List Ent) (roots caps : List Bm) (v u s : Value) (A : Nat -> Addr) (m : Int) (w : World) (S : Te w A m) (I : Ixs w v Q0 L) (hr : MsAt w u roots) (hc : MsAt w s caps) (hok : okI L = true) (h30 : ¬ L.length <= 30) :
    Calls Tryz.prog 14 #[v,u,s] w fun e w'=>e = .returned (.bool true) /\ Below w.heap.size w w':=by
  obtain ⟨a0,c0,hv0,-⟩:=id I.es
  subst hv0
  obtain ⟨ra,rc,hu0,-⟩:=id hr
  subst hu0
  obtain ⟨ca,cc,hs0,-⟩:=id hc
  subst hs0
  have hq30 : (30 : Int) < (Q0.length : Int):=by rw [I.ln]; omega
  have HIN:=hid (trimd_any A m w S)
  have HLO:=hid (fun W (h : Below w.heap.size w W)=>longI_any Q0 L _ W (I.below h))
  rw [if_pos hok] at HLO
  clear S I hok hr hc
  go_enter Tryz.func14,Tryz.ntmps14
  go_wp2_with fail
  refine HIN.out.mono ?_
  rintro e w1 ⟨rfl,hb⟩
  have HB1:=hid hb
  clear hb
  go_wp2_with fail
  refine (HLO.out w1 HB1.out).mono ?_
  rintro e w2 ⟨rfl,hb⟩
  have HB2:=hid (HB1.out.trans (hb.mono HB1.out.size))
  clear hb
  go_wp2_with fail
  go_ret
  exact ⟨rfl,HB2.out⟩
set_option maxRecDepth 100000 in
set_option maxHeartbeats 2000000 in
theorem tt_long3 (Q0 : List Raw) (L : List Ent) (roots caps : List Bm) (v u s : Value) (A : Nat -> Addr) (m : Int) (w : World) (S : Te w A m) (I : Ixs w v Q0 L) (hr : MsAt w u roots) (hc : MsAt w s caps) (h30 : L.length <= 30) (a b : Int) (hok : okI L = true) (hx : (if okLN 15 roots then (0 : Int) else 1) = a) (hy : (if okLN 15 caps then (0 : Int) else 1) = b) (hxy : (a = 1 /\ b = 0) \/ (a = 0 /\ b = 1) \/ (a = 1 /\ b = 1)) :
    Calls Tryz.prog 14 #[v,u,s] w fun e w'=>e = .returned (.bool true) /\ Below w.heap.size w w':=by
  obtain ⟨a0,c0,hv0,-⟩:=id I.es
  subst hv0
  obtain ⟨ra,rc,hu0,-⟩:=id hr
  subst hu0
  obtain ⟨ca,cc,hs0,-⟩:=id hc
  subst hs0
  have hq30 : (Q0.length : Int) <= 30:=by rw [I.ln]; omega
  have HIN:=hid (trimd_any A m w S)
  have HLO:=hid (fun W (h : Below w.heap.size w W)=>longI_any Q0 L _ W (I.below h))
  rw [if_pos hok] at HLO
  have HLM:=hid (fun W (h : Below w.heap.size w W)=>longN_any 15 (by decide) roots _ W (hr.below h))
  rw [hx] at HLM
  have HLS:=hid (fun W (h : Below w.heap.size w W)=>longN_any 15 (by decide) caps _ W (hc.below h))
  rw [hy] at HLS
  clear S I hok hr hc hx hy
  rcases hxy with ⟨rfl,rfl⟩ | ⟨rfl,rfl⟩ | ⟨rfl,rfl⟩
  all_goals
    go_enter Tryz.func14,Tryz.ntmps14
    go_wp2_with fail
    refine HIN.out.mono ?_
    rintro e w1 ⟨rfl,hb⟩
    have HB1:=hid hb
    clear hb
    go_wp2_with fail
    refine (HLO.out w1 HB1.out).mono ?_
    rintro e w2 ⟨rfl,hb⟩
    have HB2:=hid (HB1.out.trans (hb.mono HB1.out.size))
    clear hb
    go_wp2_with fail
    refine (HLM.out w2 HB2.out).mono ?_
    rintro e w2a ⟨rfl,rfl⟩
    go_wp2_with fail
    refine (HLS.out w2a HB2.out).mono ?_
    rintro e w2b ⟨rfl,rfl⟩
    go_wp2_with fail
    go_ret
    exact ⟨rfl,HB2.out⟩
theorem trimTells_any (Q0 : List Raw) (L : List Ent) (roots caps : List Bm) (v u s : Value) (A : Nat -> Addr) (m : Int) (w : World) (S : Te w A m) (N : Er.Sen w A) (I : Ixs w v Q0 L) (em : EmI Q0 L) (hr : MsAt w u roots) (her : Em u roots) (hc : MsAt w s caps) (hec : Em s caps) :
    Calls Tryz.prog 14 #[v,u,s] w fun e w'=>e = .returned (.bool true) /\ Below w.heap.size w w':=by
  cases hok : okI L with
  | false=>exact tt_long1 Q0 L roots caps v u s A m w S I hr hc hok
  | true=>
    by_cases h30 : L.length <= 30
    · cases hrk : okLN 15 roots <;> cases hck : okLN 15 caps
      case true.true=>exact tt_main Q0 L roots caps v u s A m w S N I em hr her hc hec hok h30 hrk hck
      all_goals exact tt_long3 Q0 L roots caps v u s A m w S I hr hc h30 _ _ hok rfl rfl (by rw [hrk,hck]; decide)
    · exact tt_long2 Q0 L roots caps v u s A m w S I hr hc hok h30
end Ve
end Go.Proofs.YtlcffhadobhfkaaGreatDoor
