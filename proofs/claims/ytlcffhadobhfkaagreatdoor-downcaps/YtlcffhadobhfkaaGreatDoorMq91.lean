/-
  DcA
-/
import Derived.Test.YtlcffhadobhfkaaGreatDoorMq3
import Derived.Test.YtlcffhadobhfkaaGreatDoorMq2
import Derived.Test.YtlcffhadobhfkaaGreatDoorMq5
import Derived.Test.YtlcffhadobhfkaaGreatDoorMq6
import Derived.Test.YtlcffhadobhfkaaGreatDoorMq9
import Derived.Test.YtlcffhadobhfkaaGreatDoorMq11
import Derived.Test.YtlcffhadobhfkaaGreatDoorMq18
import Derived.Test.YtlcffhadobhfkaaGreatDoorMq19
import Derived.Test.YtlcffhadobhfkaaGreatDoorMq20
import Derived.Test.YtlcffhadobhfkaaGreatDoorMq17
import Derived.Test.YtlcffhadobhfkaaGreatDoorMq23
import Derived.Test.YtlcffhadobhfkaaGreatDoorMq16
import Derived.Test.YtlcffhadobhfkaaGreatDoorMq28
import Derived.Test.YtlcffhadobhfkaaGreatDoorMq37
import Derived.Test.YtlcffhadobhfkaaGreatDoorMq38
import Derived.Test.YtlcffhadobhfkaaGreatDoorMq22
import Derived.Test.YtlcffhadobhfkaaGreatDoorMq34
import Derived.Test.YtlcffhadobhfkaaGreatDoorMq39
import Derived.Test.YtlcffhadobhfkaaGreatDoorMq45
import Derived.Test.YtlcffhadobhfkaaGreatDoorMq15
import Derived.Test.YtlcffhadobhfkaaGreatDoorMq43
import Derived.Test.YtlcffhadobhfkaaGreatDoorMq36
import Derived.Test.YtlcffhadobhfkaaGreatDoorMq32
import Derived.Test.YtlcffhadobhfkaaGreatDoorMq86
import Derived.Test.YtlcffhadobhfkaaGreatDoorMq48
import Derived.Test.YtlcffhadobhfkaaGreatDoorMq87
import Derived.Test.YtlcffhadobhfkaaGreatDoorMq88
import Derived.Test.YtlcffhadobhfkaaGreatDoorMq89
import Derived.Test.YtlcffhadobhfkaaGreatDoorMq90
namespace Go.Proofs.YtlcffhadobhfkaaGreatDoor
open Go.RowKit Go.Maps
namespace Ve
theorem any_next {X : List Bm} {k : Nat} (hk : k < X.length) (P : Bm -> Bool) : (X.take (k + 1)).any P = ((X.take k).any P || P X[k]):=by
  rw [List.take_succ_eq_append_getElem hk,List.any_append]; simp
theorem dcF_of {w : World} {v : Value} {Q : List Raw} {L : List Ent} {roots caps : List Bm} (I : Ixs w v Q L) (h : (tF Q L roots caps).1 = 0) : DcF Q L roots caps (toL Q L roots caps):=by
  obtain ⟨hb,hg⟩:=tF_ok h
  obtain ⟨k0,k1⟩:=bF_chk hb
  have tw:=toL_tw h
  have hok : (chkG Q L (toL Q L roots caps)).1 = 0:=chkG_in I k0 fun x hx=>(tw.good hx).1
  refine ⟨by have:=selO_len (kpN (univ L) (bdL Q L caps) roots) (univ L); rw [univ_len] at this; exact this,fun x hx=>(tw.good hx).1,hok,fun y hy=>tw.under (bX_in I hok hy),fun ha r hr=>?_,fun x hx=>?_⟩
  · refine hasM_iff.2 (tw.keeps hr ((rgt_of I hg).r r hr) fun hbd=>?_)
    obtain ⟨k,h1,h2⟩:=hbd
    have h3 : k ∈ rX Q L roots:=(rX_mem I hg).2 (rch_in hr h1)
    have h4:=List.any_eq_true.2 ⟨k,h3,h2⟩
    rw [ha] at h4; cases h4
  · obtain ⟨r,hr,h1,h2⟩:=tw.from hx
    refine List.any_eq_true.2 ⟨r,hr,?_⟩
    unfold frB
    rw [decide_eq_true h1,h2]; rfl
set_option maxRecDepth 100000 in
set_option maxHeartbeats 8000000 in
theorem dc_main (Q0 : List Raw) (L : List Ent) (roots caps : List Bm) (v u s : Value) (A : Nat → Addr) (m : Int) (w : World) (S : Te w A m) (I : Ixs w v Q0 L) (em : EmI Q0 L) (hr : MsAt w u roots) (her : Em u roots) (hc : MsAt w s caps) (hec : Em s caps) (hok : okI L = true) (hrk : okLN 15 roots = true) (hck : okLN 15 caps = true) :
    Calls Tryz.prog 10 #[v,u,s] w fun e w'=>e = .returned (.bool true) /\ Below w.heap.size w w':=by
  obtain ⟨a0,c0,hv0,-⟩:=id I.es
  subst hv0
  obtain ⟨ra,rc,hu0,-⟩:=id hr
  subst hu0
  obtain ⟨ca,cc,hs0,-⟩:=id hc
  subst hs0
  have hn101 : L.length <= 101:=by rcases (okI_iff hok).1 with h | h <;> omega
  have hr15 : roots.length <= 15:=(okLN_iff hrk).1
  have hc15 : caps.length <= 15:=(okLN_iff hck).1
  have HZR:=hid (show ∀ x,x ∈ roots -> x.2.size < 999999 from fun x hx=>by have:=((okLN_iff hrk).2 x hx).2; omega)
  have HZC:=hid (show shortL caps from fun x hx=>by have:=(okLN_iff hck).2 x hx; exact ⟨by omega,by omega⟩)
  have HIN:=hid (low_any A m w S)
  have HLO:=hid (fun W (h : Below w.heap.size w W)=>longI_any Q0 L _ W (I.below h))
  rw [if_pos hok] at HLO
  have HLM:=hid (fun W (h : Below w.heap.size w W)=>longN_any 15 (by decide) roots _ W (hr.below h))
  rw [if_pos hrk] at HLM
  have HLC:=hid (fun W (h : Below w.heap.size w W)=>longN_any 15 (by decide) caps _ W (hc.below h))
  rw [if_pos hck] at HLC
  have HOW:=hid (fun W (h : Below w.heap.size w W)=>ownI_any Q0 L _ W (by omega) (I.below h) em (okI_fits hok))
  have HOM:=hid (fun W (h : Below w.heap.size w W)=>ownM_any _ roots W (by omega) (hr.below h) her)
  have HOC:=hid (fun W (h : Below w.heap.size w W)=>ownM_any _ caps W (by omega) (hc.below h) hec)
  have HS:=hid (fun W (h : Below w.heap.size w W)=>S.below h)
  have HSH:=hid (okI_sh hok)
  have HR:=hid (fun W (h : Below w.heap.size w W)=>hr.below h)
  have HC:=hid (fun W (h : Below w.heap.size w W)=>hc.below h)
  clear S I em hok hr her hrk hc hec hck
  go_enter Tryz.func10,Tryz.ntmps10
  go_wp2_with fail
  refine HIN.out.mono ?_
  rintro e w1 ⟨rfl,hb⟩
  have HB1:=hid hb
  clear hb
  go_wp2_with fail
  refine (HLO.out w1 HB1.out).mono ?_
  rintro e w2 ⟨rfl,hb⟩
  have HB2:=hid (HB1.out.trans (hb.mono HB1.out.size))
  clear hb
  go_wp2_with fail
  refine (HLM.out w2 HB2.out).mono ?_
  rintro e w2' ⟨rfl,rfl⟩
  go_wp2_with fail
  refine (HLC.out w2' HB2.out).mono ?_
  rintro e w2'' ⟨rfl,rfl⟩
  go_wp2_with fail
  refine (HOW.out w2'' HB2.out).mono ?_
  rintro e w3 ⟨ou,Q,rfl,hO,hb⟩
  have HB3:=hid (HB2.out.trans (hb.mono HB2.out.size))
  have HIX:=hid (fun W (h : Below w3.heap.size w3 W)=>hO.ixs.below h)
  have HI3:=hid hO.ixs
  obtain ⟨oa,oc,hou,-⟩:=id hO.ixs.es
  subst hou
  have HBW:=hid (fun W (h : Below w3.heap.size w3 W)=>HB3.out.trans (h.mono HB3.out.size))
  clear hb hO HLO HLM HLC HOW HIN HB1 HB2
  have HB3':=HB3
  clear HB3
  have HB3:=hid (Below.refl w3.heap.size w3)
  go_wp2_with fail
  refine (HOM.out w3 (HBW.out _ HB3.out)).mono ?_
  rintro e w4 ⟨u4,rfl,ho,-,hb⟩
  have HB4:=hid (HB3.out.trans (hb.mono HB3.out.size))
  have HR4:=hid (mr_own ho hb)
  obtain ⟨a4,c4,hu4⟩:=HR4.out.sl
  subst hu4
  clear ho hb
  go_wp2_with fail
  refine (HOC.out w4 (HBW.out _ HB4.out)).mono ?_
  rintro e w5 ⟨u5,rfl,ho,-,hb⟩
  have HB5:=hid (HB4.out.trans (hb.mono HB4.out.size))
  have HR5:=hid (HR4.out.ms.below hb)
  have HC5:=hid (own_ms ho)
  obtain ⟨a5,c5,hu5⟩:=own_slN ho
  subst hu5
  clear ho hb HR4 HB4
  by_cases hca : (tF Q L roots caps).1 = 0
  rotate_left
  · have HBU:=hid (to_bad Q L roots caps _ _ _ A m w5 (by omega) (by omega) (by omega) HSH.out HZC.out (HS.out _ (HBW.out _ HB5.out)) (HIX.out _ HB5.out) HR5.out HC5.out hca)
    clear hca
    go_wp2_with fail
    refine HBU.out.mono ?_
    rintro e w6 ⟨T,ea,rfl,-,hb⟩
    have HB6:=hid (HBW.out _ (HB5.out.trans (hb.mono HB5.out.size)))
    clear hb HBU
    go_wp2_with fail
    go_ret
    exact ⟨rfl,HB6.out⟩
  have HCA:=hid hca
  have HDF:=hid (dcF_of HI3.out hca)
  have HTO:=hid (to_good Q L roots caps _ _ _ A m w5 (by omega) (by omega) (by omega) HSH.out HZC.out (HS.out _ (HBW.out _ HB5.out)) (HIX.out _ HB5.out) HR5.out HC5.out hca)
  clear hca
  generalize toL Q L roots caps = T at *
  go_wp2_with fail
  refine HTO.out.mono ?_
  rintro e w6 ⟨u6,rfl,ho,hb⟩
  have HB6:=hid (HB5.out.trans (hb.mono HB5.out.size))
  have HX6:=hid (own_ms ho)
  have HTL:=hid (show T.length <= 1000 by have:=HDF.out.ln; omega)
  obtain ⟨xa,xc,hu6⟩:=own_slN ho
  subst hu6
  clear ho hb HTO HR5 HC5 HB5
  have HBU:=hid (build_all Q L T _ _ A m w6 (by omega) (by have:=HTL.out; omega) HSH.out (HS.out _ (HBW.out _ HB6.out)) (HIX.out _ HB6.out) HX6.out)
  rw [rF_good HDF.out.ok] at HBU
  go_wp2_with fail
  refine HBU.out.mono ?_
  rintro e w7 ⟨ya,yc,y7,rfl,hm,he⟩
  have he : y7 = .nilIface:=he
  subst he
  have HB7:=hid (HB6.out.trans (hm.1.mono HB6.out.size))
  have HX7:=hid (HX6.out.below hm.1)
  have HY7:=hid hm.ms
  have HYL:=hid (show (bX Q L T).length <= 1000000 from Nat.le_trans bX_len (by omega))
  have HYZ:=hid (show ∀ y,y ∈ bX Q L T -> y.2.size < 999999 from fun y hy=>by
    obtain ⟨e,he,rfl⟩:=List.mem_map.1 (bX_univ y hy)
    exact (HSH.out e he).v)
  have HYC:=hid HDF.out.cp
  have HCAP:=hid (fun (y : Bm) W (h : Below w.heap.size w W) (hy : y.2.size < 999999)=>capped_any caps y _ W (by omega) (fun x hx=>(HZC.out x hx).2) hy (HC.out W h))
  clear hm HBU HB6 HX6
  generalize bX Q L T = Y at *
  go_wp2_with fail
  obtain ⟨GG,hGG⟩ : ∃ GG : World -> Prop,GG = fun W=>Gd w3 W (.slice ra roots.length rc) roots (.slice ca caps.length cc) caps (.slice xa T.length xc) T (.slice ya Y.length yc) Y:=⟨_,rfl⟩
  have FG:=hid (show ∀ W,GG W -> Gd w3 W (.slice ra roots.length rc) roots (.slice ca caps.length cc) caps (.slice xa T.length xc) T (.slice ya Y.length yc) Y from fun W h=>by rw [hGG] at h; exact h)
  have FB:=hid (show ∀ W W',GG W -> Below W.heap.size W W' -> GG W' from fun W W' h hb=>by rw [hGG] at h ⊢; exact h.below hb)
  have HG0:=hid (show GG w7 by rw [hGG]; exact ⟨HB7.out,HR.out _ (HBW.out _ HB7.out),HC.out _ (HBW.out _ HB7.out),HX7.out,HY7.out⟩)
  clear hGG HB7 HX7 HY7
  go_loopw [12] (fun iv wr=>∃ i : Nat,i <= Y.length /\ iv = .int .i64 i /\ Hid (GG wr)) (fun iv _=>Y.length - (intOf iv).toNat)
  case atStart=>exact ⟨0,Nat.zero_le _,rfl,HG0⟩
  case round=>
    obtain ⟨i,hi,rfl,HG⟩:=hrel
    by_cases hlt : i < Y.length
    · have hiI : (i : Int) < (Y.length : Int):=Int.ofNat_lt.2 hlt
      have hi0 : (0 : Int) <= (i : Int):=Int.natCast_nonneg _
      obtain ⟨xb,xo,hya,z0,z1⟩:=(FG.out _ HG.out).ys.cells hlt
      subst hya
      have HLI:=hid hlt
      obtain ⟨y,yy0,yy1,hyc,hyz⟩ : ∃ y : Bm,wr.cell? ⟨xb,xo + i * 2,none⟩ = some (.string y.1) /\ wr.cell? ⟨xb,xo + i * 2 + 1,none⟩ = some (.string y.2) /\ capB caps y = false /\ y.2.size < 999999:=⟨_,z0,z1,HYC.out _ (List.getElem_mem hlt),HYZ.out _ (List.getElem_mem hlt)⟩
      have HCX:=hid (HCAP.out y wr (HBW.out _ (FG.out _ HG.out).bl) hyz)
      rw [hyc] at HCX
      obtain ⟨y1,y2⟩:=y
      clear hlt hyc hyz z0 z1
      go_wp2_with fail
      refine HCX.out.mono ?_
      rintro e w8 ⟨rfl,hb⟩
      have HG8:=hid (FB.out _ _ HG.out hb)
      clear hb yy0 yy1
      go_wp2_with fail
      go_roundw
      case rel=>first | exact ⟨i + 1,HLI.out,nr_idx i,HG8⟩ | exact ⟨i + 1,HLI.out,nx_idx HLI.out HYL.out,HG8⟩
      case measure=>first | exact nr_meas HLI.out | exact nx_meas HLI.out HYL.out
    · have hiI : ¬ (i : Int) < (Y.length : Int) := by omega
      have HGD:=hid (FG.out _ HG.out)
      clear hlt HYZ HYC HG0
      go_wp2_with fail
      refine (HOM.out wr (HBW.out _ HGD.out.bl)).mono ?_
      rintro e w8 ⟨u8,rfl,ho,-,hb⟩
      have HB8:=hid (HGD.out.bl.trans (hb.mono HGD.out.bl.size))
      have HX8:=hid (HGD.out.xs.below hb)
      have HR8:=hid (own_ms ho)
      obtain ⟨a8,c8,hu8⟩:=own_slN ho
      subst hu8
      have HGX:=hid (tF_ok HCA.out).2
      clear ho hb HG HGD
      have HRE:=hid (reach_all Q L roots _ _ A m w8 (by omega) (by omega) HSH.out (HS.out _ (HBW.out _ HB8.out)) (HIX.out _ HB8.out) HR8.out)
      rw [rF_good HGX.out] at HRE
      have HRL:=hid (show (rX Q L roots).length <= 1000000 from Nat.le_trans rX_len (by omega))
      have HRZ:=hid (show ∀ y,y ∈ rX Q L roots -> y.2.size < 999999 from fun y hy=>by
        obtain ⟨e,he,rfl⟩:=List.mem_map.1 (rX_in hy).2
        exact (HSH.out e he).v)
      have HKE:=hid HDF.out.ke
      have HFR:=hid HDF.out.fr
      have HTZ:=hid (show ∀ x,x ∈ T -> x.2.size < 999999 from fun x hx=>by
        obtain ⟨e,he,rfl⟩:=List.mem_map.1 (HDF.out.un x hx)
        exact (HSH.out e he).v)
      clear HDF
      generalize rX Q L roots = RX at *
      go_wp2_with fail
      refine HRE.out.mono ?_
      rintro e w9 ⟨za,zc,y9,rfl,hm,he,hb⟩
      have he : y9 = .nilIface:=he
      subst he
      have HB9:=hid (HB8.out.trans (hb.mono HB8.out.size))
      have HX9:=hid (HX8.out.below hb)
      have HZ9:=hid hm
      clear hm hb HRE HX8 HR8 HB8 FG FB
      go_wp2_with fail
      obtain ⟨GG,hGG⟩ : ∃ GG : World -> Prop,GG = fun W=>Gd w3 W (.slice ra roots.length rc) roots (.slice ca caps.length cc) caps (.slice xa T.length xc) T (.slice za RX.length zc) RX:=⟨_,rfl⟩
      have FG:=hid (show ∀ W,GG W -> Gd w3 W (.slice ra roots.length rc) roots (.slice ca caps.length cc) caps (.slice xa T.length xc) T (.slice za RX.length zc) RX from fun W h=>by rw [hGG] at h; exact h)
      have FB:=hid (show ∀ W W',GG W -> Below W.heap.size W W' -> GG W' from fun W W' h hb=>by rw [hGG] at h ⊢; exact h.below hb)
      have HG0:=hid (show GG w9 by rw [hGG]; exact ⟨HB9.out,HR.out _ (HBW.out _ HB9.out),HC.out _ (HBW.out _ HB9.out),HX9.out,HZ9.out⟩)
      clear hGG HB9 HX9 HZ9
      go_loopw [15,16] (fun av iv wr=>∃ i : Nat,i <= RX.length /\ iv = .int .i64 i /\ av = .bool ((RX.take i).any (capB caps)) /\ Hid (GG wr)) (fun _ iv _=>RX.length - (intOf iv).toNat)
      case atStart=>exact ⟨0,Nat.zero_le _,rfl,rfl,HG0⟩
      case round=>
        obtain ⟨i2,hi2,rfl,rfl,HG⟩:=hrel
        by_cases hlt : i2 < RX.length
        · have hiI2 : (i2 : Int) < (RX.length : Int):=Int.ofNat_lt.2 hlt
          have hi02 : (0 : Int) <= (i2 : Int):=Int.natCast_nonneg _
          obtain ⟨xb,xo,hya,z0,z1⟩:=(FG.out _ HG.out).ys.cells hlt
          subst hya
          have HLI:=hid hlt
          obtain ⟨y,yy0,yy1,hyz,hnx⟩ : ∃ y : Bm,wr.cell? ⟨xb,xo + i2 * 2,none⟩ = some (.string y.1) /\ wr.cell? ⟨xb,xo + i2 * 2 + 1,none⟩ = some (.string y.2) /\ y.2.size < 999999 /\ (RX.take (i2 + 1)).any (capB caps) = ((RX.take i2).any (capB caps) || capB caps y):=⟨_,z0,z1,HRZ.out _ (List.getElem_mem hlt),any_next hlt _⟩
          have HCX:=hid (HCAP.out y wr (HBW.out _ (FG.out _ HG.out).bl) hyz)
          have HNX:=hid hnx
          generalize (RX.take i2).any (capB caps) = cur at *
          generalize capB caps y = d at *
          obtain ⟨y1,y2⟩:=y
          clear hlt hyz z0 z1 hnx
          cases cur
          · go_wp2_with fail
            refine HCX.out.mono ?_
            rintro e w10 ⟨rfl,hb⟩
            have HG8:=hid (FB.out _ _ HG.out hb)
            clear hb yy0 yy1
            go_wp2_with fail
            go_roundw
            case rel=>first | exact ⟨i2 + 1,HLI.out,nr_idx i2,by first | exact (congrArg Value.bool HNX.out).symm | (rw [HNX.out]; rfl),HG8⟩ | exact ⟨i2 + 1,HLI.out,nx_idx HLI.out HRL.out,by first | exact (congrArg Value.bool HNX.out).symm | (rw [HNX.out]; rfl),HG8⟩
            case measure=>first | exact nr_meas HLI.out | exact nx_meas HLI.out HRL.out
          · go_wp2_with fail
            refine HCX.out.mono ?_
            rintro e w10 ⟨rfl,hb⟩
            have HG8:=hid (FB.out _ _ HG.out hb)
            clear hb yy0 yy1
            go_wp2_with fail
            go_roundw
            case rel=>first | exact ⟨i2 + 1,HLI.out,nr_idx i2,by first | exact (congrArg Value.bool HNX.out).symm | (rw [HNX.out]; rfl),HG8⟩ | exact ⟨i2 + 1,HLI.out,nx_idx HLI.out HRL.out,by first | exact (congrArg Value.bool HNX.out).symm | (rw [HNX.out]; rfl),HG8⟩
            case measure=>first | exact nr_meas HLI.out | exact nx_meas HLI.out HRL.out
        · have hiI2 : ¬ (i2 : Int) < (RX.length : Int) := by omega
          have hie : i2 = RX.length:=by omega
          subst hie
          rw [List.take_length]
          clear hlt HG0 hiI hi
          generalize RX.any (capB caps) = any0 at *
          go_wp2_with fail
          have hgd:=modGuard
          go_loopw [18] (fun iv wr=>∃ i : Nat,i <= roots.length /\ iv = .int .i64 i /\ Hid (GG wr)) (fun iv _=>roots.length - (intOf iv).toNat)
          case atStart=>exact ⟨0,Nat.zero_le _,rfl,HG⟩
          case round=>
            obtain ⟨i3,hi3,rfl,HG3⟩:=hrel
            by_cases hlt : i3 < roots.length
            · have hiI3 : (i3 : Int) < (roots.length : Int):=Int.ofNat_lt.2 hlt
              have hi03 : (0 : Int) <= (i3 : Int):=Int.natCast_nonneg _
              have HLI3:=hid hlt
              obtain ⟨rb,ro,hra,-,-⟩:=(FG.out _ HG3.out).rs.cells hlt
              subst hra
              obtain ⟨r,hrc,hke⟩ : ∃ r : Bm,(∀ W,GG W -> W.cell? ⟨rb,ro + i3 * 2,none⟩ = some (.string r.1) /\ W.cell? ⟨rb,ro + i3 * 2 + 1,none⟩ = some (.string r.2)) /\ (any0 = false -> hasM T r = true):=⟨_,fun W h=>ms_atJ (FG.out _ h).rs hlt,fun h=>HKE.out h _ (List.getElem_mem hlt)⟩
              have HRC:=hid hrc
              have HKR:=hid hke
              clear hlt hrc hke
              go_wp2_with fail
              go_loopw [19,20] (fun bv kv wr=>∃ k : Nat,k <= T.length /\ kv = .int .i64 k /\ bv = .bool (hasM (T.take k) r) /\ Hid (GG wr)) (fun _ kv _=>T.length - (intOf kv).toNat)
              case atStart=>exact ⟨0,Nat.zero_le _,rfl,by rw [hasM_nil],HG3⟩
              case round=>
                obtain ⟨k1,hk1,rfl,rfl,HG1⟩:=hrel
                by_cases hlk : k1 < T.length
                · have hkI : (k1 : Int) < (T.length : Int):=Int.ofNat_lt.2 hlk
                  have hk0 : (0 : Int) <= (k1 : Int):=Int.natCast_nonneg _
                  obtain ⟨xb,xo,hxa,x0',x1'⟩:=(FG.out _ HG1.out).xs.cells hlk
                  subst hxa
                  obtain ⟨z0,z1⟩:=HRC.out _ HG1.out
                  obtain ⟨x,x0,x1,hnx⟩ : ∃ x : Bm,wr.cell? ⟨xb,xo + k1 * 2,none⟩ = some (.string x.1) /\ wr.cell? ⟨xb,xo + k1 * 2 + 1,none⟩ = some (.string x.2) /\ hasM (T.take (k1 + 1)) r = (hasM (T.take k1) r || eqM x r):=⟨_,x0',x1',hasM_next hlk r⟩
                  have HCU:=hid hnx
                  have HLK:=hid hlk
                  have hXl : T.length <= 1000000:=by have:=HTL.out; omega
                  clear hlk hnx x0' x1'
                  have heq:=fun W=>eqM_run x r W
                  generalize hasM (T.take k1) r = cur at *
                  generalize eqM x r = d at *
                  cases cur with
                  | true=>
                    go_wp2_with fail
                    go_quiet (fail)
                    go_wp2_with fail
                    go_roundw
                    case rel=>first | exact ⟨k1 + 1,HLK.out,nr_idx k1,by first | exact (congrArg Value.bool HCU.out).symm | (rw [HCU.out]; rfl),hid (FB.out _ _ HG1.out (below_drawn _ _))⟩ | exact ⟨k1 + 1,HLK.out,nx_idx HLK.out hXl,by first | exact (congrArg Value.bool HCU.out).symm | (rw [HCU.out]; rfl),hid (FB.out _ _ HG1.out (below_drawn _ _))⟩
                    case measure=>first | exact nr_meas HLK.out | exact nx_meas HLK.out hXl
                  | false=>
                    go_wp2_with fail
                    go_quiet (fail)
                    go_wp2_with fail
                    go_roundw
                    case rel=>first | exact ⟨k1 + 1,HLK.out,nr_idx k1,by first | exact (congrArg Value.bool HCU.out).symm | (rw [HCU.out]; rfl),hid (FB.out _ _ HG1.out (below_drawn _ _))⟩ | exact ⟨k1 + 1,HLK.out,nx_idx HLK.out hXl,by first | exact (congrArg Value.bool HCU.out).symm | (rw [HCU.out]; rfl),hid (FB.out _ _ HG1.out (below_drawn _ _))⟩
                    case measure=>first | exact nr_meas HLK.out | exact nx_meas HLK.out hXl
                · have hkI : ¬ (k1 : Int) < (T.length : Int):=by omega
                  have hke : k1 = T.length:=by omega
                  subst hke
                  rw [List.take_length]
                  clear hlk
                  generalize hasM T r = hin at *
                  cases any0 with
                  | true=>
                    go_wp2_with fail
                    go_roundw
                    case rel=>first | exact ⟨i3 + 1,HLI3.out,nr_idx i3,HG1⟩ | exact ⟨i3 + 1,HLI3.out,nx_idx HLI3.out (by omega),HG1⟩
                    case measure=>first | exact nr_meas HLI3.out | exact nx_meas HLI3.out (by omega)
                  | false=>
                    have hh:=HKR.out rfl
                    subst hh
                    go_wp2_with fail
                    go_roundw
                    case rel=>first | exact ⟨i3 + 1,HLI3.out,nr_idx i3,HG1⟩ | exact ⟨i3 + 1,HLI3.out,nx_idx HLI3.out (by omega),HG1⟩
                    case measure=>first | exact nr_meas HLI3.out | exact nx_meas HLI3.out (by omega)
            · have hiI3 : ¬ (i3 : Int) < (roots.length : Int) := by omega
              clear hlt HG
              go_wp2_with fail
              go_loopw [21] (fun iv wr=>∃ i : Nat,i <= T.length /\ iv = .int .i64 i /\ Hid (GG wr)) (fun iv _=>T.length - (intOf iv).toNat)
              case atStart=>exact ⟨0,Nat.zero_le _,rfl,HG3⟩
              case round=>
                obtain ⟨i4,hi4,rfl,HG4⟩:=hrel
                by_cases hlt : i4 < T.length
                · have hiI4 : (i4 : Int) < (T.length : Int):=Int.ofNat_lt.2 hlt
                  have hi04 : (0 : Int) <= (i4 : Int):=Int.natCast_nonneg _
                  have HLI4:=hid hlt
                  obtain ⟨xb,xo,hxa,-,-⟩:=(FG.out _ HG4.out).xs.cells hlt
                  subst hxa
                  obtain ⟨x,hxc,hfr,hxz⟩ : ∃ x : Bm,(∀ W,GG W -> W.cell? ⟨xb,xo + i4 * 2,none⟩ = some (.string x.1) /\ W.cell? ⟨xb,xo + i4 * 2 + 1,none⟩ = some (.string x.2)) /\ roots.any (frB x) = true /\ x.2.size < 999999:=⟨_,fun W h=>ms_atJ (FG.out _ h).xs hlt,HFR.out _ (List.getElem_mem hlt),HTZ.out _ (List.getElem_mem hlt)⟩
                  have HXC:=hid hxc
                  have HFX:=hid hfr
                  clear hlt hxc hfr
                  obtain ⟨x1,x2⟩:=x
                  go_wp2_with fail
                  go_loopw [22,23] (fun bv kv wr=>∃ k : Nat,k <= roots.length /\ kv = .int .i64 k /\ bv = .bool ((roots.take k).any (frB (x1,x2))) /\ Hid (GG wr)) (fun _ kv _=>roots.length - (intOf kv).toNat)
                  case atStart=>exact ⟨0,Nat.zero_le _,rfl,rfl,HG4⟩
                  case round=>
                    obtain ⟨k1,hk1,rfl,rfl,HG1⟩:=hrel
                    by_cases hlk : k1 < roots.length
                    · have hkI : (k1 : Int) < (roots.length : Int):=Int.ofNat_lt.2 hlk
                      have hk0 : (0 : Int) <= (k1 : Int):=Int.natCast_nonneg _
                      obtain ⟨rb,ro,hra,-,-⟩:=(FG.out _ HG1.out).rs.cells hlk
                      subst hra
                      obtain ⟨r,hrc,hnx,hrz⟩ : ∃ r : Bm,(∀ W,GG W -> W.cell? ⟨rb,ro + k1 * 2,none⟩ = some (.string r.1) /\ W.cell? ⟨rb,ro + k1 * 2 + 1,none⟩ = some (.string r.2)) /\ (roots.take (k1 + 1)).any (frB (x1,x2)) = ((roots.take k1).any (frB (x1,x2)) || frB (x1,x2) r) /\ r.2.size < 999999:=⟨_,fun W h=>ms_atJ (FG.out _ h).rs hlk,any_next hlk _,HZR.out _ (List.getElem_mem hlk)⟩
                      obtain ⟨r1,r2⟩:=r
                      have HCU:=hid hnx
                      have HRC:=hid hrc
                      have HLK:=hid hlk
                      have HL:=hid (fun W=>isLess_any r2 x2 W hrz hxz)
                      obtain ⟨pe,hpe,hpd⟩ : ∃ pe : Bool,(r1.toList == x1.toList) = pe /\ decide (r1 = x1) = pe:=by
                        by_cases h : r1 = x1
                        · subst h; exact ⟨true,str_refl r1,decide_eq_true rfl⟩
                        · exact ⟨false,str_ne h,decide_eq_false h⟩
                      have HFB:=hid (show frB (x1,x2) (r1,r2) = (pe && !lessB r2.data.toList x2.data.toList) by unfold frB; rw [<- hpd])
                      rw [HFB.out] at HCU
                      generalize (roots.take k1).any (frB (x1,x2)) = cur at *
                      generalize lessB r2.data.toList x2.data.toList = more at *
                      clear hlk hnx hrc hpd HFB hrz
                      obtain ⟨s0,s1⟩:=HRC.out _ HG1.out
                      obtain ⟨t0,t1⟩:=HXC.out _ HG1.out
                      have HTT:=hid (fun W' (hW : Below wr.heap.size wr W')=>(show (fun W'=>W'.cell? ⟨rb,ro + k1 * 2,none⟩ = some (.string r1) /\ W'.cell? ⟨rb,ro + k1 * 2 + 1,none⟩ = some (.string r2) /\ W'.cell? ⟨xb,xo + i4 * 2,none⟩ = some (.string x1) /\ W'.cell? ⟨xb,xo + i4 * 2 + 1,none⟩ = some (.string x2) /\ Hid (Below wr.heap.size wr W')) W' from ⟨cell_below hW s0,cell_below hW s1,cell_below hW t0,cell_below hW t1,hid hW⟩))
                      go_wp2_with fail
                      go_region_held (fun W'=>W'.cell? ⟨rb,ro + k1 * 2,none⟩ = some (.string r1) /\ W'.cell? ⟨rb,ro + k1 * 2 + 1,none⟩ = some (.string r2) /\ W'.cell? ⟨xb,xo + i4 * 2,none⟩ = some (.string x1) /\ W'.cell? ⟨xb,xo + i4 * 2 + 1,none⟩ = some (.string x2) /\ Hid (Below wr.heap.size wr W')) (first | exact HTT.out _ HRa.out | exact HTT.out _ (below_drawn _ 1)) (first
                        | (go_at_call 49; refine (HL.out _).mono ?_; rintro e w' ⟨rfl,hb⟩; have HRa:=hid ((below_drawn wr 1).trans (hb.mono (Nat.le_refl _))); clear hb))
                      all_goals
                        have HGa:=hid (FB.out _ _ HG1.out HRa.out)
                        clear s0 s1 t0 t1
                        obtain ⟨s0,s1⟩:=HRC.out _ HGa.out
                        obtain ⟨t0,t1⟩:=HXC.out _ HGa.out
                        cases cur <;> cases pe <;> cases more
                        all_goals
                          go_wp2_with fail
                          go_quiet (fail)
                          go_wp2_with fail
                          go_roundw
                          case rel=>first | exact ⟨k1 + 1,HLK.out,nr_idx k1,by first | exact (congrArg Value.bool HCU.out).symm | (rw [HCU.out]; rfl),hid (FB.out _ _ HGa.out (below_drawn _ _))⟩ | exact ⟨k1 + 1,HLK.out,nx_idx HLK.out (by omega),by first | exact (congrArg Value.bool HCU.out).symm | (rw [HCU.out]; rfl),hid (FB.out _ _ HGa.out (below_drawn _ _))⟩
                          case measure=>first | exact nr_meas HLK.out | exact nx_meas HLK.out (by omega)
                    · have hkI : ¬ (k1 : Int) < (roots.length : Int):=by omega
                      have hke : k1 = roots.length:=by omega
                      subst hke
                      rw [List.take_length,HFX.out]
                      clear hlk
                      go_wp2_with fail
                      go_roundw
                      case rel=>first | exact ⟨i4 + 1,HLI4.out,nr_idx i4,HG1⟩ | exact ⟨i4 + 1,HLI4.out,nx_idx HLI4.out (by have:=HTL.out; omega),HG1⟩
                      case measure=>first | exact nr_meas HLI4.out | exact nx_meas HLI4.out (by have:=HTL.out; omega)
                · have hiI4 : ¬ (i4 : Int) < (T.length : Int):=by omega
                  have HE:=hid (HBW.out _ (FG.out _ HG4.out).bl)
                  clear hlt
                  go_wp2_with fail
                  go_ret
                  exact ⟨rfl,HE.out⟩
set_option maxRecDepth 100000 in
set_option maxHeartbeats 2000000 in
theorem dc_long1 (Q0 : List Raw) (L : List Ent) (roots caps : List Bm) (v u s : Value) (A : Nat -> Addr) (m : Int) (w : World) (S : Te w A m) (I : Ixs w v Q0 L) (hr : MsAt w u roots) (hc : MsAt w s caps) (hok : okI L = false) :
    Calls Tryz.prog 10 #[v,u,s] w fun e w'=>e = .returned (.bool true) /\ Below w.heap.size w w':=by
  obtain ⟨a0,c0,hv0,-⟩:=id I.es
  subst hv0
  obtain ⟨ra,rc,hu0,-⟩:=id hr
  subst hu0
  obtain ⟨ca,cc,hs0,-⟩:=id hc
  subst hs0
  have HIN:=hid (low_any A m w S)
  have HLO:=hid (fun W (h : Below w.heap.size w W)=>longI_any Q0 L _ W (I.below h))
  rw [hok] at HLO
  clear S I hok hr hc
  go_enter Tryz.func10,Tryz.ntmps10
  go_wp2_with fail
  refine HIN.out.mono ?_
  rintro e w1 ⟨rfl,hb⟩
  have HB1:=hid hb
  clear hb
  go_wp2_with fail
  refine (HLO.out w1 HB1.out).mono ?_
  rintro e w2 ⟨rfl,hb⟩
  have HB2:=hid (HB1.out.trans (hb.mono HB1.out.size))
  clear hb
  go_wp2_with fail
  go_ret
  exact ⟨rfl,HB2.out⟩
set_option maxRecDepth 100000 in
set_option maxHeartbeats 2000000 in
theorem dc_long2 (Q0 : List Raw) (L : List Ent) (roots caps : List Bm) (v u s : Value) (A : Nat -> Addr) (m : Int) (w : World) (S : Te w A m) (I : Ixs w v Q0 L) (hr : MsAt w u roots) (hc : MsAt w s caps) (a b : Int) (hok : okI L = true) (hx : (if okLN 15 roots then (0 : Int) else 1) = a) (hy : (if okLN 15 caps then (0 : Int) else 1) = b) (hxy : (a = 1 /\ b = 0) \/ (a = 0 /\ b = 1) \/ (a = 1 /\ b = 1)) :
    Calls Tryz.prog 10 #[v,u,s] w fun e w'=>e = .returned (.bool true) /\ Below w.heap.size w w':=by
  obtain ⟨a0,c0,hv0,-⟩:=id I.es
  subst hv0
  obtain ⟨ra,rc,hu0,-⟩:=id hr
  subst hu0
  obtain ⟨ca,cc,hs0,-⟩:=id hc
  subst hs0
  have HIN:=hid (low_any A m w S)
  have HLO:=hid (fun W (h : Below w.heap.size w W)=>longI_any Q0 L _ W (I.below h))
  rw [if_pos hok] at HLO
  have HLM:=hid (fun W (h : Below w.heap.size w W)=>longN_any 15 (by decide) roots _ W (hr.below h))
  rw [hx] at HLM
  have HLS:=hid (fun W (h : Below w.heap.size w W)=>longN_any 15 (by decide) caps _ W (hc.below h))
  rw [hy] at HLS
  clear S I hok hr hc hx hy
  rcases hxy with ⟨rfl,rfl⟩ | ⟨rfl,rfl⟩ | ⟨rfl,rfl⟩
  all_goals
    go_enter Tryz.func10,Tryz.ntmps10
    go_wp2_with fail
    refine HIN.out.mono ?_
    rintro e w1 ⟨rfl,hb⟩
    have HB1:=hid hb
    clear hb
    go_wp2_with fail
    refine (HLO.out w1 HB1.out).mono ?_
    rintro e w2 ⟨rfl,hb⟩
    have HB2:=hid (HB1.out.trans (hb.mono HB1.out.size))
    clear hb
    go_wp2_with fail
    refine (HLM.out w2 HB2.out).mono ?_
    rintro e w2a ⟨rfl,rfl⟩
    go_wp2_with fail
    refine (HLS.out w2a HB2.out).mono ?_
    rintro e w2b ⟨rfl,rfl⟩
    go_wp2_with fail
    go_ret
    exact ⟨rfl,HB2.out⟩
theorem downCaps_any (Q0 : List Raw) (L : List Ent) (roots caps : List Bm) (v u s : Value) (A : Nat -> Addr) (m : Int) (w : World) (S : Te w A m) (I : Ixs w v Q0 L) (em : EmI Q0 L) (hr : MsAt w u roots) (her : Em u roots) (hc : MsAt w s caps) (hec : Em s caps) :
    Calls Tryz.prog 10 #[v,u,s] w fun e w'=>e = .returned (.bool true) /\ Below w.heap.size w w':=by
  cases hok : okI L with
  | false=>exact dc_long1 Q0 L roots caps v u s A m w S I hr hc hok
  | true=>
    cases hrk : okLN 15 roots <;> cases hck : okLN 15 caps
    case true.true=>exact dc_main Q0 L roots caps v u s A m w S I em hr her hc hec hok hrk hck
    all_goals exact dc_long2 Q0 L roots caps v u s A m w S I hr hc _ _ hok rfl rfl (by rw [hrk,hck]; decide)
end Ve
end Go.Proofs.YtlcffhadobhfkaaGreatDoor
