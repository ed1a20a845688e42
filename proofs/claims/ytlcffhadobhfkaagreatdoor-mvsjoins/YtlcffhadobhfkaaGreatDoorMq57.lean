/-
  MjA
-/
import Derived.Test.YtlcffhadobhfkaaGreatDoorMq3
import Derived.Test.YtlcffhadobhfkaaGreatDoorMq5
import Derived.Test.YtlcffhadobhfkaaGreatDoorMq6
import Derived.Test.YtlcffhadobhfkaaGreatDoorMq9
import Derived.Test.YtlcffhadobhfkaaGreatDoorMq11
import Derived.Test.YtlcffhadobhfkaaGreatDoorMq18
import Derived.Test.YtlcffhadobhfkaaGreatDoorMq2
import Derived.Test.YtlcffhadobhfkaaGreatDoorMq19
import Derived.Test.YtlcffhadobhfkaaGreatDoorMq20
import Derived.Test.YtlcffhadobhfkaaGreatDoorMq23
import Derived.Test.YtlcffhadobhfkaaGreatDoorMq25
import Derived.Test.YtlcffhadobhfkaaGreatDoorMq16
import Derived.Test.YtlcffhadobhfkaaGreatDoorMq34
import Derived.Test.YtlcffhadobhfkaaGreatDoorMq22
import Derived.Test.YtlcffhadobhfkaaGreatDoorMq45
import Derived.Test.YtlcffhadobhfkaaGreatDoorMq33
import Derived.Test.YtlcffhadobhfkaaGreatDoorMq54
import Derived.Test.YtlcffhadobhfkaaGreatDoorMq36
import Derived.Test.YtlcffhadobhfkaaGreatDoorMq56
namespace Go.Proofs.YtlcffhadobhfkaaGreatDoor
open Go.RowKit Go.Maps
namespace Ve
theorem Jn.self {D E : List Bm} (h : Jn D E) : Jn (E ++ E) E:=
  ⟨h.ri,fun e he=>⟨List.mem_append_left _ he,(h.sub e he).2⟩,fun x hx hr=>⟨x,by rcases List.mem_append.1 hx with h | h <;> exact h,rfl,by rw [(ordV_zero (mErr_zero hr).2 (mErr_zero hr).2).2 rfl]; omega⟩⟩
theorem Jn.turn {a b X Y : List Bm} (hX : Jn (a ++ b) X) (hY : Jn (b ++ a) Y) : X = Y:=
  hX.one hY (fun m _=>by rw [List.mem_append,List.mem_append]; exact Or.comm)
set_option maxRecDepth 100000 in
set_option maxHeartbeats 4000000 in
theorem mj_head (ra rb rc : List Bm) (v u s : Value) (A : Nat → Addr) (m : Int) (w : World) (S : Te w A m) (hr : MsAt w v ra) (her : Em v ra) (hr2 : MsAt w u rb) (her2 : Em u rb) (hr3 : MsAt w s rc) (hrk : okLN 15 ra = true) (hrk2 : okLN 15 rb = true) (hrk3 : okLN 15 rc = true) :
    Calls Tryz.prog 4 #[v,u,s] w fun e w'=>e = .returned (.bool true) /\ Below w.heap.size w w':=by
  obtain ⟨aa,ac,hv0,-⟩:=id hr
  subst hv0
  obtain ⟨ba,bc,hu0,-⟩:=id hr2
  subst hu0
  obtain ⟨ca,cc,hs0,-⟩:=id hr3
  subst hs0
  have ha15 : ra.length <= 15:=(okLN_iff hrk).1
  have hb15 : rb.length <= 15:=(okLN_iff hrk2).1
  have hc15 : rc.length <= 15:=(okLN_iff hrk3).1
  have HZA:=hid (okLN_iff hrk).2
  have HZB:=hid (okLN_iff hrk2).2
  have HZC:=hid (okLN_iff hrk3).2
  have HIN:=hid (built_any A m w S)
  have HLM:=hid (fun W (h : Below w.heap.size w W)=>longN_any 15 (by decide) ra _ W (hr.below h))
  rw [if_pos hrk] at HLM
  have HLM2:=hid (fun W (h : Below w.heap.size w W)=>longN_any 15 (by decide) rb _ W (hr2.below h))
  rw [if_pos hrk2] at HLM2
  have HLM3:=hid (fun W (h : Below w.heap.size w W)=>longN_any 15 (by decide) rc _ W (hr3.below h))
  rw [if_pos hrk3] at HLM3
  have HOM:=hid (fun W (h : Below w.heap.size w W)=>ownM_any _ ra W (by omega) (hr.below h) her)
  have HOM2:=hid (fun W (h : Below w.heap.size w W)=>ownM_any _ rb W (by omega) (hr2.below h) her2)
  have HS:=hid S
  have HR:=hid hr
  have HR2:=hid hr2
  have HR3:=hid hr3
  clear S hr her hr2 her2 hr3 hrk hrk2 hrk3
  go_enter Tryz.func4,Tryz.ntmps4
  go_wp2_with fail
  refine HIN.out.mono ?_
  rintro e w1 ⟨rfl,hb⟩
  have HB1:=hid hb
  clear hb
  go_wp2_with fail
  refine (HLM.out w1 HB1.out).mono ?_
  rintro e w2 ⟨rfl,rfl⟩
  go_wp2_with fail
  refine (HLM2.out w2 HB1.out).mono ?_
  rintro e w3 ⟨rfl,rfl⟩
  go_wp2_with fail
  refine (HLM3.out w3 HB1.out).mono ?_
  rintro e w4 ⟨rfl,rfl⟩
  go_wp2_with fail
  have HBX:=hid HB1.out
  clear HB1
  go_loopw [8] (fun i wr=>∃ k : Nat,k <= ra.length /\ i = .int .i64 k /\ Hid (∀ j (h : j < ra.length),j < k -> mErr ra[j] = 0) /\ Hid (Below w.heap.size w wr)) (fun i _=>ra.length - (intOf i).toNat)
  case atStart=>exact ⟨0,Nat.zero_le _,rfl,hid (fun j _ hj=>absurd hj (Nat.not_lt_zero _)),HBX⟩
  case round=>
    obtain ⟨k,hk,rfl,HE,HB⟩:=hrel
    by_cases hlt : k < ra.length
    · obtain ⟨xb,xo,hxa,x0,x1⟩:=(HR.out.below HB.out).cells hlt
      subst hxa
      have hkI : (k : Int) < (ra.length : Int):=by omega
      have hk0 : (0 : Int) <= (k : Int):=by omega
      have HLT:=hid hlt
      have hsz:=HZA.out ra[k] (List.getElem_mem hlt)
      have HN:=hid (show mErr ra[k] = 0 -> ∀ j (h : j < ra.length),j < k + 1 -> mErr ra[j] = 0 from fun h0 j hj hjk=>by
        rcases Nat.lt_or_ge j k with h | h
        · exact HE.out j hj h
        · have : j = k:=by omega
          subst this; exact h0)
      generalize ra[k] = x at *
      obtain ⟨p,q⟩:=x
      have HM:=hid (fun W=>modError_any p q W (by simp only at hsz; omega) (by simp only at hsz; omega))
      have hme : mErr (p,q) = modErr p.data.toList q.data.toList:=rfl
      rw [<- hme] at HM
      clear hme hlt hsz
      by_cases h0 : mErr (p,q) = 0
      · rw [h0] at HM
        have HN2:=hid (HN.out h0)
        clear h0 HN
        go_wp2_with fail
        refine (HM.out _).mono ?_
        rintro e w5 ⟨rfl,hb⟩
        have HB5:=hid (HB.out.trans (hb.mono HB.out.size))
        clear hb
        go_wp2_with fail
        go_roundw
        case rel=>first | exact ⟨k + 1,HLT.out,nr_idx k,HN2,HB5⟩ | exact ⟨k + 1,HLT.out,nx_idx HLT.out (by omega),HN2,HB5⟩
        case measure=>first | exact nr_meas HLT.out | exact nx_meas HLT.out (by omega)
      · have hpos : (0 : Int) < ((mErr (p,q) : Nat) : Int):=by omega
        generalize mErr (p,q) = z at *
        clear h0 HN
        go_wp2_with fail
        refine (HM.out _).mono ?_
        rintro e w5 ⟨rfl,hb⟩
        have HB5:=hid (HB.out.trans (hb.mono HB.out.size))
        clear hb
        go_wp2_with fail
        go_ret
        exact ⟨rfl,HB5.out⟩
    · have hkI : ¬ (k : Int) < (ra.length : Int):=by omega
      have HRTra:=hid (show ∀ x,x ∈ ra -> mErr x = 0 from fun x hx=>by
        obtain ⟨j,hj,rfl⟩:=List.getElem_of_mem hx
        exact HE.out j hj (by omega))
      have HBX:=hid HB.out
      clear hlt HE HB
      go_wp2_with fail
      go_loopw [9] (fun i wr=>∃ k : Nat,k <= rb.length /\ i = .int .i64 k /\ Hid (∀ j (h : j < rb.length),j < k -> mErr rb[j] = 0) /\ Hid (Below w.heap.size w wr)) (fun i _=>rb.length - (intOf i).toNat)
      case atStart=>exact ⟨0,Nat.zero_le _,rfl,hid (fun j _ hj=>absurd hj (Nat.not_lt_zero _)),HBX⟩
      case round=>
        obtain ⟨k,hk,rfl,HE,HB⟩:=hrel
        by_cases hlt : k < rb.length
        · obtain ⟨xb,xo,hxa,x0,x1⟩:=(HR2.out.below HB.out).cells hlt
          subst hxa
          have hkI : (k : Int) < (rb.length : Int):=by omega
          have hk0 : (0 : Int) <= (k : Int):=by omega
          have HLT:=hid hlt
          have hsz:=HZB.out rb[k] (List.getElem_mem hlt)
          have HN:=hid (show mErr rb[k] = 0 -> ∀ j (h : j < rb.length),j < k + 1 -> mErr rb[j] = 0 from fun h0 j hj hjk=>by
            rcases Nat.lt_or_ge j k with h | h
            · exact HE.out j hj h
            · have : j = k:=by omega
              subst this; exact h0)
          generalize rb[k] = x at *
          obtain ⟨p,q⟩:=x
          have HM:=hid (fun W=>modError_any p q W (by simp only at hsz; omega) (by simp only at hsz; omega))
          have hme : mErr (p,q) = modErr p.data.toList q.data.toList:=rfl
          rw [<- hme] at HM
          clear hme hlt hsz
          by_cases h0 : mErr (p,q) = 0
          · rw [h0] at HM
            have HN2:=hid (HN.out h0)
            clear h0 HN
            go_wp2_with fail
            refine (HM.out _).mono ?_
            rintro e w5 ⟨rfl,hb⟩
            have HB5:=hid (HB.out.trans (hb.mono HB.out.size))
            clear hb
            go_wp2_with fail
            go_roundw
            case rel=>first | exact ⟨k + 1,HLT.out,nr_idx k,HN2,HB5⟩ | exact ⟨k + 1,HLT.out,nx_idx HLT.out (by omega),HN2,HB5⟩
            case measure=>first | exact nr_meas HLT.out | exact nx_meas HLT.out (by omega)
          · have hpos : (0 : Int) < ((mErr (p,q) : Nat) : Int):=by omega
            generalize mErr (p,q) = z at *
            clear h0 HN
            go_wp2_with fail
            refine (HM.out _).mono ?_
            rintro e w5 ⟨rfl,hb⟩
            have HB5:=hid (HB.out.trans (hb.mono HB.out.size))
            clear hb
            go_wp2_with fail
            go_ret
            exact ⟨rfl,HB5.out⟩
        · have hkI : ¬ (k : Int) < (rb.length : Int):=by omega
          have HRTrb:=hid (show ∀ x,x ∈ rb -> mErr x = 0 from fun x hx=>by
            obtain ⟨j,hj,rfl⟩:=List.getElem_of_mem hx
            exact HE.out j hj (by omega))
          have HBX:=hid HB.out
          clear hlt HE HB
          go_wp2_with fail
          have HSZ:=hid (show ∀ r,r ∈ ra ++ rb -> r.1.size < 999999 /\ r.2.size < 999999 from fun r hr=>by
            rcases List.mem_append.1 hr with h | h
            · have:=HZA.out r h; omega
            · have:=HZB.out r h; omega)
          have HSZ2:=hid (show ∀ r,r ∈ rb ++ ra -> r.1.size < 999999 /\ r.2.size < 999999 from fun r hr=>HSZ.out r (by rw [List.mem_append] at hr ⊢; exact hr.symm))
          have HR3X:=hid (fun W (h : Below w.heap.size w W)=>HR3.out.below h)
          clear HLM HLM2 HLM3 HIN HR HR2 HR3
          refine (HOM.out _ HBX.out).mono ?_
          rintro e w5 ⟨u1,rfl,ho1,-,hb⟩
          have HB5:=hid (HBX.out.trans (hb.mono HBX.out.size))
          have HM1:=hid (mr_own ho1 hb)
          obtain ⟨a1,c1,hu1⟩:=HM1.out.sl
          subst hu1
          clear ho1 hb HBX
          go_wp2_with fail
          refine (HOM2.out _ HB5.out).mono ?_
          rintro e w6 ⟨u2,rfl,ho2,-,hb⟩
          have HB6:=hid (HB5.out.trans (hb.mono HB5.out.size))
          have HM2:=hid (mr_own ho2 hb)
          have HJ:=hid (join_mods ra rb _ _ A m w6 (HM1.out.ms.below hb) HM2.out.ms HM1.out.em HM2.out.em (by omega) (by omega) HSZ.out (HS.out.below HB6.out))
          obtain ⟨a2,c2,hu2⟩:=HM2.out.sl
          subst hu2
          clear ho2 hb HB5 HM1 HM2
          go_wp2_with fail
          refine HJ.out.mono ?_
          rintro e w7 ⟨xu,X,rfl,hxl,hjx,hmx⟩
          have HB7:=hid (HB6.out.trans (hmx.1.mono HB6.out.size))
          have HJX:=hid hjx
          have HMX:=hid hmx.ms
          have HEX:=hid hmx.em
          have hXl : X.length <= 30:=by simp at hxl; omega
          have HXS:=hid (show ∀ x,x ∈ X -> x.1.size < 999999 /\ x.2.size < 999999 from fun x hx=>HSZ.out x (hjx.sub x hx).1)
          obtain ⟨xa,xc,hxu⟩:=hmx.sl
          subst hxu
          clear hmx hjx hxl HJ HB6
          go_wp2_with fail
          refine (HOM2.out _ HB7.out).mono ?_
          rintro e w8 ⟨u3,rfl,ho3,-,hb⟩
          have HB8:=hid (HB7.out.trans (hb.mono HB7.out.size))
          have HM3:=hid (mr_own ho3 hb)
          have HMX8:=hid (HMX.out.below hb)
          obtain ⟨a3,c3,hu3⟩:=HM3.out.sl
          subst hu3
          clear ho3 hb HB7 HMX
          go_wp2_with fail
          refine (HOM.out _ HB8.out).mono ?_
          rintro e w9 ⟨u4,rfl,ho4,-,hb⟩
          have HB9:=hid (HB8.out.trans (hb.mono HB8.out.size))
          have HM4:=hid (mr_own ho4 hb)
          have HMX9:=hid (HMX8.out.below hb)
          have HJ2:=hid (join_mods rb ra _ _ A m w9 (HM3.out.ms.below hb) HM4.out.ms HM3.out.em HM4.out.em (by omega) (by omega) HSZ2.out (HS.out.below HB9.out))
          obtain ⟨a4,c4,hu4⟩:=HM4.out.sl
          subst hu4
          clear ho4 hb HB8 HM3 HM4 HMX8
          go_wp2_with fail
          refine HJ2.out.mono ?_
          rintro e w10 ⟨yu,Y,rfl,-,hjy,hmy⟩
          have hXY:=HJX.out.turn hjy
          subst hXY
          have HB10:=hid (HB9.out.trans (hmy.1.mono HB9.out.size))
          have HMX10:=hid (HMX9.out.below hmy.1)
          have HSM:=hid (sameM_any X _ _ w10 (by omega) HMX10.out hmy.ms)
          obtain ⟨ya,yc,hyu⟩:=hmy.sl
          subst hyu
          clear hmy hjy HJ2 HB9 HMX9
          go_wp2_with fail
          refine HSM.out.mono ?_
          rintro e w11 ⟨rfl,hb⟩
          have HB11:=hid (HB10.out.trans (hb.mono HB10.out.size))
          have HMX11:=hid (HMX10.out.below hb)
          clear hb HSM HB10 HMX10
          go_wp2_with fail
          refine (HOM.out _ HB11.out).mono ?_
          rintro e w12 ⟨u5,rfl,ho5,-,hb⟩
          have HB12:=hid (HB11.out.trans (hb.mono HB11.out.size))
          have HM5:=hid (mr_own ho5 hb)
          have HMX12:=hid (HMX11.out.below hb)
          have HU1:=hid (und_any ra X _ _ A m w12 (by omega) (by omega) (fun x hx=>by have:=HZA.out x hx; omega) (fun x hx=>(HXS.out x hx).2) (HS.out.below HB12.out) HM5.out.ms HMX12.out)
          rw [HJX.out.over (A:=ra) (fun x hx=>⟨List.mem_append_left _ hx,HRTra.out x hx⟩)] at HU1
          obtain ⟨a5,c5,hu5⟩:=HM5.out.sl
          subst hu5
          clear ho5 hb HB11 HM5 HMX11
          go_wp2_with fail
          refine HU1.out.mono ?_
          rintro e w13 ⟨rfl,hb⟩
          have HB13:=hid (HB12.out.trans (hb.mono HB12.out.size))
          have HMX13:=hid (HMX12.out.below hb)
          clear hb HU1 HB12 HMX12
          go_wp2_with fail
          refine (HOM2.out _ HB13.out).mono ?_
          rintro e w14 ⟨u6,rfl,ho6,-,hb⟩
          have HB14:=hid (HB13.out.trans (hb.mono HB13.out.size))
          have HM6:=hid (mr_own ho6 hb)
          have HMX14:=hid (HMX13.out.below hb)
          have HU2:=hid (und_any rb X _ _ A m w14 (by omega) (by omega) (fun x hx=>by have:=HZB.out x hx; omega) (fun x hx=>(HXS.out x hx).2) (HS.out.below HB14.out) HM6.out.ms HMX14.out)
          rw [HJX.out.over (A:=rb) (fun x hx=>⟨List.mem_append_right _ hx,HRTrb.out x hx⟩)] at HU2
          obtain ⟨a6,c6,hu6⟩:=HM6.out.sl
          subst hu6
          clear ho6 hb HB13 HM6 HMX13
          go_wp2_with fail
          refine HU2.out.mono ?_
          rintro e w15 ⟨rfl,hb⟩
          have HB15:=hid (HB14.out.trans (hb.mono HB14.out.size))
          have HMX15:=hid (HMX14.out.below hb)
          have HJ3:=hid (join_mods X X _ _ A m w15 HMX15.out HMX15.out HEX.out HEX.out (by omega) (by omega) (fun r hr=>HXS.out r (by rcases List.mem_append.1 hr with h | h <;> exact h)) (HS.out.below HB15.out))
          clear hb HU2 HB14 HMX14
          go_wp2_with fail
          refine HJ3.out.mono ?_
          rintro e w16 ⟨zu,Z,rfl,-,hjz,hmz⟩
          have hZX : Z = X:=hjz.one HJX.out.self (fun _ _=>Iff.rfl)
          subst hZX
          have HB16:=hid (HB15.out.trans (hmz.1.mono HB15.out.size))
          have HMX16:=hid (HMX15.out.below hmz.1)
          have HSM2:=hid (sameM_any Z _ _ w16 (by omega) hmz.ms HMX16.out)
          obtain ⟨za,zc,hzu⟩:=hmz.sl
          subst hzu
          clear hmz hjz HJ3 HB15 HMX15
          go_wp2_with fail
          refine HSM2.out.mono ?_
          rintro e w17 ⟨rfl,hb⟩
          have HB17:=hid (HB16.out.trans (hb.mono HB16.out.size))
          have HMX17:=hid (HMX16.out.below hb)
          clear hb HSM2 HB16 HMX16
          go_wp2_with fail
          refine (HOM.out _ HB17.out).mono ?_
          rintro e w18 ⟨u7,rfl,ho7,-,hb⟩
          have HB18:=hid (HB17.out.trans (hb.mono HB17.out.size))
          have HM7:=hid (mr_own ho7 hb)
          have HMX18:=hid (HMX17.out.below hb)
          have HU3:=hid (und_any ra rc _ _ A m w18 (by omega) (by omega) (fun x hx=>by have:=HZA.out x hx; omega) (fun x hx=>by have:=HZC.out x hx; omega) (HS.out.below HB18.out) HM7.out.ms (HR3X.out _ HB18.out))
          obtain ⟨a7,c7,hu7⟩:=HM7.out.sl
          subst hu7
          clear ho7 hb HB17 HM7 HMX17
          have HD1:=hid (show undB ra rc = true -> ∀ x,x ∈ ra -> hasV rc x = true from fun h x hx=>List.all_eq_true.1 h x hx)
          cases hq1 : undB ra rc
          · rw [hq1] at HU3
            clear hq1
            go_wp2_with fail
            refine HU3.out.mono ?_
            rintro e w19 ⟨rfl,hb⟩
            have HB19:=hid (HB18.out.trans (hb.mono HB18.out.size))
            clear hb
            go_wp2_with fail
            go_ret
            exact ⟨rfl,HB19.out⟩
          · rw [hq1] at HU3
            have HD1':=hid (HD1.out hq1)
            clear hq1
            go_wp2_with fail
            refine HU3.out.mono ?_
            rintro e w19 ⟨rfl,hb⟩
            have HB19:=hid (HB18.out.trans (hb.mono HB18.out.size))
            have HMX19:=hid (HMX18.out.below hb)
            clear hb HU3 HB18 HMX18
            go_wp2_with fail
            refine (HOM2.out _ HB19.out).mono ?_
            rintro e w20 ⟨u8,rfl,ho8,-,hb⟩
            have HB20:=hid (HB19.out.trans (hb.mono HB19.out.size))
            have HM8:=hid (mr_own ho8 hb)
            have HMX20:=hid (HMX19.out.below hb)
            have HU4:=hid (und_any rb rc _ _ A m w20 (by omega) (by omega) (fun x hx=>by have:=HZB.out x hx; omega) (fun x hx=>by have:=HZC.out x hx; omega) (HS.out.below HB20.out) HM8.out.ms (HR3X.out _ HB20.out))
            obtain ⟨a8,c8,hu8⟩:=HM8.out.sl
            subst hu8
            clear ho8 hb HB19 HM8 HMX19
            have HD2:=hid (show undB rb rc = true -> ∀ x,x ∈ rb -> hasV rc x = true from fun h x hx=>List.all_eq_true.1 h x hx)
            cases hq2 : undB rb rc
            · rw [hq2] at HU4
              clear hq2
              go_wp2_with fail
              refine HU4.out.mono ?_
              rintro e w21 ⟨rfl,hb⟩
              have HB21:=hid (HB20.out.trans (hb.mono HB20.out.size))
              clear hb
              go_wp2_with fail
              go_ret
              exact ⟨rfl,HB21.out⟩
            · rw [hq2] at HU4
              have HD2':=hid (HD2.out hq2)
              clear hq2
              go_wp2_with fail
              refine HU4.out.mono ?_
              rintro e w21 ⟨rfl,hb⟩
              have HB21:=hid (HB20.out.trans (hb.mono HB20.out.size))
              have HMX21:=hid (HMX20.out.below hb)
              have HU5:=hid (und_any Z rc _ _ A m w21 (by omega) (by omega) (fun x hx=>(HXS.out x hx).2) (fun x hx=>by have:=HZC.out x hx; omega) (HS.out.below HB21.out) HMX21.out (HR3X.out _ HB21.out))
              rw [HJX.out.least (C:=rc) (fun x hx=>by
                rcases List.mem_append.1 hx with h | h
                · exact HD1'.out x h
                · exact HD2'.out x h)] at HU5
              clear hb HU4 HB20 HMX20
              go_wp2_with fail
              refine HU5.out.mono ?_
              rintro e w22 ⟨rfl,hb⟩
              have HB22:=hid (HB21.out.trans (hb.mono HB21.out.size))
              clear hb
              go_wp2_with fail
              go_ret
              exact ⟨rfl,HB22.out⟩
set_option maxRecDepth 100000 in
set_option maxHeartbeats 4000000 in
theorem mj_long (ra rb rc : List Bm) (v u s : Value) (A : Nat -> Addr) (m : Int) (w : World) (x y z : Int) (S : Te w A m) (hr : MsAt w v ra) (hr2 : MsAt w u rb) (hr3 : MsAt w s rc) (hx : (if okLN 15 ra then (0 : Int) else 1) = x) (hy : (if okLN 15 rb then (0 : Int) else 1) = y) (hz : (if okLN 15 rc then (0 : Int) else 1) = z)
    (hxyz : (x = 1 /\ y = 0 /\ z = 0) \/ (x = 0 /\ y = 1 /\ z = 0) \/ (x = 0 /\ y = 0 /\ z = 1) \/ (x = 1 /\ y = 1 /\ z = 0) \/ (x = 1 /\ y = 0 /\ z = 1) \/ (x = 0 /\ y = 1 /\ z = 1) \/ (x = 1 /\ y = 1 /\ z = 1)) :
    Calls Tryz.prog 4 #[v,u,s] w fun e w'=>e = .returned (.bool true) /\ Below w.heap.size w w':=by
  obtain ⟨aa,ac,hv0,-⟩:=id hr
  subst hv0
  obtain ⟨ba,bc,hu0,-⟩:=id hr2
  subst hu0
  obtain ⟨ca,cc,hs0,-⟩:=id hr3
  subst hs0
  have HIN:=hid (built_any A m w S)
  have HLM:=hid (fun W (h : Below w.heap.size w W)=>longN_any 15 (by decide) ra _ W (hr.below h))
  rw [hx] at HLM
  have HLM2:=hid (fun W (h : Below w.heap.size w W)=>longN_any 15 (by decide) rb _ W (hr2.below h))
  rw [hy] at HLM2
  have HLM3:=hid (fun W (h : Below w.heap.size w W)=>longN_any 15 (by decide) rc _ W (hr3.below h))
  rw [hz] at HLM3
  clear S hr hr2 hr3 hx hy hz
  rcases hxyz with ⟨rfl,rfl,rfl⟩ | ⟨rfl,rfl,rfl⟩ | ⟨rfl,rfl,rfl⟩ | ⟨rfl,rfl,rfl⟩ | ⟨rfl,rfl,rfl⟩ | ⟨rfl,rfl,rfl⟩ | ⟨rfl,rfl,rfl⟩
  all_goals
    go_enter Tryz.func4,Tryz.ntmps4
    go_wp2_with fail
    refine HIN.out.mono ?_
    rintro e w1 ⟨rfl,hb⟩
    have HB1:=hid hb
    clear hb
    go_wp2_with fail
    refine (HLM.out w1 HB1.out).mono ?_
    rintro e w2 ⟨rfl,rfl⟩
    go_wp2_with fail
    refine (HLM2.out w2 HB1.out).mono ?_
    rintro e w3 ⟨rfl,rfl⟩
    go_wp2_with fail
    refine (HLM3.out w3 HB1.out).mono ?_
    rintro e w4 ⟨rfl,rfl⟩
    go_wp2_with fail
    go_ret
    exact ⟨rfl,HB1.out⟩
theorem mvsJoins_any (ra rb rc : List Bm) (v u s : Value) (A : Nat -> Addr) (m : Int) (w : World) (S : Te w A m) (hr : MsAt w v ra) (her : Em v ra) (hr2 : MsAt w u rb) (her2 : Em u rb) (hr3 : MsAt w s rc) :
    Calls Tryz.prog 4 #[v,u,s] w fun e w'=>e = .returned (.bool true) /\ Below w.heap.size w w':=by
  cases hrk : okLN 15 ra <;> cases hrk2 : okLN 15 rb <;> cases hrk3 : okLN 15 rc
  case true.true.true=>exact mj_head ra rb rc v u s A m w S hr her hr2 her2 hr3 hrk hrk2 hrk3
  all_goals exact mj_long ra rb rc v u s A m w _ _ _ S hr hr2 hr3 rfl rfl rfl (by rw [hrk,hrk2,hrk3]; decide)
end Ve
end Go.Proofs.YtlcffhadobhfkaaGreatDoor
