/-
  DaA
-/
import Derived.Test.YtlcffhadobhfkaaGreatDoorMq3
import Derived.Test.YtlcffhadobhfkaaGreatDoorMq2
import Derived.Test.YtlcffhadobhfkaaGreatDoorMq5
import Derived.Test.YtlcffhadobhfkaaGreatDoorMq6
import Derived.Test.YtlcffhadobhfkaaGreatDoorMq9
import Derived.Test.YtlcffhadobhfkaaGreatDoorMq11
import Derived.Test.YtlcffhadobhfkaaGreatDoorMq18
import Derived.Test.YtlcffhadobhfkaaGreatDoorMq19
import Derived.Test.YtlcffhadobhfkaaGreatDoorMq20
import Derived.Test.YtlcffhadobhfkaaGreatDoorMq17
import Derived.Test.YtlcffhadobhfkaaGreatDoorMq23
import Derived.Test.YtlcffhadobhfkaaGreatDoorMq16
import Derived.Test.YtlcffhadobhfkaaGreatDoorMq37
import Derived.Test.YtlcffhadobhfkaaGreatDoorMq38
import Derived.Test.YtlcffhadobhfkaaGreatDoorMq42
import Derived.Test.YtlcffhadobhfkaaGreatDoorMq22
import Derived.Test.YtlcffhadobhfkaaGreatDoorMq36
import Derived.Test.YtlcffhadobhfkaaGreatDoorMq39
import Derived.Test.YtlcffhadobhfkaaGreatDoorMq43
import Derived.Test.YtlcffhadobhfkaaGreatDoorMq45
import Derived.Test.YtlcffhadobhfkaaGreatDoorMq34
import Derived.Test.YtlcffhadobhfkaaGreatDoorMq48
import Derived.Test.YtlcffhadobhfkaaGreatDoorMq87
import Derived.Test.YtlcffhadobhfkaaGreatDoorMq88
import Derived.Test.YtlcffhadobhfkaaGreatDoorMq89
import Derived.Test.YtlcffhadobhfkaaGreatDoorMq90
namespace Go.Proofs.YtlcffhadobhfkaaGreatDoor
open Go.RowKit Go.Maps
namespace Ve
structure Ga (w W : World) (v : Value) (Q0 : List Raw) (L : List Ent) (rv : Value) (roots : List Bm) (cv : Value) (caps : List Bm) (xv : Value) (T : List Bm) (g : Nat) (O : List Bool) : Prop where
  bl : Below w.heap.size w W
  i0 : Ixs W v Q0 L
  rs : MsAt W rv roots
  cs : MsAt W cv caps
  xs : MsAt W xv T
  bd : W.heap[g]? = some (.cells (bwc O) 4 (0,0))
theorem Ga.below {w W W' : World} {v rv cv xv : Value} {Q0 : List Raw} {L : List Ent} {roots caps T : List Bm} {g : Nat} {O : List Bool} (h : Ga w W v Q0 L rv roots cv caps xv T g O) (hb : Below W.heap.size W W') : Ga w W' v Q0 L rv roots cv caps xv T g O:=
  ⟨h.bl.trans (hb.mono h.bl.size),h.i0.below hb,h.rs.below hb,h.cs.below hb,h.xs.below hb,(hb.block _ (lt_of_blk h.bd)).trans h.bd⟩
set_option maxRecDepth 100000 in
set_option maxHeartbeats 8000000 in
theorem da_main (Q0 : List Raw) (L : List Ent) (roots caps : List Bm) (v u s : Value) (A : Nat → Addr) (m : Int) (w : World) (S : Te w A m) (I : Ixs w v Q0 L) (em : EmI Q0 L) (hr : MsAt w u roots) (her : Em u roots) (hc : MsAt w s caps) (hec : Em s caps) (hok : okI L = true) (hrk : okLN 15 roots = true) (hck : okLN 15 caps = true) (at_ : Int) (hat : ¬ at_ < 0) :
    Calls Tryz.prog 12 #[v,u,s,.int .i64 at_] w fun e w'=>e = .returned (.bool true) /\ Below w.heap.size w w':=by
  obtain ⟨a0,c0,hv0,-⟩:=id I.es
  subst hv0
  obtain ⟨ra,rc,hu0,-⟩:=id hr
  subst hu0
  obtain ⟨ca,cc,hs0,-⟩:=id hc
  subst hs0
  have hn101 : L.length <= 101:=by rcases (okI_iff hok).1 with h | h <;> omega
  have hr15 : roots.length <= 15:=(okLN_iff hrk).1
  have hc15 : caps.length <= 15:=(okLN_iff hck).1
  have HZR:=hid (show ∀ x,x ∈ roots -> x.2.size < 999999 from fun x hx=>by have:=((okLN_iff hrk).2 x hx).2; omega)
  have HZC:=hid (show shortL caps from fun x hx=>by have:=(okLN_iff hck).2 x hx; exact ⟨by omega,by omega⟩)
  have HIN:=hid (low_any A m w S)
  have HLO:=hid (fun W (h : Below w.heap.size w W)=>longI_any Q0 L _ W (I.below h))
  rw [if_pos hok] at HLO
  have HLM:=hid (fun W (h : Below w.heap.size w W)=>longN_any 15 (by decide) roots _ W (hr.below h))
  rw [if_pos hrk] at HLM
  have HLC:=hid (fun W (h : Below w.heap.size w W)=>longN_any 15 (by decide) caps _ W (hc.below h))
  rw [if_pos hck] at HLC
  have HOW:=hid (fun W (h : Below w.heap.size w W)=>ownI_any Q0 L _ W (by omega) (I.below h) em (okI_fits hok))
  have HOM:=hid (fun W (h : Below w.heap.size w W)=>ownM_any _ roots W (by omega) (hr.below h) her)
  have HOC:=hid (fun W (h : Below w.heap.size w W)=>ownM_any _ caps W (by omega) (hc.below h) hec)
  have HS:=hid (fun W (h : Below w.heap.size w W)=>S.below h)
  have HSH:=hid (okI_sh hok)
  have HI0:=hid (fun W (h : Below w.heap.size w W)=>I.below h)
  have HU0:=hid (univ_eq I)
  have HEC:=hid hec
  have HLQ:=hid I.ln
  have HR:=hid (fun W (h : Below w.heap.size w W)=>hr.below h)
  have HC:=hid (fun W (h : Below w.heap.size w W)=>hc.below h)
  clear S I em hok hr her hrk hc hec hck
  go_enter Tryz.func12,Tryz.ntmps12
  go_wp2_with fail
  refine HIN.out.mono ?_
  rintro e w1 ⟨rfl,hb⟩
  have HB1:=hid hb
  clear hb
  go_wp2_with fail
  refine (HLO.out w1 HB1.out).mono ?_
  rintro e w2 ⟨rfl,hb⟩
  have HB2:=hid (HB1.out.trans (hb.mono HB1.out.size))
  clear hb
  go_wp2_with fail
  refine (HLM.out w2 HB2.out).mono ?_
  rintro e w2' ⟨rfl,rfl⟩
  go_wp2_with fail
  refine (HLC.out w2' HB2.out).mono ?_
  rintro e w2'' ⟨rfl,rfl⟩
  go_wp2_with fail
  refine (HOW.out w2'' HB2.out).mono ?_
  rintro e w3 ⟨ou,Q,rfl,hO,hb⟩
  have HB3:=hid (HB2.out.trans (hb.mono HB2.out.size))
  have HIX:=hid (fun W (h : Below w3.heap.size w3 W)=>hO.ixs.below h)
  have HI3:=hid hO.ixs
  obtain ⟨oa,oc,hou,-⟩:=id hO.ixs.es
  subst hou
  have HBW:=hid (fun W (h : Below w3.heap.size w3 W)=>HB3.out.trans (h.mono HB3.out.size))
  clear hb hO HLO HLM HLC HOW HIN HB1 HB2
  have HB3':=HB3
  clear HB3
  have HB3:=hid (Below.refl w3.heap.size w3)
  go_wp2_with fail
  refine (HOM.out w3 (HBW.out _ HB3.out)).mono ?_
  rintro e w4 ⟨u4,rfl,ho,-,hb⟩
  have HB4:=hid (HB3.out.trans (hb.mono HB3.out.size))
  have HR4:=hid (mr_own ho hb)
  obtain ⟨a4,c4,hu4⟩:=HR4.out.sl
  subst hu4
  clear ho hb
  go_wp2_with fail
  refine (HOC.out w4 (HBW.out _ HB4.out)).mono ?_
  rintro e w5 ⟨u5,rfl,ho,-,hb⟩
  have HB5:=hid (HB4.out.trans (hb.mono HB4.out.size))
  have HR5:=hid (HR4.out.ms.below hb)
  have HC5:=hid (own_ms ho)
  obtain ⟨a5,c5,hu5⟩:=own_slN ho
  subst hu5
  clear ho hb HR4 HB4
  by_cases hca : (tF Q L roots caps).1 = 0
  rotate_left
  · have HBU:=hid (to_bad Q L roots caps _ _ _ A m w5 (by omega) (by omega) (by omega) HSH.out HZC.out (HS.out _ (HBW.out _ HB5.out)) (HIX.out _ HB5.out) HR5.out HC5.out hca)
    clear hca
    go_wp2_with fail
    refine HBU.out.mono ?_
    rintro e w6 ⟨T,ea,rfl,-,hb⟩
    have HB6:=hid (HBW.out _ (HB5.out.trans (hb.mono HB5.out.size)))
    clear hb HBU
    go_wp2_with fail
    go_ret
    exact ⟨rfl,HB6.out⟩
  have HCA:=hid hca
  have HDF:=hid (daF_of HI3.out hca)
  have HKP:=hid (bF_chk (tF_ok hca).1)
  have HBF:=hid (tF_ok hca).1
  have HSM:=hid (fun m=>isM_same (HU0.out.trans (univ_eq HI3.out).symm) m)
  have HTO:=hid (to_good Q L roots caps _ _ _ A m w5 (by omega) (by omega) (by omega) HSH.out HZC.out (HS.out _ (HBW.out _ HB5.out)) (HIX.out _ HB5.out) HR5.out HC5.out hca)
  have HTA:=hid (fun W xv cv (h : Below w3.heap.size w3 W) (hx : MsAt W xv (toL Q L roots caps)) (hcv : MsAt W cv caps)=>to_good Q L (toL Q L roots caps) caps _ xv cv A m W (by omega) (by have:=HDF.out.ln; omega) (by omega) HSH.out HZC.out (HS.out _ (HBW.out _ h)) (HIX.out _ h) hx hcv HDF.out.ok)
  rw [HDF.out.ag] at HTA
  clear hca
  generalize toL Q L roots caps = T at *
  go_wp2_with fail
  refine HTO.out.mono ?_
  rintro e w6 ⟨u6,rfl,ho,hb⟩
  have HB6:=hid (HB5.out.trans (hb.mono HB5.out.size))
  have HX6:=hid (own_ms ho)
  have HTL:=hid (show T.length <= 1000 by have:=HDF.out.ln; omega)
  obtain ⟨xa,xc,hu6⟩:=own_slN ho
  subst hu6
  clear ho hb HTO HR5 HC5 HB5
  go_wp2_with fail
  refine (HOC.out w6 (HBW.out _ HB6.out)).mono ?_
  rintro e w7 ⟨u7,rfl,ho,-,hb⟩
  have HB7:=hid (HB6.out.trans (hb.mono HB6.out.size))
  have HX7:=hid (HX6.out.below hb)
  have HC7:=hid (own_ms ho)
  obtain ⟨a7,c7,hu7⟩:=own_slN ho
  subst hu7
  clear ho hb HX6 HB6
  go_wp2_with fail
  refine (HTA.out w7 _ _ HB7.out HX7.out HC7.out).mono ?_
  rintro e w8 ⟨u8,rfl,ho,hb⟩
  have HB8:=hid (HB7.out.trans (hb.mono HB7.out.size))
  have HX8:=hid (HX7.out.below hb)
  have HSA:=hid (sameM_any T u8 _ w8 (by have:=HTL.out; omega) (own_ms ho) HX8.out)
  obtain ⟨a8,c8,hu8⟩:=own_slN ho
  subst hu8
  clear ho hb HTA HX7 HC7 HB7
  go_wp2_with fail
  refine HSA.out.mono ?_
  rintro e w9 ⟨rfl,hb⟩
  have HB9:=hid (HB8.out.trans (hb.mono HB8.out.size))
  have HX9:=hid (HX8.out.below hb)
  clear hb HSA HX8 HB8
  go_wp2_with fail
  refine (HOC.out w9 (HBW.out _ HB9.out)).mono ?_
  rintro e w10 ⟨u10,rfl,ho,-,hb⟩
  have HB10:=hid (HB9.out.trans (hb.mono HB9.out.size))
  have HX10:=hid (HX9.out.below hb)
  have HBD:=hid (bad_good Q L caps _ u10 A m w10 (by omega) (by omega) HSH.out HZC.out (HS.out _ (HBW.out _ HB10.out)) (HIX.out _ HB10.out) (own_ms ho) HBF.out)
  have HBM:=hid (fun less W cv (h : Below w3.heap.size w3 W) (hl : less.length <= 15) (hs : shortL less) (hcv : MsAt W cv less) (hk : (chkP less).1 = 0)=>bad_good Q L less _ cv A m W (by omega) (by omega) HSH.out hs (HS.out _ (HBW.out _ h)) (HIX.out _ h) hcv (by unfold bF; rw [if_pos HKP.out.1]; exact hk))
  have HLS:=hid (fun k i h1 h2 hb=>bd_lessL (Q:=Q) (L:=L) HKP.out.2 k i h1 h2 hb)
  have HBL:=hid (fun cs=>show (bdL Q L cs).length = Q0.length by rw [bdL_len,HLQ.out])
  obtain ⟨a10,c10,hu10⟩:=own_slN ho
  subst hu10
  clear ho hb HX9 HB9
  rw [HBL.out] at HBD
  go_wp2_with fail
  refine HBD.out.mono ?_
  rintro e w11 ⟨gB,rfl,hM⟩
  have HB11:=hid (HB10.out.trans (hM.bl.mono HB10.out.size))
  have HX11:=hid (HX10.out.below hM.bl)
  have HM11:=hid hM.hp
  have HBO:=hid (HBL.out caps)
  have HKE:=hid HDF.out.ke
  have HBY:=hid HDF.out.by_
  have HRQ:=hid HDF.out.rq
  clear hM HBD HX10 HB10 HDF
  have HFO:=hid (fun (x : Bm) W (h : Below w.heap.size w W)=>findOf_all Q0 x _ W (by rw [HLQ.out]; omega) (HI0.out W h).es)
  generalize bdL Q L caps = BL at *
  go_wp2_with fail
  obtain ⟨GG,hGG⟩ : ∃ GG : World -> Prop,GG = fun W=>Ga w3 W (.slice a0 Q0.length c0) Q0 L (.slice ra roots.length rc) roots (.slice ca caps.length cc) caps (.slice xa T.length xc) T gB BL:=⟨_,rfl⟩
  have FG:=hid (show ∀ W,GG W -> Ga w3 W (.slice a0 Q0.length c0) Q0 L (.slice ra roots.length rc) roots (.slice ca caps.length cc) caps (.slice xa T.length xc) T gB BL from fun W h=>by rw [hGG] at h; exact h)
  have FB:=hid (show ∀ W W',GG W -> Below W.heap.size W W' -> GG W' from fun W W' h hb=>by rw [hGG] at h ⊢; exact h.below hb)
  have HG0:=hid (show GG w11 by rw [hGG]; exact ⟨HB11.out,HI0.out _ (HBW.out _ HB11.out),HR.out _ (HBW.out _ HB11.out),HC.out _ (HBW.out _ HB11.out),HX11.out,HM11.out⟩)
  clear hGG HB11 HX11 HM11
  have hgd:=modGuard
  go_loopw [15] (fun iv wr=>∃ i : Nat,i <= roots.length /\ iv = .int .i64 i /\ Hid (GG wr)) (fun iv _=>roots.length - (intOf iv).toNat)
  case atStart=>exact ⟨0,Nat.zero_le _,rfl,HG0⟩
  case round=>
    obtain ⟨i3,hi3,rfl,HG3⟩:=hrel
    by_cases hlt : i3 < roots.length
    · have hiI3 : (i3 : Int) < (roots.length : Int):=Int.ofNat_lt.2 hlt
      have hi03 : (0 : Int) <= (i3 : Int):=Int.natCast_nonneg _
      have HLI3:=hid hlt
      obtain ⟨rb,ro,hra,-,-⟩:=(FG.out _ HG3.out).rs.cells hlt
      subst hra
      obtain ⟨r,hrc,hke⟩ : ∃ r : Bm,(∀ W,GG W -> W.cell? ⟨rb,ro + i3 * 2,none⟩ = some (.string r.1) /\ W.cell? ⟨rb,ro + i3 * 2 + 1,none⟩ = some (.string r.2)) /\ ∃ k : Nat,idxOf (isM r) Q = (k : Int) /\ k < L.length /\ ∀ (h : k < BL.length),BL[k] = false -> hasM T r = true:=⟨_,fun W h=>ms_atJ (FG.out _ h).rs hlt,HKE.out _ (List.getElem_mem hlt)⟩
      obtain ⟨kq,hkq,hkl,hkk⟩:=hke
      have HRC:=hid hrc
      have HKR:=hid hkk
      have hkB : kq < BL.length:=by rw [HBO.out,HLQ.out]; exact hkl
      have hkI : (kq : Int) < (Q0.length : Int):=by rw [HLQ.out]; omega
      have hk0q : (0 : Int) <= (kq : Int):=Int.natCast_nonneg _
      have HFR:=hid (fun W (h : Below w.heap.size w W)=>HFO.out r W h)
      rw [HSM.out,hkq] at HFR
      clear hlt hrc hkk hkq
      go_wp2_with fail
      go_loopw [16,17] (fun bv kv wr=>∃ k : Nat,k <= T.length /\ kv = .int .i64 k /\ bv = .bool (hasM (T.take k) r) /\ Hid (GG wr)) (fun _ kv _=>T.length - (intOf kv).toNat)
      case atStart=>exact ⟨0,Nat.zero_le _,rfl,by rw [hasM_nil],HG3⟩
      case round=>
        obtain ⟨k1,hk1,rfl,rfl,HG1⟩:=hrel
        by_cases hlk : k1 < T.length
        · have hkI1 : (k1 : Int) < (T.length : Int):=Int.ofNat_lt.2 hlk
          have hk0 : (0 : Int) <= (k1 : Int):=Int.natCast_nonneg _
          obtain ⟨xb,xo,hxa,x0',x1'⟩:=(FG.out _ HG1.out).xs.cells hlk
          subst hxa
          obtain ⟨z0,z1⟩:=HRC.out _ HG1.out
          obtain ⟨x,x0,x1,hnx⟩ : ∃ x : Bm,wr.cell? ⟨xb,xo + k1 * 2,none⟩ = some (.string x.1) /\ wr.cell? ⟨xb,xo + k1 * 2 + 1,none⟩ = some (.string x.2) /\ hasM (T.take (k1 + 1)) r = (hasM (T.take k1) r || eqM x r):=⟨_,x0',x1',hasM_next hlk r⟩
          have HCU:=hid hnx
          have HLK:=hid hlk
          have hXl : T.length <= 1000000:=by have:=HTL.out; omega
          clear hlk hnx x0' x1'
          have heq:=fun W=>eqM_run x r W
          generalize hasM (T.take k1) r = cur at *
          generalize eqM x r = d at *
          cases cur with
          | true=>
            go_wp2_with fail
            go_quiet (fail)
            go_wp2_with fail
            go_roundw
            case rel=>first | exact ⟨k1 + 1,HLK.out,nr_idx k1,by first | exact (congrArg Value.bool HCU.out).symm | (rw [HCU.out]; rfl),hid (FB.out _ _ HG1.out (below_drawn _ _))⟩ | exact ⟨k1 + 1,HLK.out,nx_idx HLK.out hXl,by first | exact (congrArg Value.bool HCU.out).symm | (rw [HCU.out]; rfl),hid (FB.out _ _ HG1.out (below_drawn _ _))⟩
            case measure=>first | exact nr_meas HLK.out | exact nx_meas HLK.out hXl
          | false=>
            go_wp2_with fail
            go_quiet (fail)
            go_wp2_with fail
            go_roundw
            case rel=>first | exact ⟨k1 + 1,HLK.out,nr_idx k1,by first | exact (congrArg Value.bool HCU.out).symm | (rw [HCU.out]; rfl),hid (FB.out _ _ HG1.out (below_drawn _ _))⟩ | exact ⟨k1 + 1,HLK.out,nx_idx HLK.out hXl,by first | exact (congrArg Value.bool HCU.out).symm | (rw [HCU.out]; rfl),hid (FB.out _ _ HG1.out (below_drawn _ _))⟩
            case measure=>first | exact nr_meas HLK.out | exact nx_meas HLK.out hXl
        · have hkI1 : ¬ (k1 : Int) < (T.length : Int):=by omega
          have hke : k1 = T.length:=by omega
          subst hke
          rw [List.take_length]
          clear hlk
          obtain ⟨z0,z1⟩:=HRC.out _ HG1.out
          have HKH:=hid (HKR.out hkB)
          generalize hasM T r = hin at *
          have HFX:=hid (HFR.out wr (HBW.out _ (FG.out _ HG1.out).bl))
          have HBX:=hid (fun W (h : GG W)=>bwc_at (FG.out _ h).bd hkB)
          obtain ⟨bk,hbk⟩ : ∃ bk,BL[kq] = bk:=⟨_,rfl⟩
          rw [hbk] at HBX HKH
          clear hbk
          go_wp2_with fail
          refine HFX.out.mono ?_
          rintro e w12 ⟨rfl,hb⟩
          have HG2:=hid (FB.out _ _ HG1.out hb)
          have c1:=HBX.out _ HG2.out
          clear hb z0 z1
          cases bk with
          | true=>
            go_wp2_with fail
            go_roundw
            case rel=>first | exact ⟨i3 + 1,HLI3.out,nr_idx i3,HG2⟩ | exact ⟨i3 + 1,HLI3.out,nx_idx HLI3.out (by omega),HG2⟩
            case measure=>first | exact nr_meas HLI3.out | exact nx_meas HLI3.out (by omega)
          | false=>
            have hh:=HKH.out rfl
            subst hh
            go_wp2_with fail
            go_roundw
            case rel=>first | exact ⟨i3 + 1,HLI3.out,nr_idx i3,HG2⟩ | exact ⟨i3 + 1,HLI3.out,nx_idx HLI3.out (by omega),HG2⟩
            case measure=>first | exact nr_meas HLI3.out | exact nx_meas HLI3.out (by omega)
    · have hiI3 : ¬ (i3 : Int) < (roots.length : Int) := by omega
      clear hlt HG0 HKE
      by_cases hae : (caps.length : Int) <= at_
      · have HE:=hid (HBW.out _ (FG.out _ HG3.out).bl)
        go_wp2_with fail
        go_ret
        exact ⟨rfl,HE.out⟩
      · obtain ⟨k,hk⟩ : ∃ k : Nat,at_ = (k : Int):=⟨at_.toNat,by omega⟩
        subst hk
        have hkc : k < caps.length:=by omega
        obtain ⟨cb,co,hca,-⟩:=(FG.out _ HG3.out).cs.cells hkc
        subst hca
        have hccl : caps.length <= cc:=(FG.out _ HG3.out).cs.cap
        have HT1:=hid (fun W (h : GG W)=>ms_take (FG.out _ h).cs (k:=k) (by omega))
        have hk0 : (0 : Int) <= (k : Int):=Int.natCast_nonneg _
        have hkI : (k : Int) < (caps.length : Int):=by omega
        have hkL : (k : Int) <= (caps.length : Int):=by omega
        have hkC : (k : Int) <= (cc : Int):=by omega
        have hk10 : (0 : Int) <= (k : Int) + 1:=by omega
        have hk1L : (k : Int) + 1 <= (caps.length : Int):=by omega
        have hk1C : (k : Int) + 1 <= (cc : Int):=by omega
        have HLC:=hid (show caps.take k ++ caps.drop (k + 1) = lessC caps k from rfl)
        have HLN:=hid (show (lessC caps k).length <= 15 by have:=(lessC_sub caps k).length_le; omega)
        have HLZ:=hid (show shortL (lessC caps k) from fun x hx=>HZC.out x ((lessC_sub caps k).subset hx))
        have HLK:=hid (caps_less HKP.out.2 (lessC_sub caps k))
        have HLI:=hid (HLS.out k)
        have HBN:=hid (HBL.out (lessC caps k))
        have HBX:=hid (fun W cv (h : Below w3.heap.size w3 W) (hcv : MsAt W cv (lessC caps k))=>HBM.out (lessC caps k) W cv h HLN.out HLZ.out hcv HLK.out)
        have HD1:=hid (fun W (h : GG W)=>ms_drop (FG.out _ h).cs (k + 1) (cc - (k + 1)) (by omega))
        have HD2:=hid (fun W (he : cc = k + 1)=>show MsAt W (.slice (some ⟨cb,co,none⟩) (caps.length - (k + 1)) (cc - (k + 1))) (caps.drop (k + 1)) by
          have hz : caps.drop (k + 1) = []:=List.drop_eq_nil_of_le (by omega)
          rw [hz]
          exact ⟨_,_,by rw [show caps.length - (k + 1) = 0 by omega]; rfl,Nat.zero_le _,fun h=>absurd rfl h⟩)
        have HOG:=hid (ownM_any _ (caps.take k) wr (by simp; omega) (HT1.out _ HG3.out) (em_ad _ _ _ _))
        have HL1:=hid (show (caps.take k).length <= 1000 by simp; omega)
        have HL2:=hid (show (caps.drop (k + 1)).length <= 1000 by simp; omega)
        clear HT1 HLS HBM HKP
        generalize caps.take k = CT at *
        generalize caps.drop (k + 1) = CD at *
        generalize lessC caps k = LC at *
        go_wp2_with fail
        refine HOG.out.mono ?_
        rintro e w12 ⟨u12,rfl,ho,-,hb⟩
        have HG4:=hid (FB.out _ _ HG3.out hb)
        have HO12:=hid ho
        have HB12:=hid hb
        obtain ⟨a12,c12,hu12⟩:=own_slN ho
        subst hu12
        have HAP:=hid (fun sv (hsv : MsAt w12 sv CD) (he : Em sv CD)=>both_run CT CD _ sv w12 wr.heap.size HB12.out.size HL1.out HL2.out HO12.out hsv he)
        rw [HLC.out] at HAP
        have HLT12:=hid (fun k hk=>(HO12.out.lt k hk).1)
        clear ho hb HOG
        go_upto_region 27 with fail
        go_cut [18] (fun lv wx=>∃ da dc,lv = .slice da LC.length dc /\ Hid (MsAt wx (.slice da LC.length dc) LC /\ GG wx))
        case first=>
          by_cases hcap : (k : Int) + 1 < (cc : Int)
          · obtain ⟨dv,w13,hrun,hown,hgr⟩:=HAP.out _ (HD1.out _ HG4.out) (em_ad _ _ _ _)
            have HRUN:=hid hrun
            have HM13:=hid (own_ms hown)
            have HG13:=hid (FB.out _ _ HG3.out (HB12.out.grown hgr HB12.out.size HLT12.out))
            obtain ⟨da,dc,hdv⟩:=own_slN hown
            subst hdv
            clear hrun hown hgr
            go_wp2_with (at_builtin; refine Lib.wpList_append_run _ rfl _ _ _ _ rfl _ _ rfl rfl _ _ HRUN.out ?_)
            go_meet
            case rel=>exact ⟨_,_,rfl,hid ⟨HM13.out,HG13.out⟩⟩
          · have HC2 : Hid (cc = k + 1):=hid (by omega)
            obtain ⟨dv,w13,hrun,hown,hgr⟩:=HAP.out _ (HD2.out w12 HC2.out) (em_ad _ _ _ _)
            have HRUN:=hid hrun
            have HM13:=hid (own_ms hown)
            have HG13:=hid (FB.out _ _ HG3.out (HB12.out.grown hgr HB12.out.size HLT12.out))
            obtain ⟨da,dc,hdv⟩:=own_slN hown
            subst hdv
            clear hrun hown hgr
            go_wp2_with (at_builtin; refine Lib.wpList_append_run _ rfl _ _ _ _ rfl _ _ rfl rfl _ _ HRUN.out ?_)
            go_meet
            case rel=>exact ⟨_,_,rfl,hid ⟨HM13.out,HG13.out⟩⟩
        case rest =>
          obtain ⟨da,dc,rfl,HL⟩:=hcut
          have HBZ:=hid (HBX.out _ _ (FG.out _ HL.out.2).bl HL.out.1)
          rw [HBN.out] at HBZ
          have HGL:=hid HL.out.2
          have hQl : Q0.length <= 1000000:=by rw [HLQ.out]; omega
          clear HL HAP HD1 HD2 HG4 HG3 HO12 HB12 HLT12 HBX HLK
          generalize bdL Q L LC = ML at *
          go_wp2_with fail
          refine HBZ.out.mono ?_
          rintro e w14 ⟨gM,rfl,hM⟩
          have HGM:=hid (show GG w14 /\ w14.heap[gM]? = some (.cells (bwc ML) 4 (0,0)) from ⟨FB.out _ _ HGL.out hM.bl,hM.hp⟩)
          clear hM HBZ HGL
          go_wp2_with fail
          go_loopw [20] (fun iv wr=>∃ i : Nat,i <= Q0.length /\ iv = .int .i64 i /\ Hid (GG wr /\ wr.heap[gM]? = some (.cells (bwc ML) 4 (0,0)))) (fun iv _=>Q0.length - (intOf iv).toNat)
          case atStart=>exact ⟨0,Nat.zero_le _,rfl,HGM⟩
          case round=>
            clear HGM
            obtain ⟨i1,hi1,rfl,HG5⟩:=hrel
            by_cases hlt : i1 < Q0.length
            · have hiI1 : (i1 : Int) < (Q0.length : Int):=Int.ofNat_lt.2 hlt
              have hi01 : (0 : Int) <= (i1 : Int):=Int.natCast_nonneg _
              have HLT:=hid hlt
              have hM1 : i1 < ML.length:=by rw [HBN.out]; exact hlt
              have hB1 : i1 < BL.length:=by rw [HBO.out]; exact hlt
              have c1:=bwc_at HG5.out.2 hM1
              have c2:=bwc_at (FG.out _ HG5.out.1).bd hB1
              have hli:=HLI.out i1 hM1 hB1
              obtain ⟨b1,hb1⟩ : ∃ b,ML[i1] = b:=⟨_,rfl⟩
              obtain ⟨b2,hb2⟩ : ∃ b,BL[i1] = b:=⟨_,rfl⟩
              rw [hb1] at c1 hli
              rw [hb2] at c2 hli
              clear hlt hb1 hb2
              cases b1 with
              | false=>
                clear hli
                go_wp2_with fail
                go_roundw
                case rel=>first | exact ⟨i1 + 1,HLT.out,nr_idx i1,HG5⟩ | exact ⟨i1 + 1,HLT.out,nx_idx HLT.out hQl,HG5⟩
                case measure=>first | exact nr_meas HLT.out | exact nx_meas HLT.out hQl
              | true=>
                have hli:=hli rfl
                subst hli
                go_wp2_with fail
                go_roundw
                case rel=>first | exact ⟨i1 + 1,HLT.out,nr_idx i1,HG5⟩ | exact ⟨i1 + 1,HLT.out,nx_idx HLT.out hQl,HG5⟩
                case measure=>first | exact nr_meas HLT.out | exact nx_meas HLT.out hQl
            · have hiI1 : ¬ (i1 : Int) < (Q0.length : Int) := by omega
              have HG6:=hid HG5.out.1
              clear hlt HG5 HLI
              go_wp2_with fail
              go_loopw [21] (fun iv wr=>∃ i : Nat,i <= Q0.length /\ iv = .int .i64 i /\ Hid (GG wr)) (fun iv _=>Q0.length - (intOf iv).toNat)
              case atStart=>exact ⟨0,Nat.zero_le _,rfl,HG6⟩
              case round=>
                clear HG6
                obtain ⟨i2,hi2,rfl,HG7⟩:=hrel
                by_cases hlt : i2 < Q0.length
                · have hiI2 : (i2 : Int) < (Q0.length : Int):=Int.ofNat_lt.2 hlt
                  have hi02 : (0 : Int) <= (i2 : Int):=Int.natCast_nonneg _
                  have HLT:=hid hlt
                  have hil : i2 < L.length:=by rw [<- HLQ.out]; exact hlt
                  have hB1 : i2 < BL.length:=by rw [HBO.out]; exact hlt
                  obtain ⟨eb,eo,hea,-⟩:=es_cells (FG.out _ HG7.out).i0.es hlt
                  subst hea
                  have HES:=hid (fun W (h : GG W)=>es_all (FG.out _ h).i0.es hlt)
                  have HMS:=hid (fun W (h : GG W)=>((FG.out _ h).i0.ok i2 hlt hil).rq)
                  have HMM:=hid ((FG.out _ HG7.out).i0.ok i2 hlt hil).m
                  have HSE:=HSH.out L[i2] (List.getElem_mem hil)
                  have hRl:=HSE.rn
                  have HCP:=hid (fun W (h : GG W)=>capped_any caps L[i2].1 _ W (by omega) (fun x hx=>by have:=HZC.out x hx; omega) (by have:=HSE.v; omega) (FG.out _ h).cs)
                  have HBO2:=hid (HBY.out i2 hil hB1)
                  have HRX:=hid (HRQ.out i2 hil)
                  have HBC:=hid (fun W (h : GG W)=>bwc_at (FG.out _ h).bd hB1)
                  obtain ⟨bi,hbi⟩ : ∃ b,BL[i2] = b:=⟨_,rfl⟩
                  rw [hbi] at HBC HBO2
                  clear hbi HSE
                  generalize (L[i2]'hil).2.1 = R at *
                  generalize (Q0[i2]'hlt).2.1 = qv at *
                  generalize (Q0[i2]'hlt).1 = qm at *
                  generalize (L[i2]'hil).1 = lm at *
                  have hqm:=HMM.out
                  subst hqm
                  obtain ⟨qa,qc,hqv,-⟩:=id (HMS.out wr HG7.out)
                  subst hqv
                  obtain ⟨-,d0,d1,d2,-,-⟩:=HES.out wr HG7.out
                  have HX2:=hid (fun W (h : GG W)=>(HES.out W h).2.2.2.1)
                  have HCQ:=hid (HCP.out wr HG7.out)
                  generalize capB caps qm = cb0 at *
                  clear hlt HMM HES HCP d2
                  go_wp2_with fail
                  refine HCQ.out.mono ?_
                  rintro e w15 ⟨rfl,hb⟩
                  have HG8:=hid (FB.out _ _ HG7.out hb)
                  clear hb d0 d1 HG7
                  go_wp2_with fail
                  go_loopw [22,23] (fun bv kv wr=>∃ k : Nat,k <= R.length /\ kv = .int .i64 k /\ bv = .bool (cb0 || (R.take k).any fun m=>BL[(idxOf (isM m) Q).toNat]?.getD false) /\ Hid (GG wr)) (fun _ kv _=>R.length - (intOf kv).toNat)
                  case atStart=>exact ⟨0,Nat.zero_le _,rfl,by rw [List.take_zero,List.any_nil,Bool.or_false],HG8⟩
                  case round=>
                    clear HG8
                    obtain ⟨k1,hk1,rfl,rfl,HG9⟩:=hrel
                    have d2:=HX2.out _ HG9.out
                    by_cases hlk : k1 < R.length
                    · have hkI1 : (k1 : Int) < (R.length : Int):=Int.ofNat_lt.2 hlk
                      have hk01 : (0 : Int) <= (k1 : Int):=Int.natCast_nonneg _
                      have HLK:=hid hlk
                      obtain ⟨xb,xo,hxa,x0',x1'⟩:=(HMS.out _ HG9.out).cells hlk
                      subst hxa
                      obtain ⟨x,y0,y1,hxm,hxt⟩ : ∃ x : Bm,wr.cell? ⟨xb,xo + k1 * 2,none⟩ = some (.string x.1) /\ wr.cell? ⟨xb,xo + k1 * 2 + 1,none⟩ = some (.string x.2) /\ x ∈ R /\ R.take (k1 + 1) = R.take k1 ++ [x]:=⟨_,x0',x1',List.getElem_mem hlk,List.take_succ_eq_append_getElem hlk⟩
                      obtain ⟨kq,hkq,hkl⟩:=HRX.out x hxm
                      have hkB : kq < BL.length:=by rw [HBO.out,HLQ.out]; exact hkl
                      have hkQ : (kq : Int) < (Q0.length : Int):=by rw [HLQ.out]; omega
                      have hk0q : (0 : Int) <= (kq : Int):=Int.natCast_nonneg _
                      have HNX:=hid (show (cb0 || (R.take (k1 + 1)).any fun m=>BL[(idxOf (isM m) Q).toNat]?.getD false) = ((cb0 || (R.take k1).any fun m=>BL[(idxOf (isM m) Q).toNat]?.getD false) || BL[kq]) by
                        rw [hxt,List.any_append,Bool.or_assoc]
                        congr 2
                        rw [List.any_cons,List.any_nil,Bool.or_false,hkq,Int.toNat_natCast,List.getElem?_eq_getElem hkB]
                        rfl)
                      have HBK:=hid (fun W (h : GG W)=>bwc_at (FG.out _ h).bd hkB)
                      obtain ⟨bk,hbk⟩ : ∃ b,BL[kq] = b:=⟨_,rfl⟩
                      rw [hbk] at HNX HBK
                      have HFR:=hid (HFO.out x wr (HBW.out _ (FG.out _ HG9.out).bl))
                      rw [HSM.out,hkq] at HFR
                      obtain ⟨x1,x2⟩:=x
                      clear hlk hbk hkq hxt hxm x0' x1'
                      generalize (cb0 || (R.take k1).any fun m=>BL[(idxOf (isM m) Q).toNat]?.getD false) = cur at *
                      cases cur with
                      | true=>
                        go_wp2_with fail
                        go_roundw
                        case rel=>first | exact ⟨k1 + 1,HLK.out,nr_idx k1,by rw [HNX.out]; rfl,HG9⟩ | exact ⟨k1 + 1,HLK.out,nx_idx HLK.out hRl,by rw [HNX.out]; rfl,HG9⟩
                        case measure=>first | exact nr_meas HLK.out | exact nx_meas HLK.out hRl
                      | false=>
                        go_wp2_with fail
                        refine HFR.out.mono ?_
                        rintro e w16 ⟨rfl,hb⟩
                        have HG10:=hid (FB.out _ _ HG9.out hb)
                        have c1:=HBK.out _ HG10.out
                        clear hb
                        go_wp2_with fail
                        go_roundw
                        case rel=>first | exact ⟨k1 + 1,HLK.out,nr_idx k1,by rw [HNX.out]; rfl,HG10⟩ | exact ⟨k1 + 1,HLK.out,nx_idx HLK.out hRl,by rw [HNX.out]; rfl,HG10⟩
                        case measure=>first | exact nr_meas HLK.out | exact nx_meas HLK.out hRl
                    · have hkI1 : ¬ (k1 : Int) < (R.length : Int):=by omega
                      have hke : k1 = R.length:=by omega
                      subst hke
                      rw [List.take_length,<- HBO2.out]
                      have c1:=HBC.out _ HG9.out
                      clear hlk
                      cases bi with
                      | true=>
                        go_wp2_with fail
                        go_roundw
                        case rel=>first | exact ⟨i2 + 1,HLT.out,nr_idx i2,HG9⟩ | exact ⟨i2 + 1,HLT.out,nx_idx HLT.out hQl,HG9⟩
                        case measure=>first | exact nr_meas HLT.out | exact nx_meas HLT.out hQl
                      | false=>
                        go_wp2_with fail
                        go_roundw
                        case rel=>first | exact ⟨i2 + 1,HLT.out,nr_idx i2,HG9⟩ | exact ⟨i2 + 1,HLT.out,nx_idx HLT.out hQl,HG9⟩
                        case measure=>first | exact nr_meas HLT.out | exact nx_meas HLT.out hQl
                · have hiI2 : ¬ (i2 : Int) < (Q0.length : Int):=by omega
                  have HE:=hid (HBW.out _ (FG.out _ HG7.out).bl)
                  clear hlt HG7
                  go_wp2_with fail
                  go_ret
                  exact ⟨rfl,HE.out⟩
end Ve
end Go.Proofs.YtlcffhadobhfkaaGreatDoor
