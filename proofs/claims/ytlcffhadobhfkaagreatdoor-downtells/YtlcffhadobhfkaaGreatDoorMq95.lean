/-
  DtE
-/
import Derived.Test.YtlcffhadobhfkaaGreatDoorMq3
import Derived.Test.YtlcffhadobhfkaaGreatDoorMq2
import Derived.Test.YtlcffhadobhfkaaGreatDoorMq5
import Derived.Test.YtlcffhadobhfkaaGreatDoorMq6
import Derived.Test.YtlcffhadobhfkaaGreatDoorMq9
import Derived.Test.YtlcffhadobhfkaaGreatDoorMq11
import Derived.Test.YtlcffhadobhfkaaGreatDoorMq18
import Derived.Test.YtlcffhadobhfkaaGreatDoorMq19
import Derived.Test.YtlcffhadobhfkaaGreatDoorMq20
import Derived.Test.YtlcffhadobhfkaaGreatDoorMq23
import Derived.Test.YtlcffhadobhfkaaGreatDoorMq16
import Derived.Test.YtlcffhadobhfkaaGreatDoorMq28
import Derived.Test.YtlcffhadobhfkaaGreatDoorMq1
import Derived.Test.YtlcffhadobhfkaaGreatDoorMq22
import Derived.Test.YtlcffhadobhfkaaGreatDoorMq34
import Derived.Test.YtlcffhadobhfkaaGreatDoorMq39
import Derived.Test.YtlcffhadobhfkaaGreatDoorMq43
import Derived.Test.YtlcffhadobhfkaaGreatDoorMq47
import Derived.Test.YtlcffhadobhfkaaGreatDoorMq45
import Derived.Test.YtlcffhadobhfkaaGreatDoorMq15
import Derived.Test.YtlcffhadobhfkaaGreatDoorMq37
import Derived.Test.YtlcffhadobhfkaaGreatDoorMq48
import Derived.Test.YtlcffhadobhfkaaGreatDoorMq87
import Derived.Test.YtlcffhadobhfkaaGreatDoorMq88
import Derived.Test.YtlcffhadobhfkaaGreatDoorMq89
import Derived.Test.YtlcffhadobhfkaaGreatDoorMq85
import Derived.Test.YtlcffhadobhfkaaGreatDoorMq94
namespace Go.Proofs.YtlcffhadobhfkaaGreatDoor
open Go.RowKit Go.Maps
namespace Ve
theorem selO_leW : ∀ (O : List Bool) (U : List Bm),(selO O U).length <= U.length
  | [],_=>by simp [selO]
  | _ :: _,[]=>by simp [selO]
  | b :: O,m :: U=>by
    have:=selO_leW O U
    cases b <;> simp [selO] <;> omega
theorem bst_nextW {U : List Bm} {O : List Bool} {r : Bm} {k : Nat} (h : k < U.length) (h' : k < O.length) : bst U O r (k + 1) = if (decide (U[k].1 = r.1) && (!lessB (vb r) (vb U[k]) && !O[k])) = true then (k : Int) else bst U O r k:=by
  rw [<- lwB_at h h']; rfl
set_option maxRecDepth 100000 in
set_option maxHeartbeats 8000000 in
theorem too_good (Q : List Raw) (L : List Ent) (roots caps : List Bm) (v rv cv : Value) (w : World) (hn : L.length ≤ 1000) (hrn : roots.length ≤ 1000000) (hcn : caps.length ≤ 1000000) (hs : shortL caps) (hrs : ∀ r, r ∈ roots → r.2.size < 999999) (sh : ∀ e, e ∈ L → ShE e) (I : Ixs w v Q L) (hr : MsAt w rv roots) (hc : MsAt w cv caps) (h0 : (tF Q L roots caps).1 = 0) :
    Calls Tryz.prog 54 #[v,rv,cv] w fun e w'=>∃ u,e = .returned (.tuple #[u,.agg #[.int .i64 0,.int .i64 (-1)]]) /\ w'.ownsRow w.heap.size 25 2 u (toL Q L roots caps).length (flatM (toL Q L roots caps)) /\ Below w.heap.size w w':=by
  obtain ⟨hb0,hg0⟩:=tF_ok h0
  obtain ⟨k0,k1⟩:=bF_chk hb0
  have HB0:=hid ((Below.refl w.heap.size w).alloc (Nat.le_refl _) (.cells #[.int .i64 0,.int .i64 0] 36))
  have HE0:=hid (heap_new w (.cells #[.int .i64 0,.int .i64 0] 36))
  have HIF:=hid (bdo_good Q L caps v cv _ hn hcn hs sh (I.below HB0.out) (hc.below HB0.out) k0 k1)
  have HRF:=hid (fun W (h : Below w.heap.size w W)=>rFault_any Q roots v rv W (by rw [I.ln]; exact hn) hrn (I.below h).es (hr.below h))
  have hcg : chkG Q L roots = (0,none):=by
    have e : tF Q L roots caps = chkG Q L roots:=if_pos hb0
    rw [<- e]; exact tF_good h0
  rw [<- chkG_ok k0,hcg] at HRF
  unfold faultV at HRF
  simp only at HRF
  rw [show atOf none = -1 from rfl] at HRF
  have HUL:=hid (show (univ L).length = Q.length by rw [I.ln]; simp [univ])
  have HBL:=hid (show (bdL Q L caps).length = Q.length by rw [bdL_len,I.ln])
  have hqn : Q.length <= 1000:=by rw [I.ln]; exact hn
  have HES:=hid (fun W (h : Below w.heap.size w W)=>(I.below h).es)
  have HRS:=hid (fun W (h : Below w.heap.size w W)=>hr.below h)
  have HRZ:=hid hrs
  have HUZ:=hid (fun i (hi : i < (univ L).length)=>show (univ L)[i].2.size < 999999 by
    have hi' : i < L.length:=by rw [univ_len] at hi; exact hi
    have:=(sh L[i] (List.getElem_mem hi')).v
    simpa [univ] using this)
  have HUM:=hid (fun i (hi : i < Q.length) (hi' : i < (univ L).length)=>show Q[i].1 = (univ L)[i] by
    have:=(I.ok i hi (by rw [<- I.ln]; exact hi)).m
    simp only [univ,List.getElem_map]
    exact this)
  unfold toL
  obtain ⟨i0,hi0,hz0,hz1,hz2⟩:=info_parts infoMod
  obtain ⟨a,c,hv1,-⟩:=id I.es
  subst hv1
  obtain ⟨ra,rc,hrv,-⟩:=id hr
  subst hrv
  obtain ⟨ca,c2,hcv,-⟩:=id hc
  subst hcv
  clear I hr hc hs hrs sh h0 hb0 hg0 k0 k1 hcg
  generalize bdL Q L caps = BL at *
  generalize univ L = U at *
  go_enter Tryz.func54,Tryz.ntmps54
  go_wp2_with fail
  refine HIF.out.mono ?_
  rintro e w1 ⟨u1,rfl,hbv,hb⟩
  have HB1:=hid (HB0.out.trans (hb.mono HB0.out.size))
  have HE1:=hid ((hb.block _ (lt_of_blk HE0.out)).trans HE0.out)
  have HBV:=hid (fun W (h : Below w1.heap.size w1 W)=>hbv.below h)
  obtain ⟨ba,bc,hu1,-⟩:=id hbv
  subst hu1
  clear hb hbv
  have HB2:=hid (HB1.out.alloc HB1.out.size (.cells #[.int .i64 0,.int .i64 (-1)] 36))
  have HN2:=hid ((Below.refl w1.heap.size w1).alloc (Nat.le_refl _) (.cells #[.int .i64 0,.int .i64 (-1)] 36))
  have HE2:=hid (heap_old w1 (.cells #[.int .i64 0,.int .i64 (-1)] 36) HE1.out)
  have HF2:=hid (heap_new w1 (.cells #[.int .i64 0,.int .i64 (-1)] 36))
  have HLT:=hid (lt_of_blk HE1.out)
  have hne : ¬ w1.heap.size = w.heap.size:=Nat.ne_of_gt (lt_of_blk HE1.out)
  have hne2 : ¬ w.heap.size = w1.heap.size:=Nat.ne_of_lt (lt_of_blk HE1.out)
  go_wp2_with fail
  generalize hg2 : w1.alloc (.cells #[.int .i64 0,.int .i64 (-1)] 36) = w2 at *
  clear hg2
  refine (HRF.out _ HB2.out).mono ?_
  rintro e w3 ⟨rfl,hb⟩
  have HB3a:=hid (HB2.out.trans (hb.mono HB2.out.size))
  have HN3a:=hid (HN2.out.trans (hb.mono HN2.out.size))
  have HE3a:=hid ((hb.block _ (lt_of_blk HE2.out)).trans HE2.out)
  have HF3a:=hid ((hb.block _ (lt_of_blk HF2.out)).trans HF2.out)
  clear hb
  have HB3:=hid (put2_below (x:=.int .i64 0) (y:=.int .i64 (-1)) HB3a.out (Nat.le_of_lt HLT.out))
  have HN3:=hid (put2_below (x:=.int .i64 0) (y:=.int .i64 (-1)) HN3a.out (Nat.le_refl w1.heap.size))
  have HE3:=hid (keep_set (fb:=w1.heap.size) (o:=1) (x:=.int .i64 (-1)) (keep_set (fb:=w1.heap.size) (o:=0) (x:=.int .i64 0) HE3a.out hne2) hne2)
  have HF3:=hid (set_block (o:=1) (x:=.int .i64 (-1)) (set_block (o:=0) (x:=.int .i64 0) HF3a.out))
  obtain ⟨g0,g1,gf⟩:=box_two HF3a.out
  go_upto_region 6 with fail
  generalize hg3 : (w3.setCell ⟨w1.heap.size,0,none⟩ (.int .i64 0)).setCell ⟨w1.heap.size,1,none⟩ (.int .i64 (-1)) = w4 at *
  clear hg3 g0 g1 gf HIF HRF HE3a HF3a HB3a HE2 HF2 HB2 HE1 HB1 HE0 HB0 HN2 HN3a HF3 hne hne2
  have HBW:=hid (fun W (h : Below w4.heap.size w4 W)=>HB3.out.trans (h.mono HB3.out.size))
  have HNW:=hid (fun W (h : Below w4.heap.size w4 W)=>HBV.out W (HN3.out.trans (h.mono HN3.out.size)))
  have hw4:=HB3.out.size
  have hmk:=make_bools Q.length w4 (by omega)
  have HM0:=hid (show Mb w4 (w4.alloc (.cells (bwc (List.replicate Q.length false)) 4)) w4.heap.size (kpN U BL (roots.take 0)) from ⟨(Below.refl w4.heap.size w4).alloc (Nat.le_refl _) _,Nat.le_refl _,by rw [List.take_zero,kpN_zero,HUL.out]; exact heap_new w4 _⟩)
  clear HBV HN3 HB3
  go_wp2_with fail
  clear hmk
  go_loopw [11] (fun iv wr=>∃ i : Nat,i <= roots.length /\ iv = .int .i64 i /\ Hid (Mb w4 wr w4.heap.size (kpN U BL (roots.take i)))) (fun iv _=>roots.length - (intOf iv).toNat)
  case atStart=>exact ⟨0,Nat.zero_le _,rfl,HM0⟩
  case round=>
    clear HM0
    obtain ⟨i,hi,rfl,HMi⟩:=hrel
    by_cases hlt : i < roots.length
    · have hiI : (i : Int) < (roots.length : Int):=by omega
      have hii : (0 : Int) <= (i : Int):=by omega
      have HLI:=hid hlt
      obtain ⟨rb,ro,hra,-,-⟩:=(HRS.out _ (HBW.out _ HMi.out.bl)).cells hlt
      subst hra
      obtain ⟨r,hrc,hrz,hrt⟩ : ∃ r : Bm,(∀ W,Below w4.heap.size w4 W -> W.cell? ⟨rb,ro + i * 2,none⟩ = some (.string r.1) /\ W.cell? ⟨rb,ro + i * 2 + 1,none⟩ = some (.string r.2)) /\ r.2.size < 999999 /\ roots.take (i + 1) = roots.take i ++ [r]:=⟨_,fun W h=>ms_atC (HRS.out _ (HBW.out _ h)) hlt,HRZ.out _ (List.getElem_mem hlt),List.take_succ_eq_append_getElem hlt⟩
      obtain ⟨r1,r2⟩:=r
      simp only at hrz hrc
      have HRC:=hid hrc
      have HRT:=hid hrt
      have HKN:=hid (fun h=>kpN_none (U:=U) (O:=BL) (R:=roots.take i) (r:=(r1,r2)) h)
      have HKS:=hid (fun k h=>kpN_some (U:=U) (O:=BL) (R:=roots.take i) (r:=(r1,r2)) (k:=k) h)
      have HBI:=hid (bst_is U BL (r1,r2) U.length)
      have HKL:=hid (kpN_len U BL (roots.take i))
      rw [<- HRT.out] at HKN HKS
      generalize kpN U BL (roots.take i) = KP at *
      clear hlt hrc hrt HRT
      go_wp2_with fail
      go_loopw [12,13] (fun bv kv wr=>∃ k : Nat,k <= Q.length /\ kv = .int .i64 k /\ bv = .int .i64 (bst U BL (r1,r2) k) /\ Hid (Mb w4 wr w4.heap.size KP)) (fun _ kv _=>Q.length - (intOf kv).toNat)
      case atStart=>exact ⟨0,Nat.zero_le _,rfl,rfl,HMi⟩
      case round=>
        clear HMi
        obtain ⟨k,hk,rfl,rfl,HMk⟩:=hrel
        by_cases hlk : k < Q.length
        · have hkI : (k : Int) < (Q.length : Int):=by omega
          have hki : (0 : Int) <= (k : Int):=by omega
          have HLK:=hid hlk
          have hkU : k < U.length:=by rw [HUL.out]; exact hlk
          have hkB : k < BL.length:=by rw [HBL.out]; exact hlk
          have hkB2 : (k : Int) < (BL.length : Int):=by omega
          obtain ⟨b,o,hab,-⟩:=es_cells (HES.out _ (HBW.out _ HMk.out.bl)) hlk
          subst hab
          obtain ⟨bb,bo,hba,-⟩:=(HNW.out _ HMk.out.bl).cells hkB
          subst hba
          have HEK:=hid (fun W (h : Below w4.heap.size w4 W)=>show W.cell? ⟨b,o + k * 5,none⟩ = some (.string (Q[k]'hlk).1.1) /\ W.cell? ⟨b,o + k * 5 + 1,none⟩ = some (.string (Q[k]'hlk).1.2) from ⟨(es_all (HES.out _ (HBW.out _ h)) hlk).2.1,(es_all (HES.out _ (HBW.out _ h)) hlk).2.2.1⟩)
          rw [HUM.out k hlk hkU] at HEK
          have HBK:=hid (fun W (h : Below w4.heap.size w4 W)=>(HNW.out _ h).at hkB)
          have HNX:=hid (bst_nextW (r:=(r1,r2)) hkU hkB)
          have hkz:=HUZ.out k hkU
          generalize U[k] = um at *
          obtain ⟨kp,kq⟩:=um
          obtain ⟨bk,hbk⟩ : ∃ x,BL[k] = x:=⟨_,rfl⟩
          rw [hbk] at HBK HNX
          simp only at hkz HEK
          have HL:=hid (fun W=>isLess_any r2 kq W hrz hkz)
          obtain ⟨pe,hpe,hpd⟩ : ∃ pe : Bool,(kp.toList == r1.toList) = pe /\ decide (kp = r1) = pe:=by
            by_cases h : kp = r1
            · subst h; exact ⟨true,str_refl kp,decide_eq_true rfl⟩
            · exact ⟨false,str_ne h,decide_eq_false h⟩
          have HNY:=hid (show bst U BL (r1,r2) (k + 1) = if (pe && (!lessB r2.data.toList kq.data.toList && !bk)) = true then (k : Int) else bst U BL (r1,r2) k by rw [HNX.out,<- hpd])
          generalize bst U BL (r1,r2) k = cur at *
          generalize lessB r2.data.toList kq.data.toList = more at *
          clear hlk hbk hpd HNX
          obtain ⟨s0,s1⟩:=HRC.out _ HMk.out.bl
          obtain ⟨t0,t1⟩:=HEK.out _ HMk.out.bl
          have HTT:=hid (fun W' (hW : Below wr.heap.size wr W')=>(show (fun W'=>W'.cell? ⟨rb,ro + i * 2,none⟩ = some (.string r1) /\ W'.cell? ⟨rb,ro + i * 2 + 1,none⟩ = some (.string r2) /\ W'.cell? ⟨b,o + k * 5,none⟩ = some (.string kp) /\ W'.cell? ⟨b,o + k * 5 + 1,none⟩ = some (.string kq) /\ Hid (Below wr.heap.size wr W')) W' from ⟨cell_below hW s0,cell_below hW s1,cell_below hW t0,cell_below hW t1,hid hW⟩))
          go_wp2_with fail
          go_region_held (fun W'=>W'.cell? ⟨rb,ro + i * 2,none⟩ = some (.string r1) /\ W'.cell? ⟨rb,ro + i * 2 + 1,none⟩ = some (.string r2) /\ W'.cell? ⟨b,o + k * 5,none⟩ = some (.string kp) /\ W'.cell? ⟨b,o + k * 5 + 1,none⟩ = some (.string kq) /\ Hid (Below wr.heap.size wr W')) (first | exact HTT.out _ HRa.out | exact HTT.out _ (below_drawn _ 1)) (first
            | (go_at_call 49; refine (HL.out _).mono ?_; rintro e w' ⟨rfl,hb⟩; have HRa:=hid ((below_drawn wr 1).trans (hb.mono (Nat.le_refl _))); clear hb))
          all_goals
            have HGa:=hid (HMk.out.below HRa.out)
            clear s0 s1 t0 t1
            obtain ⟨s0,s1⟩:=HRC.out _ HGa.out.bl
            obtain ⟨t0,t1⟩:=HEK.out _ HGa.out.bl
            have q0:=HBK.out _ HGa.out.bl
            cases pe <;> cases more <;> cases bk
            all_goals
              go_wp2_with fail
              go_quiet (fail)
              go_wp2_with fail
              go_roundw
              case rel=>first | exact ⟨k + 1,HLK.out,nr_idx k,by first | (rw [HNY.out]; rfl) | (rw [HNY.out]; simp),hid (HGa.out.below (below_drawn _ _))⟩ | exact ⟨k + 1,HLK.out,nx_idx HLK.out (by omega),by first | (rw [HNY.out]; rfl) | (rw [HNY.out]; simp),hid (HGa.out.below (below_drawn _ _))⟩
              case measure=>first | exact nr_meas HLK.out | exact nx_meas HLK.out (by omega)
        · have hkI : ¬ (k : Int) < (Q.length : Int):=by omega
          have hke : k = U.length:=by rw [HUL.out]; omega
          rw [hke] at hkI ⊢
          clear hlk hke
          rcases HBI.out with ⟨e,-⟩ | ⟨kb,hkb,e,-,-⟩
          · have HKQ:=hid (HKN.out (by rw [e]; decide))
            rw [e]
            clear e
            go_wp2_with fail
            go_roundw
            case rel=>first | exact ⟨i + 1,HLI.out,nr_idx i,hid (by rw [HKQ.out]; exact HMk.out)⟩ | exact ⟨i + 1,HLI.out,nx_idx HLI.out (by omega),hid (by rw [HKQ.out]; exact HMk.out)⟩
            case measure=>first | exact nr_meas HLI.out | exact nx_meas HLI.out (by omega)
          · have HKQ:=hid (HKS.out kb e)
            rw [e]
            have hkl : kb < KP.length:=by rw [HKL.out]; exact hkb
            obtain ⟨z0,zf⟩:=HMk.out.at hkl
            have hb0 : (0 : Int) <= (kb : Int):=by omega
            have hb1 : (kb : Int) < (Q.length : Int):=by have:=HUL.out; omega
            have HMS:=hid (HMk.out.set kb true)
            clear e
            go_wp2_with fail
            go_roundw
            case rel=>first | exact ⟨i + 1,HLI.out,nr_idx i,hid (by rw [HKQ.out]; exact HMS.out)⟩ | exact ⟨i + 1,HLI.out,nx_idx HLI.out (by omega),hid (by rw [HKQ.out]; exact HMS.out)⟩
            case measure=>first | exact nr_meas HLI.out | exact nx_meas HLI.out (by omega)
    · have hiI : ¬ (i : Int) < (roots.length : Int):=by omega
      have hie : i = roots.length:=by omega
      have HMf:=hid (show Mb w4 wr w4.heap.size (kpN U BL roots) by
        have h:=HMi.out
        rw [hie,List.take_length] at h
        exact h)
      have HOL:=hid (kpN_len U BL roots)
      have HSL:=hid (fun (x : List Bool) (y : List Bm)=>selO_leW x y)
      obtain ⟨O,hOe⟩ : ∃ O,kpN U BL roots = O:=⟨_,rfl⟩
      rw [hOe] at HMf HOL
      have HOE:=hid hOe
      clear hOe
      clear hlt hie HMi
      obtain ⟨w5,hw5⟩ : ∃ w5,w5 = wr:=⟨_,rfl⟩
      subst hw5
      have h45:=HMf.out.bl.size
      have HB5:=hid (HBW.out _ HMf.out.bl)
      have HHP:=hid HMf.out.hp
      have HE5:=hid ((HMf.out.bl.block _ (lt_of_blk HE3.out)).trans HE3.out)
      clear HMf
      go_wp2_with fail
      go_loopw [15,16] (fun ov iv wr=>∃ i : Nat,i <= Q.length /\ iv = .int .i64 i /\ Hid (wr.ownsRow w5.heap.size 25 2 ov (selO (O.take i) (U.take i)).length (flatM (selO (O.take i) (U.take i)))) /\ (selO (O.take i) (U.take i)).length <= i /\ Hid (Below w5.heap.size w5 wr)) (fun _ iv _=>Q.length - (intOf iv).toNat)
      case atStart=>exact ⟨0,Nat.zero_le _,rfl,hid (by simp only [List.take_zero,selO]; exact World.ownsRow_nil _ _ _ _),by simp [selO],hid (Below.refl _ _)⟩
      case round=>
        obtain ⟨i,hi,rfl,HOW,hsl,HBr⟩:=hrel
        by_cases hlt2 : i < Q.length
        · have hiI : (i : Int) < (Q.length : Int):=by omega
          have hii : (0 : Int) <= (i : Int):=by omega
          have HLI:=hid hlt2
          have hiU : i < U.length:=by rw [HUL.out]; exact hlt2
          have hiO : i < O.length:=by rw [HOL.out]; exact hiU
          have HBw:=hid (HB5.out.trans (HBr.out.mono HB5.out.size))
          have m0:=cell_below HBr.out (bwc_at HHP.out hiO)
          have hes:=HES.out _ HBw.out
          obtain ⟨b,o,hab,-⟩:=es_cells hes hlt2
          subst hab
          obtain ⟨-,x0,x1,-,-,-⟩:=es_all hes hlt2
          have HST:=hid (selO_take O U i hiO hiU)
          rw [HUM.out i hlt2 hiU] at x0 x1
          generalize U[i] = um at *
          obtain ⟨up,uq⟩:=um
          simp only at x0 x1
          have hwz:=HBr.out.size
          clear hes hlt2
          cases hoi : O[i]
          · rw [hoi] at m0 HST
            have HST2:=hid (show selO (O.take (i + 1)) (U.take (i + 1)) = selO (O.take i) (U.take i) by rw [HST.out]; simp)
            clear hoi
            go_wp2_with fail
            go_roundw
            case rel=>first | exact ⟨i + 1,HLI.out,nr_idx i,hid (by rw [HST2.out]; exact HOW.out),by rw [HST2.out]; omega,HBr⟩ | exact ⟨i + 1,HLI.out,nx_idx HLI.out (by omega),hid (by rw [HST2.out]; exact HOW.out),by rw [HST2.out]; omega,HBr⟩
            case measure=>first | exact nr_meas HLI.out | exact nx_meas HLI.out (by omega)
          · rw [hoi] at m0 HST
            have HST2:=hid (show selO (O.take (i + 1)) (U.take (i + 1)) = selO (O.take i) (U.take i) ++ [(up,uq)] by rw [HST.out]; simp)
            obtain ⟨SX,hSX⟩ : ∃ SX,selO (O.take i) (U.take i) = SX:=⟨_,rfl⟩
            rw [hSX] at HOW HST2 hsl
            clear hoi hSX HST
            go_wp2_with (at_builtin; refine wpList_append_own _ rfl _ _ 23 rfl w5.heap.size 25 i0 _ 2 32 Tryz.underlying23 hi0 hz0 hz1 hz2 rfl (by decide) _ _ _ rfl (HOW.out.alloc _) ⟨wr.heap.size,0,none⟩ 1 1 [.string up,.string uq] rfl rfl ?c1 ?c2 ?c3 ?c4 ?c5 ?_)
            case c1=>
              intro t u ht
              match t,ht with
              | 0,ht=>simp at ht; subst ht; simp [Addr.add]
              | 1,ht=>simp at ht; subst ht; simp [Addr.add]
              | t + 2,ht=>simp at ht
            case c2=>intro u hu; simp at hu; rcases hu with rfl | rfl <;> rfl
            case c3=>unfold maxLen; omega
            case c4=>omega
            case c5=>first | omega | (simp; omega)
            intro v' w6 hown hgrow _
            have HR3:=hid (rel_appK HBr.out.size HBr.out HOW.out (Below.refl _ _) hgrow)
            have HO4:=hid (show w6.ownsRow w5.heap.size 25 2 v' (SX ++ [(up,uq)]).length (flatM (SX ++ [(up,uq)])) by rw [List.length_append,flatM_app]; exact hown)
            clear hown hgrow
            go_wp2_with fail
            go_roundw
            case rel=>first | exact ⟨i + 1,HLI.out,nr_idx i,hid (by rw [HST2.out]; exact HO4.out),by rw [HST2.out]; simp; omega,HR3⟩ | exact ⟨i + 1,HLI.out,nx_idx HLI.out (by omega),hid (by rw [HST2.out]; exact HO4.out),by rw [HST2.out]; simp; omega,HR3⟩
            case measure=>first | exact nr_meas HLI.out | exact nx_meas HLI.out (by omega)
        · have hiI : ¬ (i : Int) < (Q.length : Int):=by omega
          have hie : i = Q.length:=by omega
          have HOF:=hid (show wr.ownsRow w5.heap.size 25 2 u15 (selO O U).length (flatM (selO O U)) by
            have h:=HOW.out
            rw [List.take_of_length_le (by rw [HOL.out,HUL.out]; omega),List.take_of_length_le (by rw [HUL.out]; omega)] at h
            exact h)
          have HFN:=hid (fun W=>fine_any W)
          clear hlt2 HOW hsl
          obtain ⟨oa,oc,hov⟩:=own_slN HOF.out
          subst hov
          go_wp2_with fail
          refine (HFN.out _).mono ?_
          rintro e w6 ⟨rfl,hb⟩
          have HB6:=hid ((HB5.out.trans (HBr.out.mono HB5.out.size)).trans (hb.mono (Nat.le_trans HB5.out.size HBr.out.size)))
          have HE6:=hid ((hb.block _ (Nat.lt_of_lt_of_le (lt_of_blk HE5.out) HBr.out.size)).trans ((HBr.out.block _ (lt_of_blk HE5.out)).trans HE5.out))
          have HO6:=hid (owns_below HOF.out hb)
          clear hb
          obtain ⟨s0,s1,tf⟩:=box_two HE6.out
          have HO7:=hid (own_baseN (own_setN (o:=1) (x:=.int .i64 (-1)) (own_setN (o:=0) (x:=.int .i64 0) HO6.out HE6.out (by decide)) (set_block (o:=0) (x:=.int .i64 0) HE6.out) (by decide)) (show w.heap.size <= w5.heap.size by omega))
          go_wp2_with fail
          refine bodyPost_ret (v:=.tuple #[.slice oa (selO O U).length oc,.agg #[.int .i64 0,.int .i64 (-1)]]) (by simp [results,Tryz.results54,go_sem,s0,s1]) rfl ⟨_,rfl,by rw [HOE.out]; exact HO7.out,?_⟩
          exact put2_below HB6.out (Nat.le_refl _)
theorem too_all (Q : List Raw) (L : List Ent) (roots caps : List Bm) (v rv cv : Value) (w : World) (hn : L.length <= 1000) (hrn : roots.length <= 1000000) (hcn : caps.length <= 1000000) (hs : shortL caps) (hrs : ∀ r,r ∈ roots -> r.2.size < 999999) (sh : ∀ e,e ∈ L -> ShE e) (I : Ixs w v Q L) (hr : MsAt w rv roots) (hc : MsAt w cv caps) :
    Calls Tryz.prog 54 #[v,rv,cv] w fun e w'=>∃ a c,e = .returned (.tuple #[.slice a (tX Q L roots caps).length c,faultV (tF Q L roots caps)]) /\ MsAt w' (.slice a (tX Q L roots caps).length c) (tX Q L roots caps) /\ Below w.heap.size w w':=by
  by_cases h : (tF Q L roots caps).1 = 0
  · have ht : tX Q L roots caps = toL Q L roots caps:=if_pos h
    rw [ht,tF_good h]
    refine (too_good Q L roots caps v rv cv w hn hrn hcn hs hrs sh I hr hc h).mono ?_
    rintro e w' ⟨u,rfl,ho,hb⟩
    have hm:=own_ms ho
    obtain ⟨a,c,hu⟩:=own_slN ho
    subst hu
    exact ⟨a,c,rfl,hm,hb⟩
  · have ht : tX Q L roots caps = []:=if_neg h
    rw [ht]
    by_cases hb : (bF Q L caps).1 = 0
    · have e : tF Q L roots caps = chkG Q L roots:=if_pos hb
      rw [e] at h ⊢
      refine (too_bad2 Q L roots caps v rv cv w hn hrn hcn hs sh I hr hc hb h).mono ?_
      rintro e w' ⟨rfl,hb⟩
      exact ⟨none,0,rfl,⟨none,0,rfl,Nat.zero_le _,fun h=>absurd rfl h⟩,hb⟩
    · have e : tF Q L roots caps = bF Q L caps:=if_neg hb
      rw [e]
      refine (too_bad1 Q L roots caps v rv cv w hn hcn hs sh I hr hc hb).mono ?_
      rintro e w' ⟨rfl,hb⟩
      exact ⟨none,0,rfl,⟨none,0,rfl,Nat.zero_le _,fun h=>absurd rfl h⟩,hb⟩
end Ve
end Go.Proofs.YtlcffhadobhfkaaGreatDoor
