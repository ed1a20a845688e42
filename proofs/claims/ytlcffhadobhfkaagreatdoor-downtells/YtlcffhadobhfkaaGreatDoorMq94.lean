/-
  DtC DtD
-/
import Derived.Test.YtlcffhadobhfkaaGreatDoorMq3
import Derived.Test.YtlcffhadobhfkaaGreatDoorMq2
import Derived.Test.YtlcffhadobhfkaaGreatDoorMq5
import Derived.Test.YtlcffhadobhfkaaGreatDoorMq6
import Derived.Test.YtlcffhadobhfkaaGreatDoorMq9
import Derived.Test.YtlcffhadobhfkaaGreatDoorMq11
import Derived.Test.YtlcffhadobhfkaaGreatDoorMq18
import Derived.Test.YtlcffhadobhfkaaGreatDoorMq19
import Derived.Test.YtlcffhadobhfkaaGreatDoorMq15
import Derived.Test.YtlcffhadobhfkaaGreatDoorMq20
import Derived.Test.YtlcffhadobhfkaaGreatDoorMq23
import Derived.Test.YtlcffhadobhfkaaGreatDoorMq16
import Derived.Test.YtlcffhadobhfkaaGreatDoorMq28
import Derived.Test.YtlcffhadobhfkaaGreatDoorMq1
import Derived.Test.YtlcffhadobhfkaaGreatDoorMq22
import Derived.Test.YtlcffhadobhfkaaGreatDoorMq34
import Derived.Test.YtlcffhadobhfkaaGreatDoorMq39
import Derived.Test.YtlcffhadobhfkaaGreatDoorMq43
import Derived.Test.YtlcffhadobhfkaaGreatDoorMq47
import Derived.Test.YtlcffhadobhfkaaGreatDoorMq45
import Derived.Test.YtlcffhadobhfkaaGreatDoorMq37
import Derived.Test.YtlcffhadobhfkaaGreatDoorMq30
import Derived.Test.YtlcffhadobhfkaaGreatDoorMq48
import Derived.Test.YtlcffhadobhfkaaGreatDoorMq87
import Derived.Test.YtlcffhadobhfkaaGreatDoorMq88
import Derived.Test.YtlcffhadobhfkaaGreatDoorMq90
import Derived.Test.YtlcffhadobhfkaaGreatDoorMq85
namespace Go.Proofs.YtlcffhadobhfkaaGreatDoor
open Go.RowKit Go.Maps
namespace Ve
theorem one_cell {W : World} {T : TypeId} {x : Value} : ∀ t u,([x] : List Value)[t]? = some u -> (W.alloc (.cells #[x] T)).cell? ((⟨W.heap.size,0,none⟩ : Addr).add t) = some u:=by
  intro t u ht
  match t,ht with
  | 0,ht=>simp at ht; subst ht; simp [Addr.add]
  | t + 1,ht=>simp at ht
set_option maxRecDepth 100000 in
set_option maxHeartbeats 8000000 in
theorem bdo_good (Q : List Raw) (L : List Ent) (caps : List Bm) (v cv : Value) (w : World) (hn : L.length ≤ 1000) (hcn : caps.length ≤ 1000000) (hs : shortL caps) (sh : ∀ e, e ∈ L → ShE e) (I : Ixs w v Q L) (hc : MsAt w cv caps) (h0 : (chk Q L).1 = 0) (h1 : (chkP caps).1 = 0) :
    Calls Tryz.prog 53 #[v,cv] w fun e w'=>∃ u,e = .returned (.tuple #[u,.agg #[.int .i64 0,.int .i64 (-1)]]) /\ BvAt w' u (bdL Q L caps) /\ Below w.heap.size w w':=by
  have HB0:=hid ((Below.refl w.heap.size w).alloc (Nat.le_refl _) (.cells #[.int .i64 0,.int .i64 0] 36))
  have HE0:=hid (heap_new w (.cells #[.int .i64 0,.int .i64 0] 36))
  have HIF:=hid (iFault_any Q L v _ hn sh (I.below HB0.out))
  have HRF:=hid (fun W (h : Below w.heap.size w W)=>capsF_any caps cv W hcn hs (hc.below h))
  have HUL:=hid (show (univ L).length = Q.length by rw [I.ln]; simp [univ])
  have HBL:=hid (show (bdL Q L caps).length = Q.length by rw [bdL_len,I.ln])
  have hqn : Q.length <= 1000:=by rw [I.ln]; exact hn
  have HMK:=hid (fun i (hi : i < (univ L).length) rv W (h : Below w.heap.size w W) (hr : MsAt W rv [(univ L)[i]])=>marks_any Q L [(univ L)[i]] v rv W hn (by simp) sh (I.below h) hr (chkG_in I h0 fun x hx=>by rw [List.mem_singleton.1 hx]; exact List.getElem_mem hi))
  have HHB:=hid (fun i (hi : i < (univ L).length) O hl hO h'=>hit_bd (caps:=caps) (O:=O) (i:=i) I h0 hi hl hO h')
  have HES:=hid (fun W (h : Below w.heap.size w W)=>(I.below h).es)
  have HCS:=hid (fun W (h : Below w.heap.size w W)=>hc.below h)
  have HCZ:=hid hs
  have HUZ:=hid (fun i (hi : i < (univ L).length)=>show (univ L)[i].2.size < 999999 by
    have hi' : i < L.length:=by rw [univ_len] at hi; exact hi
    have:=(sh L[i] (List.getElem_mem hi')).v
    simpa [univ] using this)
  have HUM:=hid (fun i (hi : i < Q.length) (hi' : i < (univ L).length)=>show Q[i].1 = (univ L)[i] by
    have:=(I.ok i hi (by rw [<- I.ln]; exact hi)).m
    simp only [univ,List.getElem_map]
    exact this)
  obtain ⟨i0,hi0,hz0,hz1,hz2⟩:=info_parts infoBool
  obtain ⟨a,c,hv1,-⟩:=id I.es
  subst hv1
  obtain ⟨ra,rc,hrv,-⟩:=id hc
  subst hrv
  obtain ⟨oo0,hco⟩ : ∃ oo,chk Q L = (0,oo):=⟨(chk Q L).2,Prod.ext h0 rfl⟩
  rw [hco] at HIF
  obtain ⟨oo1,hcp⟩ : ∃ oo,chkP caps = (0,oo):=⟨(chkP caps).2,Prod.ext h1 rfl⟩
  rw [hcp] at HRF
  unfold faultV at HIF HRF
  simp only at HIF HRF
  generalize atOf oo0 = ao0 at *
  generalize atOf oo1 = ar at *
  clear I hc hs sh h0 hco h1 hcp
  generalize bdL Q L caps = BL at *
  go_enter Tryz.func53,Tryz.ntmps53
  go_wp2_with fail
  refine HIF.out.mono ?_
  rintro e w1 ⟨rfl,hb⟩
  have HB1:=hid (HB0.out.trans (hb.mono HB0.out.size))
  have HE1:=hid ((hb.block _ (lt_of_blk HE0.out)).trans HE0.out)
  clear hb
  have HB2:=hid (HB1.out.alloc HB1.out.size (.cells #[.int .i64 0,.int .i64 ao0] 36))
  have HE2:=hid (heap_old w1 (.cells #[.int .i64 0,.int .i64 ao0] 36) HE1.out)
  have HF2:=hid (heap_new w1 (.cells #[.int .i64 0,.int .i64 ao0] 36))
  have HLT:=hid (lt_of_blk HE1.out)
  have hne : ¬ w1.heap.size = w.heap.size:=Nat.ne_of_gt (lt_of_blk HE1.out)
  have hne2 : ¬ w.heap.size = w1.heap.size:=Nat.ne_of_lt (lt_of_blk HE1.out)
  go_wp2_with fail
  generalize hg2 : w1.alloc (.cells #[.int .i64 0,.int .i64 ao0] 36) = w2 at *
  clear hg2
  refine (HRF.out _ HB2.out).mono ?_
  rintro e w3 ⟨rfl,hb⟩
  have HB3a:=hid (HB2.out.trans (hb.mono HB2.out.size))
  have HE3a:=hid ((hb.block _ (lt_of_blk HE2.out)).trans HE2.out)
  have HF3a:=hid ((hb.block _ (lt_of_blk HF2.out)).trans HF2.out)
  clear hb
  have HB3:=hid (put2_below (x:=.int .i64 0) (y:=.int .i64 ar) HB3a.out (Nat.le_of_lt HLT.out))
  have HE3:=hid (keep_set (fb:=w1.heap.size) (o:=1) (x:=.int .i64 ar) (keep_set (fb:=w1.heap.size) (o:=0) (x:=.int .i64 0) HE3a.out hne2) hne2)
  have HF3:=hid (set_block (o:=1) (x:=.int .i64 ar) (set_block (o:=0) (x:=.int .i64 0) HF3a.out))
  obtain ⟨g0,g1,gf⟩:=box_two HF3a.out
  go_wp2_with fail
  generalize hg3 : (w3.setCell ⟨w1.heap.size,0,none⟩ (.int .i64 0)).setCell ⟨w1.heap.size,1,none⟩ (.int .i64 ar) = w5 at *
  clear hg3 g0 g1 gf HIF HRF HE3a HF3a HB3a HE2 HF2 HB2 HE1 HB1 HE0 HB0
  have HBW:=hid (fun W (h : Below w5.heap.size w5 W)=>HB3.out.trans (h.mono HB3.out.size))
  have hw5:=HB3.out.size
  go_loopw [7,8] (fun ov iv wr=>∃ i : Nat,i <= Q.length /\ iv = .int .i64 i /\ Hid (wr.ownsRow w5.heap.size 4 1 ov i ((BL.take i).map Value.bool)) /\ Hid (Below w5.heap.size w5 wr)) (fun _ iv _=>Q.length - (intOf iv).toNat)
  case atStart=>exact ⟨0,Nat.zero_le _,rfl,hid (by simp only [List.take_zero,List.map_nil]; exact World.ownsRow_nil _ _ _ _),hid (Below.refl _ _)⟩
  case round=>
    obtain ⟨i,hi,rfl,HOW,HBr⟩:=hrel
    by_cases hlt : i < Q.length
    · have hiI : (i : Int) < (Q.length : Int):=by omega
      have hii : (0 : Int) <= (i : Int):=by omega
      have HLI:=hid hlt
      have hiU : i < (univ L).length:=by rw [HUL.out]; exact hlt
      have hiB : i < BL.length:=by rw [HBL.out]; exact hlt
      have hes:=HES.out _ (HBW.out _ HBr.out)
      obtain ⟨b,o,hab,-⟩:=es_cells hes hlt
      subst hab
      obtain ⟨-,x0,x1,-,-,-⟩:=es_all hes hlt
      rw [HUM.out i hlt hiU] at x0 x1
      have HMR:=hid (HMK.out i hiU)
      have HHR:=hid (fun O hl hO=>HHB.out i hiU O hl hO hiB)
      have HBT:=hid (show (BL.take (i + 1)).map Value.bool = (BL.take i).map Value.bool ++ [.bool BL[i]] by rw [List.take_succ_eq_append_getElem hiB,List.map_append]; rfl)
      generalize (univ L)[i] = um at *
      obtain ⟨up,uq⟩:=um
      simp only at x0 x1
      obtain ⟨bi,hbi⟩ : ∃ b,BL[i] = b:=⟨_,rfl⟩
      rw [hbi] at HHR HBT
      clear hes hlt hbi
      have HBa:=hid (HBr.out.alloc HBr.out.size (.cells #[.string up,.string uq] 25))
      have HOa:=hid (HOW.out.alloc (.cells #[.string up,.string uq] 25))
      have HMa:=hid (ms_one1 (x:=(up,uq)) (heap_new wr (.cells #[.string up,.string uq] 25)))
      go_wp2_with fail
      generalize hA : wr.alloc (.cells #[.string up,.string uq] 25) = wA at *
      clear hA x0 x1
      refine (HMR.out _ wA (HBW.out _ HBa.out) HMa.out).mono ?_
      rintro e w6 ⟨O,rfl,hM,hO⟩
      have HB6:=hid (HBa.out.trans (hM.bl.mono HBa.out.size))
      have HO6:=hid (owns_below HOa.out hM.bl)
      have HH6:=hid hM.hp
      have HOL:=hid hM.ok.ln
      have HAN:=hid (HHR.out O hM.ok.ln hO)
      clear hM hO HMR HMa HBa HOa HBr HOW HHR
      generalize wA.heap.size = gM at *
      go_wp2_with fail
      go_loopw [10,11] (fun bv kv wr=>∃ k : Nat,k <= Q.length /\ kv = .int .i64 k /\ bv = .bool (anyN (hitN O (univ L) caps) k) /\ Hid (Below w6.heap.size w6 wr)) (fun _ kv _=>Q.length - (intOf kv).toNat)
      case atStart=>exact ⟨0,Nat.zero_le _,rfl,rfl,hid (Below.refl _ _)⟩
      case round=>
        obtain ⟨k,hk,rfl,rfl,HBk⟩:=hrel
        have HBk5:=hid (HB6.out.trans (HBk.out.mono HB6.out.size))
        by_cases hlk : k < Q.length
        · have hkI : (k : Int) < (Q.length : Int):=by omega
          have hki : (0 : Int) <= (k : Int):=by omega
          have HLK:=hid hlk
          have hkU : k < (univ L).length:=by rw [HUL.out]; exact hlk
          have hkO : k < O.length:=by rw [HOL.out]; exact hkU
          have HEK:=hid (fun W (h : Below w5.heap.size w5 W)=>show W.cell? ⟨b,o + k * 5,none⟩ = some (.string (Q[k]'hlk).1.1) /\ W.cell? ⟨b,o + k * 5 + 1,none⟩ = some (.string (Q[k]'hlk).1.2) from ⟨(es_all (HES.out _ (HBW.out _ h)) hlk).2.1,(es_all (HES.out _ (HBW.out _ h)) hlk).2.2.1⟩)
          have m0:=cell_below HBk.out (bwc_at HH6.out hkO)
          have HNX:=hid (show anyN (hitN O (univ L) caps) (k + 1) = (anyN (hitN O (univ L) caps) k || (O[k] && capB caps (univ L)[k])) by rw [<- hitN_at hkU hkO]; rfl)
          have hkz:=HUZ.out k hkU
          have HEQ:=HUM.out k hlk hkU
          rw [HEQ] at HEK
          clear HEQ
          generalize (univ L)[k] = um at *
          obtain ⟨kp,kq⟩:=um
          simp only at hkz HEK
          obtain ⟨ok,hok⟩ : ∃ b,O[k] = b:=⟨_,rfl⟩
          rw [hok] at m0 HNX
          generalize anyN (hitN O (univ L) caps) k = cur at *
          obtain ⟨x0,x1⟩:=HEK.out _ HBk5.out
          have HFP:=hid (fp_is caps kp _ wr hcn (HCS.out _ (HBW.out _ HBk5.out)))
          clear hlk hok
          rcases fpOf_kind caps kp with ⟨e1,h2⟩ | ⟨ka,hka,e1,h2,h3⟩
          · have hcb:=capB_none (m:=(kp,kq)) fun c hc=>of_decide_eq_false (h2 c hc)
            rw [hcb,Bool.and_false,Bool.or_false] at HNX
            rw [e1] at HFP
            clear e1 h2 hcb
            go_wp2_with fail
            refine HFP.out.mono ?_
            rintro e w7 ⟨rfl,rfl⟩
            cases ok
            all_goals
              go_wp2_with fail
              go_roundw
              case rel=>first | exact ⟨k + 1,HLK.out,nr_idx k,by rw [HNX.out],HBk⟩ | exact ⟨k + 1,HLK.out,nx_idx HLK.out (by omega),by rw [HNX.out],HBk⟩
              case measure=>first | exact nr_meas HLK.out | exact nx_meas HLK.out (by omega)
          · have hcb:=capB_at (m:=(kp,kq)) (atP_first hka (of_decide_eq_true h2) fun j hj hjk=>of_decide_eq_false (h3 j hj hjk))
            rw [e1] at HFP
            rw [hcb] at HNX
            obtain ⟨cb,co,hca,-⟩:=(HCS.out _ (HBW.out _ HBk5.out)).cells hka
            subst hca
            have HCC:=hid (fun W (h : Below w5.heap.size w5 W)=>ms_atC (HCS.out _ (HBW.out _ h)) hka)
            have hz:=HCZ.out caps[ka] (List.getElem_mem hka)
            have hk0 : ¬ (ka : Int) < 0:=by omega
            have hkI2 : (ka : Int) < (caps.length : Int):=by omega
            have hkJ : (0 : Int) <= (ka : Int):=by omega
            generalize caps[ka] = x at *
            obtain ⟨c1,c2⟩:=x
            simp only at hz HCC
            have HL:=hid (fun W=>isLess_any c2 kq W hz.2 hkz)
            obtain ⟨nb,hnb,hnd⟩ : ∃ nb : Bool,(c2.toList == [110,111,110,101]) = nb /\ decide (c2.data.toList = noneL) = nb:=by
              by_cases h : c2.data.toList = noneL
              · exact ⟨true,by rw [ByteArray.toList_eq]; exact beq_iff_eq.2 h,decide_eq_true h⟩
              · exact ⟨false,by rw [ByteArray.toList_eq]; exact beq_eq_false_iff_ne.2 h,decide_eq_false h⟩
            have HNY:=hid (show anyN (hitN O (univ L) caps) (k + 1) = (cur || (ok && (nb || lessB c2.data.toList kq.data.toList))) by rw [HNX.out,<- hnd])
            generalize lessB c2.data.toList kq.data.toList = z at *
            clear e1 h2 h3 hcb hnd HNX
            go_wp2_with fail
            refine HFP.out.mono ?_
            rintro e w7 ⟨rfl,rfl⟩
            cases ok
            · go_wp2_with fail
              go_roundw
              case rel=>first | exact ⟨k + 1,HLK.out,nr_idx k,by rw [HNY.out]; simp,HBk⟩ | exact ⟨k + 1,HLK.out,nx_idx HLK.out (by omega),by rw [HNY.out]; simp,HBk⟩
              case measure=>first | exact nr_meas HLK.out | exact nx_meas HLK.out (by omega)
            · obtain ⟨y0,y1⟩:=HCC.out _ HBk5.out
              have HTT:=hid (fun W' (hW : Below w7.heap.size w7 W')=>(show (fun W'=>W'.cell? ⟨b,o + k * 5,none⟩ = some (.string kp) /\ W'.cell? ⟨b,o + k * 5 + 1,none⟩ = some (.string kq) /\ W'.cell? ⟨cb,co + ka * 2,none⟩ = some (.string c1) /\ W'.cell? ⟨cb,co + ka * 2 + 1,none⟩ = some (.string c2) /\ Hid (Below w7.heap.size w7 W')) W' from ⟨cell_below hW x0,cell_below hW x1,cell_below hW y0,cell_below hW y1,hid hW⟩))
              go_wp2_with fail
              go_region_held (fun W'=>W'.cell? ⟨b,o + k * 5,none⟩ = some (.string kp) /\ W'.cell? ⟨b,o + k * 5 + 1,none⟩ = some (.string kq) /\ W'.cell? ⟨cb,co + ka * 2,none⟩ = some (.string c1) /\ W'.cell? ⟨cb,co + ka * 2 + 1,none⟩ = some (.string c2) /\ Hid (Below w7.heap.size w7 W')) (first | exact HTT.out _ HRa.out | exact HTT.out _ (below_drawn _ 1)) (first
                | (go_at_call 49; refine (HL.out _).mono ?_; rintro e w' ⟨rfl,hb⟩; have HRa:=hid ((below_drawn w7 1).trans (hb.mono (Nat.le_refl _))); clear hb))
              all_goals
                have HBq:=hid (HBk.out.trans (HRa.out.mono HBk.out.size))
                obtain ⟨-,-,y0,y1,-⟩:=HTT.out _ HRa.out
                cases cur <;> cases z
                all_goals
                  go_wp2_with fail
                  go_roundw
                  case rel=>first | exact ⟨k + 1,HLK.out,nr_idx k,by first | (rw [HNY.out]; simp) | (rw [HNY.out]; rfl),HBq⟩ | exact ⟨k + 1,HLK.out,nx_idx HLK.out (by omega),by first | (rw [HNY.out]; simp) | (rw [HNY.out]; rfl),HBq⟩
                  case measure=>first | exact nr_meas HLK.out | exact nx_meas HLK.out (by omega)
        · have hkI : ¬ (k : Int) < (Q.length : Int):=by omega
          have hke : k = (univ L).length:=by rw [HUL.out]; omega
          rw [hke] at hkI ⊢
          rw [HAN.out]
          have HOk:=hid (owns_below HO6.out HBk.out)
          have hwz:=HBk5.out.size
          clear hlk hke HBk
          go_wp2_with (at_builtin; refine wpList_append_own _ rfl _ _ 68 rfl w5.heap.size 4 i0 _ 1 1 Tryz.underlying68 hi0 hz0 hz1 hz2 rfl (by decide) _ _ _ rfl (HOk.out.alloc _) ⟨wr.heap.size,0,none⟩ 1 1 [.bool bi] rfl rfl one_cell ?c2 ?c3 ?c4 ?c5 ?_)
          case c2=>first | rfl | (intro u hu; simp at hu; subst hu; rfl)
          case c3=>unfold maxLen; omega
          case c4=>omega
          case c5=>first | omega | (simp; omega)
          intro v' w8 hown hgrow _
          have HR3:=hid (rel_appK HBk5.out.size HBk5.out HOk.out (Below.refl _ _) hgrow)
          have HO4:=hid (show w8.ownsRow w5.heap.size 4 1 v' (i + 1) ((BL.take (i + 1)).map Value.bool) by rw [HBT.out,List.map_take]; exact hown)
          clear hown hgrow
          go_wp2_with fail
          go_roundw
          case rel=>first | exact ⟨i + 1,HLI.out,nr_idx i,HO4,HR3⟩ | exact ⟨i + 1,HLI.out,nx_idx HLI.out (by omega),HO4,HR3⟩
          case measure=>first | exact nr_meas HLI.out | exact nx_meas HLI.out (by omega)
    · have hiI : ¬ (i : Int) < (Q.length : Int):=by omega
      have hie : i = BL.length:=by rw [HBL.out]; omega
      have HOF:=hid (show wr.ownsRow w5.heap.size 4 1 u7 BL.length (BL.map Value.bool) by
        have h:=HOW.out
        rw [hie,List.take_length] at h
        exact h)
      have HFN:=hid (fun W=>fine_any W)
      clear hlt HOW hie
      obtain ⟨oa,oc,hov⟩:=own_slN HOF.out
      subst hov
      go_wp2_with fail
      refine (HFN.out _).mono ?_
      rintro e w6 ⟨rfl,hb⟩
      have HB6:=hid (HBW.out _ (HBr.out.trans (hb.mono HBr.out.size)))
      have HE6:=hid ((hb.block _ (Nat.lt_of_lt_of_le (lt_of_blk HE3.out) HBr.out.size)).trans ((HBr.out.block _ (lt_of_blk HE3.out)).trans HE3.out))
      have HO6:=hid (owns_below HOF.out hb)
      clear hb
      obtain ⟨s0,s1,tf⟩:=box_two HE6.out
      have HO7:=hid (own_bv (own_setN (o:=1) (x:=.int .i64 (-1)) (own_setN (o:=0) (x:=.int .i64 0) HO6.out HE6.out (by decide)) (set_block (o:=0) (x:=.int .i64 0) HE6.out) (by decide)))
      go_wp2_with fail
      refine bodyPost_ret (v:=.tuple #[.slice oa BL.length oc,.agg #[.int .i64 0,.int .i64 (-1)]]) (by simp [results,Tryz.results53,go_sem,s0,s1]) rfl ⟨_,rfl,HO7.out,?_⟩
      exact put2_below HB6.out (Nat.le_refl _)
theorem bF_good {Q : List Raw} {L : List Ent} {caps : List Bm} (h0 : (bF Q L caps).1 = 0) : bF Q L caps = (0,none):=by
  refine Prod.ext h0 ?_
  obtain ⟨k0,k1⟩:=bF_chk h0
  have e : bF Q L caps = chkP caps:=if_pos k0
  rw [e]
  cases h3 : fstE (capE caps) caps.length with
  | none=>exact h3
  | some j=>
    have h4 : codeE (capE caps) caps.length = 0:=k1
    rw [codeE_some h3] at h4
    exact absurd h4 (fstE_of_some h3).2.1
theorem bdo_all (Q : List Raw) (L : List Ent) (caps : List Bm) (v cv : Value) (w : World) (hn : L.length <= 1000) (hcn : caps.length <= 1000000) (hs : shortL caps) (sh : ∀ e,e ∈ L -> ShE e) (I : Ixs w v Q L) (hc : MsAt w cv caps) :
    Calls Tryz.prog 53 #[v,cv] w fun e w'=>∃ a c,e = .returned (.tuple #[.slice a (bO Q L caps).length c,faultV (bF Q L caps)]) /\ BvAt w' (.slice a (bO Q L caps).length c) (bO Q L caps) /\ Below w.heap.size w w':=by
  by_cases h0 : (bF Q L caps).1 = 0
  · obtain ⟨k0,k1⟩:=bF_chk h0
    have hb : bO Q L caps = bdL Q L caps:=if_pos h0
    rw [hb,bF_good h0]
    refine (bdo_good Q L caps v cv w hn hcn hs sh I hc k0 k1).mono ?_
    rintro e w' ⟨u,rfl,hv,hb⟩
    obtain ⟨a,c,hu,-⟩:=id hv
    subst hu
    exact ⟨a,c,rfl,hv,hb⟩
  · have hb : bO Q L caps = []:=if_neg h0
    rw [hb]
    by_cases hc0 : (chk Q L).1 = 0
    · have e : bF Q L caps = chkP caps:=if_pos hc0
      rw [e] at h0 ⊢
      refine (bdo_bad2 Q L caps v cv w hn hcn hs sh I hc hc0 h0).mono ?_
      rintro e w' ⟨rfl,hb⟩
      exact ⟨none,0,rfl,⟨none,0,rfl,fun h=>absurd rfl h⟩,hb⟩
    · have e : bF Q L caps = chk Q L:=if_neg hc0
      rw [e]
      refine (bdo_bad1 Q L caps v cv w hn sh I hc hc0).mono ?_
      rintro e w' ⟨rfl,hb⟩
      exact ⟨none,0,rfl,⟨none,0,rfl,fun h=>absurd rfl h⟩,hb⟩
set_option maxRecDepth 100000 in
set_option maxHeartbeats 4000000 in
theorem too_bad1 (Q : List Raw) (L : List Ent) (roots caps : List Bm) (v rv cv : Value) (w : World) (hn : L.length <= 1000) (hcn : caps.length <= 1000000) (hs : shortL caps) (sh : ∀ e,e ∈ L -> ShE e) (I : Ixs w v Q L) (hr : MsAt w rv roots) (hc : MsAt w cv caps) (h0 : (bF Q L caps).1 ≠ 0) :
    Calls Tryz.prog 54 #[v,rv,cv] w fun e w'=>e = .returned (.tuple #[.slice none 0 0,faultV (bF Q L caps)]) /\ Below w.heap.size w w':=by
  have HB0:=hid ((Below.refl w.heap.size w).alloc (Nat.le_refl _) (.cells #[.int .i64 0,.int .i64 0] 36))
  have HE0:=hid (heap_new w (.cells #[.int .i64 0,.int .i64 0] 36))
  have HIF:=hid (bdo_all Q L caps v cv _ hn hcn hs sh (I.below HB0.out) (hc.below HB0.out))
  obtain ⟨a,c,hv1,-⟩:=id I.es
  subst hv1
  obtain ⟨ra,rc,hrv,-⟩:=id hr
  subst hrv
  obtain ⟨ca,c2,hcv,-⟩:=id hc
  subst hcv
  obtain ⟨cc,oo,hco⟩ : ∃ cc oo,bF Q L caps = (cc,oo):=⟨_,_,rfl⟩
  rw [hco] at HIF h0 ⊢
  unfold faultV at HIF ⊢
  simp only at HIF h0 ⊢
  generalize atOf oo = ao at *
  have hpos : (0 : Int) < (cc : Int):=by omega
  have hnz : ((cc : Int) == 0) = false:=by simp; omega
  have hnz2 : ¬ (cc : Int) = 0:=by omega
  clear I hr hc hs sh h0 hco
  go_enter Tryz.func54,Tryz.ntmps54
  go_wp2_with fail
  refine HIF.out.mono ?_
  rintro e w1 ⟨ba,bc,rfl,-,hb⟩
  have HB1:=hid (HB0.out.trans (hb.mono HB0.out.size))
  have HE1:=hid ((hb.block _ (lt_of_blk HE0.out)).trans HE0.out)
  clear hb
  have HB2:=hid (HB1.out.alloc HB1.out.size (.cells #[.int .i64 (cc : Int),.int .i64 ao] 36))
  have HE2:=hid (heap_old w1 (.cells #[.int .i64 (cc : Int),.int .i64 ao] 36) HE1.out)
  have HF2:=hid (heap_new w1 (.cells #[.int .i64 (cc : Int),.int .i64 ao] 36))
  have HLT:=hid (lt_of_blk HE1.out)
  have hne : ¬ w1.heap.size = w.heap.size:=Nat.ne_of_gt (lt_of_blk HE1.out)
  have hne2 : ¬ w.heap.size = w1.heap.size:=Nat.ne_of_lt (lt_of_blk HE1.out)
  go_wp2_with fail
  generalize w1.alloc (.cells #[.int .i64 (cc : Int),.int .i64 ao] 36) = w2 at *
  have HBx:=HB2
  have HEx:=HE2
  have HFx:=HF2
  obtain ⟨s0,s1,tf⟩:=box_two HEx.out
  obtain ⟨f0,f1,_⟩:=box_two HFx.out
  go_region_with fail
  all_goals
    go_wp2_with fail
    refine bodyPost_ret (v:=.tuple #[.slice none 0 0,.agg #[.int .i64 (cc : Int),.int .i64 ao]]) (by simp [results,Tryz.results54,go_sem,s0,s1]) rfl ⟨rfl,?_⟩
    exact put2_below (below_drawn_of HBx.out 1) (Nat.le_refl _)
set_option maxRecDepth 100000 in
set_option maxHeartbeats 4000000 in
theorem too_bad2 (Q : List Raw) (L : List Ent) (roots caps : List Bm) (v rv cv : Value) (w : World) (hn : L.length <= 1000) (hrn : roots.length <= 1000000) (hcn : caps.length <= 1000000) (hs : shortL caps) (sh : ∀ e,e ∈ L -> ShE e) (I : Ixs w v Q L) (hr : MsAt w rv roots) (hc : MsAt w cv caps) (h0 : (bF Q L caps).1 = 0) (h1 : (chkG Q L roots).1 ≠ 0) :
    Calls Tryz.prog 54 #[v,rv,cv] w fun e w'=>e = .returned (.tuple #[.slice none 0 0,faultV (chkG Q L roots)]) /\ Below w.heap.size w w':=by
  have HB0:=hid ((Below.refl w.heap.size w).alloc (Nat.le_refl _) (.cells #[.int .i64 0,.int .i64 0] 36))
  have HE0:=hid (heap_new w (.cells #[.int .i64 0,.int .i64 0] 36))
  have HIF:=hid (bdo_all Q L caps v cv _ hn hcn hs sh (I.below HB0.out) (hc.below HB0.out))
  rw [bF_good h0] at HIF
  have HRF:=hid (fun W (h : Below w.heap.size w W)=>rFault_any Q roots v rv W (by rw [I.ln]; exact hn) hrn (I.below h).es (hr.below h))
  rw [<- chkG_ok (bF_chk h0).1] at HRF
  obtain ⟨a,c,hv1,-⟩:=id I.es
  subst hv1
  obtain ⟨ra,rc,hrv,-⟩:=id hr
  subst hrv
  obtain ⟨ca,c2,hcv,-⟩:=id hc
  subst hcv
  obtain ⟨rc0,oo1,hcp⟩ : ∃ cc oo,chkG Q L roots = (cc,oo):=⟨_,_,rfl⟩
  rw [hcp] at HRF h1 ⊢
  unfold faultV at HIF HRF ⊢
  simp only at HIF HRF h1 ⊢
  rw [show atOf none = -1 from rfl] at HIF
  generalize atOf oo1 = ar at *
  have hpos : (0 : Int) < (rc0 : Int):=by omega
  have hnz : ((rc0 : Int) == 0) = false:=by simp; omega
  have hnz2 : ¬ (rc0 : Int) = 0:=by omega
  clear I hr hc hs sh h0 h1 hcp
  go_enter Tryz.func54,Tryz.ntmps54
  go_wp2_with fail
  refine HIF.out.mono ?_
  rintro e w1 ⟨ba,bc,rfl,-,hb⟩
  have HB1:=hid (HB0.out.trans (hb.mono HB0.out.size))
  have HE1:=hid ((hb.block _ (lt_of_blk HE0.out)).trans HE0.out)
  clear hb
  have HB2:=hid (HB1.out.alloc HB1.out.size (.cells #[.int .i64 0,.int .i64 (-1)] 36))
  have HE2:=hid (heap_old w1 (.cells #[.int .i64 0,.int .i64 (-1)] 36) HE1.out)
  have HF2:=hid (heap_new w1 (.cells #[.int .i64 0,.int .i64 (-1)] 36))
  have HLT:=hid (lt_of_blk HE1.out)
  have hne : ¬ w1.heap.size = w.heap.size:=Nat.ne_of_gt (lt_of_blk HE1.out)
  have hne2 : ¬ w.heap.size = w1.heap.size:=Nat.ne_of_lt (lt_of_blk HE1.out)
  go_wp2_with fail
  generalize hg2 : w1.alloc (.cells #[.int .i64 0,.int .i64 (-1)] 36) = w2 at *
  clear hg2
  refine (HRF.out _ HB2.out).mono ?_
  rintro e w3 ⟨rfl,hb⟩
  have HB3a:=hid (HB2.out.trans (hb.mono HB2.out.size))
  have HE3a:=hid ((hb.block _ (lt_of_blk HE2.out)).trans HE2.out)
  have HF3a:=hid ((hb.block _ (lt_of_blk HF2.out)).trans HF2.out)
  clear hb
  have HB3:=hid (put2_below (x:=.int .i64 (rc0 : Int)) (y:=.int .i64 ar) HB3a.out (Nat.le_of_lt HLT.out))
  have HE3:=hid (keep_set (fb:=w1.heap.size) (o:=1) (x:=.int .i64 ar) (keep_set (fb:=w1.heap.size) (o:=0) (x:=.int .i64 (rc0 : Int)) HE3a.out hne2) hne2)
  have HF3:=hid (set_block (o:=1) (x:=.int .i64 ar) (set_block (o:=0) (x:=.int .i64 (rc0 : Int)) HF3a.out))
  obtain ⟨g0,g1,gf⟩:=box_two HF3a.out
  go_wp2_with fail
  generalize hg3 : (w3.setCell ⟨w1.heap.size,0,none⟩ (.int .i64 (rc0 : Int))).setCell ⟨w1.heap.size,1,none⟩ (.int .i64 ar) = w3b at *
  clear hg3 g0 g1 gf
  have HF3 : Hid (w3b.heap[w1.heap.size]? = some (.cells #[.int .i64 (rc0 : Int),.int .i64 ar] 36 (0,0))):=hid HF3.out
  have HBx:=HB3
  have HEx:=HE3
  have HFx:=HF3
  obtain ⟨s0,s1,tf⟩:=box_two HEx.out
  obtain ⟨f0,f1,_⟩:=box_two HFx.out
  go_region_with fail
  all_goals
    go_wp2_with fail
    refine bodyPost_ret (v:=.tuple #[.slice none 0 0,.agg #[.int .i64 (rc0 : Int),.int .i64 ar]]) (by simp [results,Tryz.results54,go_sem,s0,s1]) rfl ⟨rfl,?_⟩
    exact put2_below (below_drawn_of HBx.out 1) (Nat.le_refl _)
end Ve
end Go.Proofs.YtlcffhadobhfkaaGreatDoor
