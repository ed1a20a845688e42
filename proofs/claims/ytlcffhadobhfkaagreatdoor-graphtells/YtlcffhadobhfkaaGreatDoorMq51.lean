/-
  GtF GtG
-/
import Derived.Test.YtlcffhadobhfkaaGreatDoorMq3
import Derived.Test.YtlcffhadobhfkaaGreatDoorMq5
import Derived.Test.YtlcffhadobhfkaaGreatDoorMq6
import Derived.Test.YtlcffhadobhfkaaGreatDoorMq9
import Derived.Test.YtlcffhadobhfkaaGreatDoorMq11
import Derived.Test.YtlcffhadobhfkaaGreatDoorMq2
import Derived.Test.YtlcffhadobhfkaaGreatDoorMq18
import Derived.Test.YtlcffhadobhfkaaGreatDoorMq19
import Derived.Test.YtlcffhadobhfkaaGreatDoorMq20
import Derived.Test.YtlcffhadobhfkaaGreatDoorMq17
import Derived.Test.YtlcffhadobhfkaaGreatDoorMq23
import Derived.Test.YtlcffhadobhfkaaGreatDoorMq1
import Derived.Test.YtlcffhadobhfkaaGreatDoorMq37
import Derived.Test.YtlcffhadobhfkaaGreatDoorMq22
import Derived.Test.YtlcffhadobhfkaaGreatDoorMq34
import Derived.Test.YtlcffhadobhfkaaGreatDoorMq44
import Derived.Test.YtlcffhadobhfkaaGreatDoorMq39
import Derived.Test.YtlcffhadobhfkaaGreatDoorMq47
import Derived.Test.YtlcffhadobhfkaaGreatDoorMq43
import Derived.Test.YtlcffhadobhfkaaGreatDoorMq45
import Derived.Test.YtlcffhadobhfkaaGreatDoorMq49
import Derived.Test.YtlcffhadobhfkaaGreatDoorMq50
namespace Go.Proofs.YtlcffhadobhfkaaGreatDoor
open Go.RowKit Go.Maps
namespace Ve
theorem rX_lenR {Q : List Raw} {L : List Ent} {roots : List Bm} (sh : ∀ e,e ∈ L -> ShE e) : ∀ m,m ∈ rX Q L roots -> (reqQ Q L m).length <= 1000000:=fun m _=>by
  unfold reqQ
  split
  · simp
  · cases h : L[(idxOf (isM m) Q).toNat]? with
    | none=>simp
    | some e=>exact (sh e (List.mem_of_getElem? h)).rn
theorem rX_find {w : World} {v : Value} {Q : List Raw} {L : List Ent} {roots : List Bm} (I : Ixs w v Q L) {m : Bm} (hm : m ∈ rX Q L roots) : ∃ t,∃ ht : t < Q.length,idxOf (isM m) Q = (t : Int) /\ ∃ a c,Q[t].2.1 = .slice a (reqQ Q L m).length c:=by
  obtain ⟨hc,hu⟩:=rX_in hm
  obtain ⟨t,htU,e1,e2⟩:=idx_univ I hu
  have htL : t < L.length:=by rw [univ_len] at htU; exact htU
  have htQ : t < Q.length:=by rw [I.ln]; exact htL
  refine ⟨t,htQ,e1,?_⟩
  have h1:=req_at I (rgt_of I hc).c htL htU
  rw [e2] at h1
  obtain ⟨a,c,h2,-⟩:=(I.ok t htQ htL).rq
  exact ⟨a,c,by rw [h1]; exact h2⟩
theorem cell_set_ne {W : World} {b o g p : Nat} {x v : Value} (h : W.cell? ⟨b,o,none⟩ = some v) (hne : b ≠ g) : (W.setCell ⟨g,p,none⟩ x).cell? ⟨b,o,none⟩ = some v:=by
  unfold World.cell? at h ⊢
  rw [Below.heap_setCell _ _ _ _ hne]
  exact h
theorem ErrAt.set2 {W : World} {A : Nat -> Addr} {y : Value} {c : Nat} {o : Option Nat} {g : Nat} {z : Value} {n : Int} {T : TypeId} (h : ErrAt W A y c o) (hg : W.heap[g]? = some (.cells #[z,.int .i64 n] T (0,0))) (a b : Value) : ErrAt ((W.setCell ⟨g,0,none⟩ a).setCell ⟨g,1,none⟩ b) A y c o:=by
  cases o with
  | none=>exact h
  | some i=>
    obtain ⟨h0,f,rfl,h1,h2⟩:=h
    have hne : f ≠ g:=fun e=>by
      subst e
      obtain ⟨_,g1,_⟩:=box_two hg
      rw [g1,errA_if A h0] at h2
      cases h2
    exact ⟨h0,f,rfl,cell_set_ne (cell_set_ne h1 hne) hne,cell_set_ne (cell_set_ne h2 hne) hne⟩
set_option maxRecDepth 100000 in
set_option maxHeartbeats 8000000 in
theorem gt_main (Q0 : List Raw) (L : List Ent) (roots : List Bm) (x : Bm) (v u : Value) (A : Nat → Addr) (m : Int) (w : World) (S : Te w A m) (N : Er.Sen w A) (I : Ixs w v Q0 L) (em : EmI Q0 L) (hr : MsAt w u roots) (her : Em u roots) (hok : okI L = true) (hrk : okLN 15 roots = true) (hx1 : x.1.size ≤ 70) (hx2 : x.2.size ≤ 60) :
    Calls Tryz.prog 3 #[v,u,.agg #[.string x.1,.string x.2]] w fun e w'=>e = .returned (.bool true) /\ Below w.heap.size w w':=by
  obtain ⟨xp,xq⟩:=x
  simp only at hx1 hx2 ⊢
  obtain ⟨a0,c0,hv0,-⟩:=id I.es
  subst hv0
  obtain ⟨ra,rc,hu0,-⟩:=id hr
  subst hu0
  have hn101 : L.length <= 101:=by rcases (okI_iff hok).1 with h | h <;> omega
  have hr15 : roots.length <= 15:=(okLN_iff hrk).1
  have HB0:=hid ((Below.refl w.heap.size w).alloc (Nat.le_refl _) (.cells #[.string xp,.string xq] 25))
  have HM0:=hid (heap_new w (.cells #[.string xp,.string xq] 25))
  have HIN:=hid (rdL_any A m _ (S.below HB0.out))
  have HLO:=hid (fun W (h : Below w.heap.size w W)=>longI_any Q0 L _ W (I.below h))
  rw [if_pos hok] at HLO
  have HLM:=hid (fun W (h : Below w.heap.size w W)=>longN_any 15 (by decide) roots _ W (hr.below h))
  rw [if_pos hrk] at HLM
  have HOW:=hid (fun W (h : Below w.heap.size w W)=>ownI_any Q0 L _ W (by omega) (I.below h) em (okI_fits hok))
  have HOM:=hid (fun W (h : Below w.heap.size w W)=>ownM_any _ roots W (by omega) (hr.below h) her)
  have HS:=hid (fun W (h : Below w.heap.size w W)=>S.below h)
  have HN:=hid (fun W (h : Below w.heap.size w W)=>N.below h)
  have HI:=hid (fun W (h : Below w.heap.size w W)=>I.below h)
  have HR:=hid (fun W (h : Below w.heap.size w W)=>hr.below h)
  have HSH:=hid (okI_sh hok)
  have HU0:=hid (univ_eq I)
  have hq0 : Q0.length <= 1000:=by rw [I.ln]; omega
  have hl1 : (xp.size : Int) <= 70:=by omega
  have hl2 : (xq.size : Int) <= 60:=by omega
  clear S N I em hok hr her hrk
  go_enter Tryz.func3,Tryz.ntmps3
  go_wp2_with fail
  refine HIN.out.mono ?_
  rintro e w1 ⟨rfl,hb⟩
  have HB1:=hid (HB0.out.trans (hb.mono HB0.out.size))
  have HM1:=hid ((hb.block _ (lt_of_blk HM0.out)).trans HM0.out)
  clear hb
  go_wp2_with fail
  refine (HLO.out w1 HB1.out).mono ?_
  rintro e w2 ⟨rfl,hb⟩
  have HB2:=hid (HB1.out.trans (hb.mono HB1.out.size))
  have HM2:=hid ((hb.block _ (lt_of_blk HM1.out)).trans HM1.out)
  clear hb
  go_wp2_with fail
  refine (HLM.out w2 HB2.out).mono ?_
  rintro e w2' ⟨rfl,rfl⟩
  obtain ⟨p0,p1,pf⟩:=box_two HM2.out
  go_wp2_with fail
  refine (HOW.out w2' HB2.out).mono ?_
  rintro e w3 ⟨ou,Q,rfl,hO,hb⟩
  have HB3:=hid (HB2.out.trans (hb.mono HB2.out.size))
  have HM3:=hid ((hb.block _ (lt_of_blk HM2.out)).trans HM2.out)
  have HIX:=hid hO.ixs
  obtain ⟨oa,oc,hou,-⟩:=id hO.ixs.es
  subst hou
  clear hb hO p0 p1 pf HLO HLM HOW HIN
  have HQQ:=hid (show Q.map (fun r=>r.1) = Q0.map (fun r=>r.1) by rw [univ_eq HIX.out,HU0.out])
  go_wp2_with fail
  refine (HOM.out w3 HB3.out).mono ?_
  rintro e w4 ⟨ru,rfl,hro,-,hb⟩
  have HB4:=hid (HB3.out.trans (hb.mono HB3.out.size))
  have HM4:=hid ((hb.block _ (lt_of_blk HM3.out)).trans HM3.out)
  have HIX4:=hid (fun W (h : Below w4.heap.size w4 W)=>(HIX.out.below hb).below h)
  have HRO4:=hid (fun W (h : Below w4.heap.size w4 W)=>(own_ms hro).below h)
  obtain ⟨rua,ruc,hru⟩:=own_slN hro
  subst hru
  have HBW:=hid (fun W (h : Below w4.heap.size w4 W)=>HB4.out.trans (h.mono HB4.out.size))
  have HRE:=hid (reach_all Q L roots _ _ A m w4 (by omega) (by omega) HSH.out (HS.out _ HB4.out) (HIX4.out _ (Below.refl _ _)) (HRO4.out _ (Below.refl _ _)))
  have HRO:=hid (fun W (h : Below w4.heap.size w4 W)=>reachOf_all Q0 L roots _ _ W (by omega) (by omega) HSH.out (HI.out _ (HBW.out _ h)) (HR.out _ (HBW.out _ h)))
  have HED:=hid (fun W (h : Below w4.heap.size w4 W)=>edges_all Q L roots _ _ A m W (by omega) (by omega) HSH.out (HS.out _ (HBW.out _ h)) (HIX4.out _ h) (HRO4.out _ h))
  have HWY:=hid (fun W (h : Below w4.heap.size w4 W)=>way_all Q L roots (xp,xq) _ _ A m W (by omega) (by omega) HSH.out (HS.out _ (HBW.out _ h)) (HIX4.out _ h) (HRO4.out _ h) ⟨by unfold maxLen; simp only; omega,by unfold maxLen; simp only; omega⟩)
  have HFA:=hid (fun W (h : Below w4.heap.size w4 W)=>farOf_all Q0 L roots (xp,xq) _ _ W (by omega) (by omega) HSH.out (HI.out _ (HBW.out _ h)) (HR.out _ (HBW.out _ h)))
  rw [rX_same HQQ.out,rF_same HQQ.out] at HRE
  rw [rX_same HQQ.out,rF_same HQQ.out,reqQ_same HQQ.out] at HED
  rw [rW_same HQQ.out] at HWY
  have HXL:=hid (show (rX Q0 L roots).length <= 101 from Nat.le_trans rX_len hn101)
  have HXR:=hid (rX_lenR (Q:=Q0) (roots:=roots) HSH.out)
  have HXF:=hid (fun x (hx : x ∈ rX Q0 L roots)=>rX_find (HI.out w (Below.refl _ _)) hx)
  have HF1:=hid (fun x W (h : Below w4.heap.size w4 W)=>findOf_all Q0 x _ W (by omega) (HI.out _ (HBW.out _ h)).es)
  have HES:=hid (fun W (h : Below w4.heap.size w4 W)=>(HI.out _ (HBW.out _ h)).es)
  have HFU:=hid (fun W x (h : Below w4.heap.size w4 W) (he : ErrAt W A x (rF Q0 L roots).1 (rF Q0 L roots).2)=>faulted2_any A x (rF Q0 L roots) W (HN.out _ (HBW.out _ h)) he (rF_le _ _ _))
  have HFW:=hid (fun W y (h : Below w4.heap.size w4 W) (he : ErrAt W A y (rW Q0 L roots (xp,xq)).2.1 (rW Q0 L roots (xp,xq)).2.2)=>faulted2_any A y (rW Q0 L roots (xp,xq)).2 W (HN.out _ (HBW.out _ h)) he (rW_le _ _ _ _))
  clear hb hro HOM HS HN HI HR HIX HIX4 HRO4 HU0 HQQ HSH
  generalize rX Q0 L roots = X at *
  generalize reqQ Q0 L = req at *
  obtain ⟨fc,fo⟩ : ∃ fo,fo = rF Q0 L roots:=⟨_,rfl⟩
  rw [<- fo] at HRE HRO HED HFU
  obtain ⟨d,hd⟩ : ∃ d,d = rW Q0 L roots (xp,xq):=⟨_,rfl⟩
  rw [<- hd] at HWY HFA HFW
  clear fo hd
  obtain ⟨f1,f2⟩:=fc
  obtain ⟨d0,d1,d2⟩:=d
  unfold faultV at HRO HFA HFU HFW
  simp only at HRE HRO HED HWY HFA HFU HFW
  go_wp2_with fail
  refine HRE.out.mono ?_
  rintro e w5 ⟨xa,xc,y5,rfl,hms5,he5,hb⟩
  have HB5:=hid hb
  have HM5:=hid ((hb.block _ (lt_of_blk HM4.out)).trans HM4.out)
  have HMX:=hid hms5
  have HE5:=hid he5
  clear hb hms5 he5 HRE
  go_wp2_with fail
  refine (HRO.out w5 HB5.out).mono ?_
  rintro e w6 ⟨wa,wc,rfl,hms6,hb⟩
  have HB6:=hid (HB5.out.trans (hb.mono HB5.out.size))
  have HM6:=hid ((hb.block _ (lt_of_blk HM5.out)).trans HM5.out)
  have HMX6:=hid (HMX.out.below hb)
  have HMW:=hid hms6
  have HE6:=hid (HE5.out.below hb)
  clear hb hms6 HRO
  have HA7:=hid ((Below.refl w6.heap.size w6).alloc (Nat.le_refl _) (.cells #[.int .i64 (f1 : Nat),.int .i64 (atOf f2)] 36))
  have HB7:=hid (HB6.out.trans (HA7.out.mono HB6.out.size))
  have HM7:=hid (heap_old w6 (.cells #[.int .i64 (f1 : Nat),.int .i64 (atOf f2)] 36) HM6.out)
  have HF7:=hid (heap_new w6 (.cells #[.int .i64 (f1 : Nat),.int .i64 (atOf f2)] 36))
  have HMX7:=hid (HMX6.out.below HA7.out)
  have HMW7:=hid (HMW.out.below HA7.out)
  have HE7:=hid (HE6.out.below HA7.out)
  have hgm:=lt_of_blk HM6.out
  have hgm2 : ¬ w.heap.size = w6.heap.size:=by omega
  have HSG:=hid (show w4.heap.size <= w6.heap.size from HB6.out.size)
  generalize hf1 : ((f1 : Nat) : Int) = F1 at *
  generalize atOf f2 = F2 at *
  go_wp2_with fail
  generalize w6.alloc (.cells #[.int .i64 F1,.int .i64 F2] 36) = w7 at *
  generalize w6.heap.size = g at *
  clear HA7 HE6 HMW HMX6 HM6 HB6 HB5 HM5 HMX HE5
  refine (HFU.out w7 y5 HB7.out HE7.out).mono ?_
  rintro e w8 ⟨rfl,hb⟩
  have HB8:=hid (HB7.out.trans (hb.mono HB7.out.size))
  have HM8:=hid ((hb.block _ (lt_of_blk HM7.out)).trans HM7.out)
  have HF8:=hid ((hb.block _ (lt_of_blk HF7.out)).trans HF7.out)
  have HSA:=hid (sameM_any X _ _ w8 (by have:=HXL.out; omega) (HMX7.out.below hb) (HMW7.out.below hb))
  have HMW8:=hid (HMW7.out.below hb)
  clear hb HE7 HMX7 HMW7 HM7 HF7 HB7
  go_wp2_with fail
  refine HSA.out.mono ?_
  rintro e w9 ⟨rfl,hb⟩
  have HB9:=hid (HB8.out.trans (hb.mono HB8.out.size))
  have HM9:=hid ((hb.block _ (lt_of_blk HM8.out)).trans HM8.out)
  have HF9:=hid ((hb.block _ (lt_of_blk HF8.out)).trans HF8.out)
  have HMW9:=hid (HMW8.out.below hb)
  clear hb HSA HMW8 HM8 HF8 HB8
  go_wp2_with fail
  refine (HED.out w9 HB9.out).mono ?_
  rintro e w10 ⟨y10,rfl,he10,hb⟩
  have HBx:=hid (HB9.out.trans (hb.mono HB9.out.size))
  have HMx:=hid ((hb.block _ (lt_of_blk HM9.out)).trans HM9.out)
  have HFx:=hid ((hb.block _ (lt_of_blk HF9.out)).trans HF9.out)
  have HMWx:=hid (HMW9.out.below hb)
  have HEx:=hid he10
  clear hb HED he10 HMW9 HM9 HF9 HB9
  go_wp2_with fail
  go_loopw [15,16] (fun kv iv wr=>∃ i : Nat,i <= X.length /\ iv = .int .i64 i /\ kv = .int .i64 (sumM req (X.take i) : Nat) /\ Hid (Below w10.heap.size w10 wr)) (fun _ iv _=>X.length - (intOf iv).toNat)
  case atStart=>exact ⟨0,Nat.zero_le _,rfl,by simp [sumM],hid (Below.refl _ _)⟩
  case round=>
    obtain ⟨i,hi,rfl,rfl,HBr⟩:=hrel
    by_cases hlt : i < X.length
    · have hiI : (i : Int) < (X.length : Int):=by omega
      have hi0 : (0 : Int) <= (i : Int):=by omega
      have HLT:=hid hlt
      obtain ⟨xb,xo,hxa,y0,y1⟩:=(HMWx.out.below HBr.out).cells hlt
      subst hxa
      obtain ⟨t,ht,e1,qa,qc,e2⟩:=HXF.out X[i] (List.getElem_mem hlt)
      have HFF:=hid (HF1.out X[i] wr (HBx.out.trans (HBr.out.mono HBx.out.size)))
      rw [e1] at HFF
      have htI : (t : Int) < (Q0.length : Int):=by omega
      have ht0 : (0 : Int) <= (t : Int):=by omega
      have HCE:=hid (fun W (h : Below wr.heap.size wr W)=>es_cells (HES.out W (HBx.out.trans ((HBr.out.trans (h.mono HBr.out.size)).mono HBx.out.size))) ht)
      rw [e2] at HCE
      obtain ⟨eb,eo,hea,-⟩:=HCE.out wr (Below.refl _ _)
      subst hea
      have HX2:=hid (fun W (h : Below wr.heap.size wr W)=>show W.cell? ⟨eb,eo + t * 5 + 2,none⟩ = some (.slice qa (req X[i]).length qc) by
        obtain ⟨eb',eo',e,h2⟩:=HCE.out W h
        injection e with e
        injection e with e1 e2
        subst e1 e2
        exact h2)
      have hll:=HXR.out X[i] (List.getElem_mem hlt)
      have HNX:=hid (sumM_next req hlt)
      have hsb:=sumM_take_le req X i 1000000 HXR.out
      have hxl:=HXL.out
      have hsb2 : sumM req (X.take i) <= 1000000000:=by omega
      have HS2:=hid (show sumM req (X.take i) + (req X[i]).length <= 2000000000 by omega)
      generalize (req X[i]).length = rn at *
      generalize sumM req (X.take i) = sk at *
      have hsI : (sk : Int) + (rn : Int) <= 2000000000:=by omega
      generalize X[i] = xi at *
      obtain ⟨x1,x2⟩:=xi
      clear hlt e1 e2 HCE ht
      go_wp2_with fail
      refine HFF.out.mono ?_
      rintro e w11 ⟨rfl,hb⟩
      have t0:=HX2.out w11 hb
      have HBB:=hid (HBr.out.trans (hb.mono HBr.out.size))
      clear hb
      go_wp2_with fail
      go_roundw
      case rel=>
        have e1:=HNX.out
        first | exact ⟨i + 1,HLT.out,nr_idx i,by rw [e1]; rfl,HBB⟩ | exact ⟨i + 1,HLT.out,nx_idx HLT.out (by omega),by rw [e1]; exact sum_idx HS2.out,HBB⟩ | exact ⟨i + 1,HLT.out,nr_idx i,by rw [e1]; exact sum_idx HS2.out,HBB⟩
      case measure=>first | exact nr_meas HLT.out | exact nx_meas HLT.out (by omega)
    · have hiI : ¬ (i : Int) < (X.length : Int):=by omega
      have HTR:=hid (show X.take i = X from List.take_of_length_le (by omega))
      have HBy:=hid (HBx.out.trans (HBr.out.mono HBx.out.size))
      have HMy:=hid ((HBr.out.block _ (lt_of_blk HMx.out)).trans HMx.out)
      have HFy:=hid ((HBr.out.block _ (lt_of_blk HFx.out)).trans HFx.out)
      have HEy:=hid (HEx.out.below HBr.out)
      rw [HTR.out]
      obtain ⟨fy0,fy1,fyf⟩:=box_two HFy.out
      generalize sumM req X = SX at *
      clear hlt
      go_wp2_with fail
      refine (HFU.out wr y10 HBy.out HEy.out).mono ?_
      rintro e w12 ⟨rfl,hb⟩
      have HBz:=hid (HBy.out.trans (hb.mono HBy.out.size))
      have HMz:=hid ((hb.block _ (lt_of_blk HMy.out)).trans HMy.out)
      have HFz:=hid ((hb.block _ (lt_of_blk HFy.out)).trans HFy.out)
      clear hb fy0 fy1 fyf
      obtain ⟨m0,m1,mf⟩:=box_two HMz.out
      go_wp2_with fail
      refine (HWY.out w12 HBz.out).mono ?_
      rintro e w13 ⟨ya,yc,y13,rfl,he13,hb⟩
      have HB13:=hid (HBz.out.trans (hb.mono HBz.out.size))
      have HM13:=hid ((hb.block _ (lt_of_blk HMz.out)).trans HMz.out)
      have HF13:=hid ((hb.block _ (lt_of_blk HFz.out)).trans HFz.out)
      have HE13:=hid he13
      clear hb he13 m0 m1 mf
      obtain ⟨m0,m1,mf⟩:=box_two HM13.out
      go_wp2_with fail
      refine (HFA.out w13 HB13.out).mono ?_
      rintro e w14 ⟨rfl,hb⟩
      have HB14:=hid (HB13.out.trans (hb.mono HB13.out.size))
      have HF14:=hid ((hb.block _ (lt_of_blk HF13.out)).trans HF13.out)
      have HE14:=hid (HE13.out.below hb)
      clear hb m0 m1 mf
      obtain ⟨q0,q1,qf⟩:=box_two HF14.out
      have HB15:=hid (put2_below (x:=.int .i64 ((d1 : Nat) : Int)) (y:=.int .i64 (atOf d2)) HB14.out HSG.out)
      have HE15:=hid (HE14.out.set2 HF14.out (.int .i64 ((d1 : Nat) : Int)) (.int .i64 (atOf d2)))
      have hd0 : ((d0 : Nat) : Int) = d0:=rfl
      go_wp2_with fail
      generalize (w14.setCell ⟨g,0,none⟩ (.int .i64 ((d1 : Nat) : Int))).setCell ⟨g,1,none⟩ (.int .i64 (atOf d2)) = w15 at *
      refine (HFW.out w15 y13 HB15.out HE15.out).mono ?_
      rintro e w16 ⟨rfl,hb⟩
      have HB16:=hid (HBW.out _ (HB15.out.trans (hb.mono HB15.out.size)))
      clear hb
      go_wp2_with fail
      go_ret
      exact ⟨rfl,HB16.out⟩
set_option maxRecDepth 100000 in
set_option maxHeartbeats 2000000 in
theorem gt_long1 (Q0 : List Raw) (L : List Ent) (roots : List Bm) (x : Bm) (v u : Value) (A : Nat -> Addr) (m : Int) (w : World) (S : Te w A m) (I : Ixs w v Q0 L) (hr : MsAt w u roots) (hok : okI L = false) :
    Calls Tryz.prog 3 #[v,u,.agg #[.string x.1,.string x.2]] w fun e w'=>e = .returned (.bool true) /\ Below w.heap.size w w':=by
  obtain ⟨xp,xq⟩:=x
  simp only
  obtain ⟨a0,c0,hv0,-⟩:=id I.es
  subst hv0
  obtain ⟨ra,rc,hu0,-⟩:=id hr
  subst hu0
  have HB0:=hid ((Below.refl w.heap.size w).alloc (Nat.le_refl _) (.cells #[.string xp,.string xq] 25))
  have HM0:=hid (heap_new w (.cells #[.string xp,.string xq] 25))
  have HIN:=hid (rdL_any A m _ (S.below HB0.out))
  have HLO:=hid (fun W (h : Below w.heap.size w W)=>longI_any Q0 L _ W (I.below h))
  rw [hok] at HLO
  clear S I hok hr
  go_enter Tryz.func3,Tryz.ntmps3
  go_wp2_with fail
  refine HIN.out.mono ?_
  rintro e w1 ⟨rfl,hb⟩
  have HB1:=hid (HB0.out.trans (hb.mono HB0.out.size))
  have HM1:=hid ((hb.block _ (lt_of_blk HM0.out)).trans HM0.out)
  clear hb
  go_wp2_with fail
  refine (HLO.out w1 HB1.out).mono ?_
  rintro e w2 ⟨rfl,hb⟩
  have HB2:=hid (HB1.out.trans (hb.mono HB1.out.size))
  have HM2:=hid ((hb.block _ (lt_of_blk HM1.out)).trans HM1.out)
  clear hb
  go_wp2_with fail
  go_ret
  exact ⟨rfl,HB2.out⟩
set_option maxRecDepth 100000 in
set_option maxHeartbeats 2000000 in
theorem gt_long2 (Q0 : List Raw) (L : List Ent) (roots : List Bm) (x : Bm) (v u : Value) (A : Nat -> Addr) (m : Int) (w : World) (S : Te w A m) (I : Ixs w v Q0 L) (hr : MsAt w u roots) (hok : okI L = true) (hrk : okLN 15 roots = false) :
    Calls Tryz.prog 3 #[v,u,.agg #[.string x.1,.string x.2]] w fun e w'=>e = .returned (.bool true) /\ Below w.heap.size w w':=by
  obtain ⟨xp,xq⟩:=x
  simp only
  obtain ⟨a0,c0,hv0,-⟩:=id I.es
  subst hv0
  obtain ⟨ra,rc,hu0,-⟩:=id hr
  subst hu0
  have HB0:=hid ((Below.refl w.heap.size w).alloc (Nat.le_refl _) (.cells #[.string xp,.string xq] 25))
  have HM0:=hid (heap_new w (.cells #[.string xp,.string xq] 25))
  have HIN:=hid (rdL_any A m _ (S.below HB0.out))
  have HLO:=hid (fun W (h : Below w.heap.size w W)=>longI_any Q0 L _ W (I.below h))
  rw [if_pos hok] at HLO
  have HLM:=hid (fun W (h : Below w.heap.size w W)=>longN_any 15 (by decide) roots _ W (hr.below h))
  rw [hrk] at HLM
  clear S I hok hr hrk
  go_enter Tryz.func3,Tryz.ntmps3
  go_wp2_with fail
  refine HIN.out.mono ?_
  rintro e w1 ⟨rfl,hb⟩
  have HB1:=hid (HB0.out.trans (hb.mono HB0.out.size))
  have HM1:=hid ((hb.block _ (lt_of_blk HM0.out)).trans HM0.out)
  clear hb
  go_wp2_with fail
  refine (HLO.out w1 HB1.out).mono ?_
  rintro e w2 ⟨rfl,hb⟩
  have HB2:=hid (HB1.out.trans (hb.mono HB1.out.size))
  have HM2:=hid ((hb.block _ (lt_of_blk HM1.out)).trans HM1.out)
  clear hb
  go_wp2_with fail
  refine (HLM.out w2 HB2.out).mono ?_
  rintro e w2' ⟨rfl,rfl⟩
  go_wp2_with fail
  go_ret
  exact ⟨rfl,HB2.out⟩
set_option maxRecDepth 100000 in
set_option maxHeartbeats 2000000 in
theorem gt_long3 (Q0 : List Raw) (L : List Ent) (roots : List Bm) (x : Bm) (v u : Value) (A : Nat -> Addr) (m : Int) (w : World) (S : Te w A m) (I : Ixs w v Q0 L) (hr : MsAt w u roots) (hok : okI L = true) (hrk : okLN 15 roots = true) (hx1 : ¬ x.1.size <= 70) :
    Calls Tryz.prog 3 #[v,u,.agg #[.string x.1,.string x.2]] w fun e w'=>e = .returned (.bool true) /\ Below w.heap.size w w':=by
  obtain ⟨xp,xq⟩:=x
  simp only at hx1 ⊢
  obtain ⟨a0,c0,hv0,-⟩:=id I.es
  subst hv0
  obtain ⟨ra,rc,hu0,-⟩:=id hr
  subst hu0
  have HB0:=hid ((Below.refl w.heap.size w).alloc (Nat.le_refl _) (.cells #[.string xp,.string xq] 25))
  have HM0:=hid (heap_new w (.cells #[.string xp,.string xq] 25))
  have HIN:=hid (rdL_any A m _ (S.below HB0.out))
  have HLO:=hid (fun W (h : Below w.heap.size w W)=>longI_any Q0 L _ W (I.below h))
  rw [if_pos hok] at HLO
  have HLM:=hid (fun W (h : Below w.heap.size w W)=>longN_any 15 (by decide) roots _ W (hr.below h))
  rw [if_pos hrk] at HLM
  have hl1 : ¬ (xp.size : Int) <= 70:=by omega
  have hl1' : (70 : Int) < (xp.size : Int):=by omega
  clear S I hok hr hrk
  go_enter Tryz.func3,Tryz.ntmps3
  go_wp2_with fail
  refine HIN.out.mono ?_
  rintro e w1 ⟨rfl,hb⟩
  have HB1:=hid (HB0.out.trans (hb.mono HB0.out.size))
  have HM1:=hid ((hb.block _ (lt_of_blk HM0.out)).trans HM0.out)
  clear hb
  go_wp2_with fail
  refine (HLO.out w1 HB1.out).mono ?_
  rintro e w2 ⟨rfl,hb⟩
  have HB2:=hid (HB1.out.trans (hb.mono HB1.out.size))
  have HM2:=hid ((hb.block _ (lt_of_blk HM1.out)).trans HM1.out)
  clear hb
  go_wp2_with fail
  refine (HLM.out w2 HB2.out).mono ?_
  rintro e w2' ⟨rfl,rfl⟩
  obtain ⟨p0,p1,pf⟩:=box_two HM2.out
  go_wp2_with fail
  go_ret
  exact ⟨rfl,HB2.out⟩
set_option maxRecDepth 100000 in
set_option maxHeartbeats 2000000 in
theorem gt_long4 (Q0 : List Raw) (L : List Ent) (roots : List Bm) (x : Bm) (v u : Value) (A : Nat -> Addr) (m : Int) (w : World) (S : Te w A m) (I : Ixs w v Q0 L) (hr : MsAt w u roots) (hok : okI L = true) (hrk : okLN 15 roots = true) (hx1 : x.1.size <= 70) (hx2 : ¬ x.2.size <= 60) :
    Calls Tryz.prog 3 #[v,u,.agg #[.string x.1,.string x.2]] w fun e w'=>e = .returned (.bool true) /\ Below w.heap.size w w':=by
  obtain ⟨xp,xq⟩:=x
  simp only at hx1 hx2 ⊢
  obtain ⟨a0,c0,hv0,-⟩:=id I.es
  subst hv0
  obtain ⟨ra,rc,hu0,-⟩:=id hr
  subst hu0
  have HB0:=hid ((Below.refl w.heap.size w).alloc (Nat.le_refl _) (.cells #[.string xp,.string xq] 25))
  have HM0:=hid (heap_new w (.cells #[.string xp,.string xq] 25))
  have HIN:=hid (rdL_any A m _ (S.below HB0.out))
  have HLO:=hid (fun W (h : Below w.heap.size w W)=>longI_any Q0 L _ W (I.below h))
  rw [if_pos hok] at HLO
  have HLM:=hid (fun W (h : Below w.heap.size w W)=>longN_any 15 (by decide) roots _ W (hr.below h))
  rw [if_pos hrk] at HLM
  have hl1 : (xp.size : Int) <= 70:=by omega
  have hl2 : ¬ (xq.size : Int) <= 60:=by omega
  have hl2' : (60 : Int) < (xq.size : Int):=by omega
  clear S I hok hr hrk
  go_enter Tryz.func3,Tryz.ntmps3
  go_wp2_with fail
  refine HIN.out.mono ?_
  rintro e w1 ⟨rfl,hb⟩
  have HB1:=hid (HB0.out.trans (hb.mono HB0.out.size))
  have HM1:=hid ((hb.block _ (lt_of_blk HM0.out)).trans HM0.out)
  clear hb
  go_wp2_with fail
  refine (HLO.out w1 HB1.out).mono ?_
  rintro e w2 ⟨rfl,hb⟩
  have HB2:=hid (HB1.out.trans (hb.mono HB1.out.size))
  have HM2:=hid ((hb.block _ (lt_of_blk HM1.out)).trans HM1.out)
  clear hb
  go_wp2_with fail
  refine (HLM.out w2 HB2.out).mono ?_
  rintro e w2' ⟨rfl,rfl⟩
  obtain ⟨p0,p1,pf⟩:=box_two HM2.out
  go_wp2_with fail
  go_ret
  exact ⟨rfl,HB2.out⟩
theorem graphTells_any (Q0 : List Raw) (L : List Ent) (roots : List Bm) (x : Bm) (v u : Value) (A : Nat → Addr) (m : Int) (w : World) (S : Te w A m) (N : Er.Sen w A) (I : Ixs w v Q0 L) (em : EmI Q0 L) (hr : MsAt w u roots) (her : Em u roots) :
    Calls Tryz.prog 3 #[v,u,.agg #[.string x.1,.string x.2]] w fun e w'=>e = .returned (.bool true) /\ Below w.heap.size w w':=by
  cases hok : okI L with
  | false=>exact gt_long1 Q0 L roots x v u A m w S I hr hok
  | true=>
    cases hrk : okLN 15 roots with
    | false=>exact gt_long2 Q0 L roots x v u A m w S I hr hok hrk
    | true=>
      by_cases hx1 : x.1.size <= 70
      · by_cases hx2 : x.2.size <= 60
        · exact gt_main Q0 L roots x v u A m w S N I em hr her hok hrk hx1 hx2
        · exact gt_long4 Q0 L roots x v u A m w S I hr hok hrk hx1 hx2
      · exact gt_long3 Q0 L roots x v u A m w S I hr hok hrk hx1
end Ve
end Go.Proofs.YtlcffhadobhfkaaGreatDoor
