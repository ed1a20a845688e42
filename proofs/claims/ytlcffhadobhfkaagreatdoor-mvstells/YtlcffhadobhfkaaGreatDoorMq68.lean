/-
  MtF
-/
import Derived.Test.YtlcffhadobhfkaaGreatDoorMq3
import Derived.Test.YtlcffhadobhfkaaGreatDoorMq5
import Derived.Test.YtlcffhadobhfkaaGreatDoorMq6
import Derived.Test.YtlcffhadobhfkaaGreatDoorMq9
import Derived.Test.YtlcffhadobhfkaaGreatDoorMq11
import Derived.Test.YtlcffhadobhfkaaGreatDoorMq2
import Derived.Test.YtlcffhadobhfkaaGreatDoorMq18
import Derived.Test.YtlcffhadobhfkaaGreatDoorMq19
import Derived.Test.YtlcffhadobhfkaaGreatDoorMq20
import Derived.Test.YtlcffhadobhfkaaGreatDoorMq17
import Derived.Test.YtlcffhadobhfkaaGreatDoorMq23
import Derived.Test.YtlcffhadobhfkaaGreatDoorMq1
import Derived.Test.YtlcffhadobhfkaaGreatDoorMq34
import Derived.Test.YtlcffhadobhfkaaGreatDoorMq37
import Derived.Test.YtlcffhadobhfkaaGreatDoorMq22
import Derived.Test.YtlcffhadobhfkaaGreatDoorMq39
import Derived.Test.YtlcffhadobhfkaaGreatDoorMq47
import Derived.Test.YtlcffhadobhfkaaGreatDoorMq45
import Derived.Test.YtlcffhadobhfkaaGreatDoorMq43
import Derived.Test.YtlcffhadobhfkaaGreatDoorMq49
import Derived.Test.YtlcffhadobhfkaaGreatDoorMq54
import Derived.Test.YtlcffhadobhfkaaGreatDoorMq36
import Derived.Test.YtlcffhadobhfkaaGreatDoorMq56
import Derived.Test.YtlcffhadobhfkaaGreatDoorMq62
import Derived.Test.YtlcffhadobhfkaaGreatDoorMq31
import Derived.Test.YtlcffhadobhfkaaGreatDoorMq32
import Derived.Test.YtlcffhadobhfkaaGreatDoorMq66
import Derived.Test.YtlcffhadobhfkaaGreatDoorMq29
import Derived.Test.YtlcffhadobhfkaaGreatDoorMq67
namespace Go.Proofs.YtlcffhadobhfkaaGreatDoor
open Go.RowKit Go.Maps
namespace Ve
theorem cell_set_neJ {W : World} {b o g p : Nat} {x v : Value} (h : W.cell? ⟨b,o,none⟩ = some v) (hne : b ≠ g) : (W.setCell ⟨g,p,none⟩ x).cell? ⟨b,o,none⟩ = some v:=by
  unfold World.cell? at h ⊢
  rw [Below.heap_setCell _ _ _ _ hne]
  exact h
theorem ErrAt.set2J {W : World} {A : Nat -> Addr} {y : Value} {c : Nat} {o : Option Nat} {g : Nat} {z : Value} {n : Int} {T : TypeId} (h : ErrAt W A y c o) (hg : W.heap[g]? = some (.cells #[z,.int .i64 n] T (0,0))) (a b : Value) : ErrAt ((W.setCell ⟨g,0,none⟩ a).setCell ⟨g,1,none⟩ b) A y c o:=by
  cases o with
  | none=>exact h
  | some i=>
    obtain ⟨h0,f,rfl,h1,h2⟩:=h
    have hne : f ≠ g:=fun e=>by
      subst e
      obtain ⟨_,g1,_⟩:=box_two hg
      rw [g1,errA_if A h0] at h2
      cases h2
    exact ⟨h0,f,rfl,cell_set_neJ (cell_set_neJ h1 hne) hne,cell_set_neJ (cell_set_neJ h2 hne) hne⟩
theorem cF_le (Q : List Raw) (L : List Ent) (roots sel : List Bm) : (cF Q L roots sel).1 <= 10:=by
  unfold cF
  split
  · simp
  · unfold chkC
    repeat' split
    all_goals first | (simp only; omega) | exact chkG_le _ _ _ | exact codeE_le (nonE_le _ _)
theorem closed_all (Q : List Raw) (L : List Ent) (roots sel : List Bm) (v rv sv : Value) (A : Nat -> Addr) (m : Int) (w : World) (hn : L.length <= 1000) (hrn : roots.length <= 1000000) (hsn : sel.length <= 500) (sh : ∀ e,e ∈ L -> ShE e) (S : Te w A m) (I : Ixs w v Q L) (hr : MsAt w rv roots) (hs : MsAt w sv sel) (es : Em sv sel) :
    Calls Tryz.prog 33 #[v,rv,sv] w fun e w'=>∃ x,e = .returned (.tuple #[.bool (cB Q L roots sel),x]) /\ ErrAt w' A x (cF Q L roots sel).1 (cF Q L roots sel).2 /\ Below w.heap.size w w':=by
  by_cases h : (chkC Q L roots sel).1 = 0
  · refine (closed_good Q L roots sel v rv sv A m w hn hrn hsn sh S I hr hs es h).mono ?_
    rintro e w' ⟨rfl,hb⟩
    unfold cB cF
    rw [if_pos h,if_pos h]
    exact ⟨_,rfl,rfl,hb⟩
  · refine (closed_bad Q L roots sel v rv sv A m w hn hrn hsn sh S I hr hs es h).mono ?_
    rintro e w' ⟨T,a,rfl,he,hb⟩
    unfold cB cF
    rw [if_neg h,if_neg h]
    exact ⟨_,rfl,he,hb⟩
set_option maxRecDepth 100000 in
set_option maxHeartbeats 8000000 in
theorem mt_main (Q0 : List Raw) (L : List Ent) (roots ra rb : List Bm) (v u s t : Value) (A : Nat -> Addr) (m : Int) (w : World) (S : Te w A m) (N : Er.Sen w A) (I : Ixs w v Q0 L) (em : EmI Q0 L) (hr : MsAt w u roots) (her : Em u roots) (hr2 : MsAt w s ra) (her2 : Em s ra) (hr3 : MsAt w t rb) (her3 : Em t rb) (hok : okI L = true) (hrk : okLN 15 roots = true) (hrk2 : okLN 15 ra = true) (hrk3 : okLN 15 rb = true) :
    Calls Tryz.prog 6 #[v,u,s,t] w fun e w'=>e = .returned (.bool true) /\ Below w.heap.size w w':=by
  obtain ⟨a0,c0,hv0,-⟩:=id I.es
  subst hv0
  obtain ⟨aa,ac,hu0,-⟩:=id hr
  subst hu0
  obtain ⟨ba,bc,hs0,-⟩:=id hr2
  subst hs0
  obtain ⟨ta,tc,ht0,-⟩:=id hr3
  subst ht0
  have hn101 : L.length <= 101:=by rcases (okI_iff hok).1 with h | h <;> omega
  have hr15 : roots.length <= 15:=(okLN_iff hrk).1
  have ha15 : ra.length <= 15:=(okLN_iff hrk2).1
  have hb15 : rb.length <= 15:=(okLN_iff hrk3).1
  have HZA:=hid (show ∀ x,x ∈ ra -> x.1.size < 999999 /\ x.2.size < 999999 from fun x hx=>by have:=(okLN_iff hrk2).2 x hx; omega)
  have HZB:=hid (show ∀ x,x ∈ rb -> x.1.size < 999999 /\ x.2.size < 999999 from fun x hx=>by have:=(okLN_iff hrk3).2 x hx; omega)
  have HIN:=hid (built_any A m w S)
  have HLO:=hid (fun W (h : Below w.heap.size w W)=>longI_any Q0 L _ W (I.below h))
  rw [if_pos hok] at HLO
  have HLM:=hid (fun W (h : Below w.heap.size w W)=>longN_any 15 (by decide) roots _ W (hr.below h))
  rw [if_pos hrk] at HLM
  have HLM2:=hid (fun W (h : Below w.heap.size w W)=>longN_any 15 (by decide) ra _ W (hr2.below h))
  rw [if_pos hrk2] at HLM2
  have HLM3:=hid (fun W (h : Below w.heap.size w W)=>longN_any 15 (by decide) rb _ W (hr3.below h))
  rw [if_pos hrk3] at HLM3
  have HOW:=hid (fun W (h : Below w.heap.size w W)=>ownI_any Q0 L _ W (by omega) (I.below h) em (okI_fits hok))
  have HOM:=hid (fun W (h : Below w.heap.size w W)=>ownM_any _ roots W (by omega) (hr.below h) her)
  have HOM2:=hid (fun W (h : Below w.heap.size w W)=>ownM_any _ ra W (by omega) (hr2.below h) her2)
  have HOM3:=hid (fun W (h : Below w.heap.size w W)=>ownM_any _ rb W (by omega) (hr3.below h) her3)
  have HSH:=hid (okI_sh hok)
  have HS:=hid (fun W (h : Below w.heap.size w W)=>S.below h)
  have HN:=hid (fun W (h : Below w.heap.size w W)=>N.below h)
  have HBO:=hid (fun W (h : Below w.heap.size w W)=>bo_all Q0 L roots _ _ W (by omega) (by omega) (okI_sh hok) (I.below h) (hr.below h))
  have HCO:=hid (fun W (h : Below w.heap.size w W)=>co_all Q0 L roots ra _ _ _ W (by omega) (by omega) (by omega) (okI_sh hok) (I.below h) (hr.below h) (hr2.below h))
  have HIU:=hid (fun W (h : Below w.heap.size w W)=>isU_any ra rb _ _ W (by omega) (by omega) (fun x hx=>(HZA.out x hx).2) (fun x hx=>(HZB.out x hx).2) (hr2.below h) (hr3.below h))
  have HJO:=hid (fun W (h : Below w.heap.size w W)=>jo_any ra rb _ _ W (by omega) (by omega) HZA.out HZB.out (hr2.below h) (hr3.below h))
  have HU0:=hid (univ_eq I)
  clear S N I em hok hr her hr2 her2 hr3 her3 hrk hrk2 hrk3
  go_enter Tryz.func6,Tryz.ntmps6
  go_wp2_with fail
  refine HIN.out.mono ?_
  rintro e w1 ⟨rfl,hb⟩
  have HB1:=hid hb
  clear hb
  go_wp2_with fail
  refine (HLO.out w1 HB1.out).mono ?_
  rintro e w2 ⟨rfl,hb⟩
  have HB2:=hid (HB1.out.trans (hb.mono HB1.out.size))
  clear hb
  go_wp2_with fail
  refine (HLM.out w2 HB2.out).mono ?_
  rintro e w2a ⟨rfl,rfl⟩
  go_wp2_with fail
  refine (HLM2.out w2a HB2.out).mono ?_
  rintro e w2b ⟨rfl,rfl⟩
  go_wp2_with fail
  refine (HLM3.out w2b HB2.out).mono ?_
  rintro e w2c ⟨rfl,rfl⟩
  go_wp2_with fail
  refine (HOW.out w2c HB2.out).mono ?_
  rintro e w3 ⟨ou,Q,rfl,hO,hb⟩
  have HB3:=hid (HB2.out.trans (hb.mono HB2.out.size))
  have HIX3:=hid hO.ixs
  obtain ⟨oa,oc,hou,-⟩:=id hO.ixs.es
  subst hou
  have HQQ:=hid (show Q.map (fun r=>r.1) = Q0.map (fun r=>r.1) by rw [univ_eq HIX3.out,HU0.out])
  have HBW:=hid (fun W (h : Below w3.heap.size w3 W)=>HB3.out.trans (h.mono HB3.out.size))
  have HBU:=hid (fun W rv (h : Below w3.heap.size w3 W) (hm : MsAt W rv roots)=>build_all Q L roots _ rv A m W (by omega) (by omega) HSH.out (HS.out W (HBW.out W h)) (HIX3.out.below h) hm)
  have HCL:=hid (fun W rv sv (h : Below w3.heap.size w3 W) (hm : MsAt W rv roots) (hs : MsAt W sv ra) (es : Em sv ra)=>closed_all Q L roots ra _ rv sv A m W (by omega) (by omega) (by omega) HSH.out (HS.out W (HBW.out W h)) (HIX3.out.below h) hm hs es)
  have HUN:=hid (fun W va vb (h : Below w3.heap.size w3 W) (h1 : MsAt W va ra) (h2 : MsAt W vb rb)=>und_any ra rb va vb A m W (by omega) (by omega) (fun x hx=>(HZA.out x hx).2) (fun x hx=>(HZB.out x hx).2) (HS.out W (HBW.out W h)) h1 h2)
  have HJN:=hid (fun W va vb (h : Below w3.heap.size w3 W) (h1 : MsAt W va ra) (h2 : MsAt W vb rb) (e1 : Em va ra) (e2 : Em vb rb)=>join_mods ra rb va vb A m W h1 h2 e1 e2 (by omega) (by omega) (fun r hr=>by rcases List.mem_append.1 hr with h | h; exact HZA.out r h; exact HZB.out r h) (HS.out W (HBW.out W h)))
  rw [bX_same HQQ.out,rF_same HQQ.out] at HBU
  rw [cB_same HQQ.out,cF_same HQQ.out] at HCL
  have HXL:=hid (show (bX Q0 L roots).length <= 101 from Nat.le_trans bX_len hn101)
  have HFU:=hid (fun W y (h : Below w3.heap.size w3 W) (he : ErrAt W A y (rF Q0 L roots).1 (rF Q0 L roots).2)=>faulted2_any A y (rF Q0 L roots) W (HN.out _ (HBW.out _ h)) he (rF_le _ _ _))
  have HFC:=hid (fun W y (h : Below w3.heap.size w3 W) (he : ErrAt W A y (cF Q0 L roots ra).1 (cF Q0 L roots ra).2)=>faulted2_any A y (cF Q0 L roots ra) W (HN.out _ (HBW.out _ h)) he (cF_le _ _ _ _))
  have HJE:=hid (fun E (h : Jn (ra ++ rb) E)=>h.one (jL_jn ra rb) (fun _ _=>Iff.rfl))
  have HJL:=hid (show (jL ra rb).length <= 1000 by
    have h1:=jN_len [] ra
    have h2:=jN_len (ra.foldl jSt []) rb
    unfold jL
    simp only [List.length_nil] at h1
    omega)
  clear hb hO HLO HLM HLM2 HLM3 HOW HIN HB1 HB2 HS HN HIX3 HQQ HU0 HSH HZA HZB
  generalize bX Q0 L roots = X at *
  generalize cB Q0 L roots ra = z at *
  generalize undB ra rb = zu at *
  generalize jL ra rb = JL at *
  obtain ⟨fc,fo⟩ : ∃ fo,fo = rF Q0 L roots:=⟨_,rfl⟩
  rw [<- fo] at HBU HBO HFU
  obtain ⟨gc,go⟩ : ∃ fo,fo = cF Q0 L roots ra:=⟨_,rfl⟩
  rw [<- go] at HCL HCO HFC
  clear fo go
  obtain ⟨f1,f2⟩:=fc
  obtain ⟨g1,g2⟩:=gc
  unfold faultV at HBO HCO HFU HFC
  simp only at HBU HBO HCL HCO HFU HFC
  have hzz : (z != z) = false:=by cases z <;> rfl
  have hz2 : (zu == zu) = true:=by cases zu <;> rfl
  go_wp2_with fail
  have HB3':=HB3
  clear HB3
  have HB3:=hid (Below.refl w3.heap.size w3)
  refine (HOM.out w3 (HBW.out _ HB3.out)).mono ?_
  rintro e w4 ⟨u4,rfl,ho,-,hb⟩
  have HB4:=hid (HB3.out.trans (hb.mono HB3.out.size))
  have HM4:=hid (mr_own ho hb)
  obtain ⟨a4,c4,hu4⟩:=HM4.out.sl
  subst hu4
  clear ho hb
  go_wp2_with fail
  refine (HBU.out w4 _ HB4.out HM4.out.ms).mono ?_
  rintro e w5 ⟨xa,xc,y5,rfl,hm5,he5⟩
  have HB5:=hid (HB4.out.trans (hm5.1.mono HB4.out.size))
  have HMX:=hid hm5.ms
  have HE5:=hid he5
  clear hm5 he5
  go_wp2_with fail
  refine (HBO.out w5 (HBW.out _ HB5.out)).mono ?_
  rintro e w6 ⟨wa,wc,rfl,hm6⟩
  have HB6:=hid (HB5.out.trans (hm6.1.mono HB5.out.size))
  have HMX6:=hid (HMX.out.below hm6.1)
  have HMW:=hid hm6.ms
  have HE6:=hid (HE5.out.below hm6.1)
  clear hm6 HBO HBU
  have HA7:=hid ((Below.refl w6.heap.size w6).alloc (Nat.le_refl _) (.cells #[.int .i64 (f1 : Nat),.int .i64 (atOf f2)] 36))
  have HB7:=hid (HB6.out.trans (HA7.out.mono HB6.out.size))
  have HF7:=hid (heap_new w6 (.cells #[.int .i64 (f1 : Nat),.int .i64 (atOf f2)] 36))
  have HMX7:=hid (HMX6.out.below HA7.out)
  have HMW7:=hid (HMW.out.below HA7.out)
  have HE7:=hid (HE6.out.below HA7.out)
  have HSG:=hid (show w3.heap.size <= w6.heap.size from HB6.out.size)
  generalize hf1 : ((f1 : Nat) : Int) = F1 at *
  generalize atOf f2 = F2 at *
  go_wp2_with fail
  generalize w6.alloc (.cells #[.int .i64 F1,.int .i64 F2] 36) = w7 at *
  generalize w6.heap.size = g at *
  clear HA7 HE6 HMW HMX6 HB6 HB5 HMX HE5 HB4 HM4
  refine (HFU.out w7 y5 HB7.out HE7.out).mono ?_
  rintro e w8 ⟨rfl,hb⟩
  have HB8:=hid (HB7.out.trans (hb.mono HB7.out.size))
  have HF8:=hid ((hb.block _ (lt_of_blk HF7.out)).trans HF7.out)
  have HSA:=hid (sameM_any X _ _ w8 (by have:=HXL.out; omega) (HMX7.out.below hb) (HMW7.out.below hb))
  clear hb HE7 HMX7 HMW7 HF7 HB7
  go_wp2_with fail
  refine HSA.out.mono ?_
  rintro e w9 ⟨rfl,hb⟩
  have HB9:=hid (HB8.out.trans (hb.mono HB8.out.size))
  have HF9:=hid ((hb.block _ (lt_of_blk HF8.out)).trans HF8.out)
  clear hb HSA HF8 HB8
  go_wp2_with fail
  refine (HOM.out w9 (HBW.out _ HB9.out)).mono ?_
  rintro e w10 ⟨u10,rfl,ho,-,hb⟩
  have HB10:=hid (HB9.out.trans (hb.mono HB9.out.size))
  have HM10:=hid (mr_own ho hb)
  obtain ⟨a10,c10,hu10⟩:=HM10.out.sl
  subst hu10
  have HF10:=hid ((hb.block _ (lt_of_blk HF9.out)).trans HF9.out)
  clear ho hb
  go_wp2_with fail
  refine (HOM2.out w10 (HBW.out _ HB10.out)).mono ?_
  rintro e w11 ⟨u11,rfl,ho,-,hb⟩
  have HB11:=hid (HB10.out.trans (hb.mono HB10.out.size))
  have HM11:=hid (mr_own ho hb)
  obtain ⟨a11,c11,hu11⟩:=HM11.out.sl
  subst hu11
  have HF11:=hid ((hb.block _ (lt_of_blk HF10.out)).trans HF10.out)
  have HM10b:=hid (HM10.out.ms.below hb)
  clear ho hb
  go_wp2_with fail
  refine (HCL.out w11 _ _ HB11.out HM10b.out HM11.out.ms HM11.out.em).mono ?_
  rintro e w12 ⟨y12,rfl,he12,hb⟩
  have HB12:=hid (HB11.out.trans (hb.mono HB11.out.size))
  have HF12:=hid ((hb.block _ (lt_of_blk HF11.out)).trans HF11.out)
  have HE12:=hid he12
  clear hb he12 HCL HF9 HF10 HF11 HB9 HB10 HB11 HM10 HM10b HM11
  go_wp2_with fail
  refine (HCO.out w12 (HBW.out _ HB12.out)).mono ?_
  rintro e w13 ⟨rfl,hb⟩
  have HB13:=hid (HB12.out.trans (hb.mono HB12.out.size))
  have HF13:=hid ((hb.block _ (lt_of_blk HF12.out)).trans HF12.out)
  have HE13:=hid (HE12.out.below hb)
  clear hb HCO HB12 HF12 HE12
  obtain ⟨q0,q1,qf⟩:=box_two HF13.out
  have HB14:=hid (put2_below (x:=.int .i64 ((g1 : Nat) : Int)) (y:=.int .i64 (atOf g2)) HB13.out HSG.out)
  have HE14:=hid (HE13.out.set2J HF13.out (.int .i64 ((g1 : Nat) : Int)) (.int .i64 (atOf g2)))
  go_wp2_with fail
  generalize (w13.setCell ⟨g,0,none⟩ (.int .i64 ((g1 : Nat) : Int))).setCell ⟨g,1,none⟩ (.int .i64 (atOf g2)) = w14 at *
  refine (HFC.out w14 y12 HB14.out HE14.out).mono ?_
  rintro e w15 ⟨rfl,hb⟩
  have HB15:=hid (HB14.out.trans (hb.mono HB14.out.size))
  clear hb HB13 HF13 HE13 HB14 HE14 q0 q1 qf HFC HFU
  go_wp2_with fail
  refine (HIU.out w15 (HBW.out _ HB15.out)).mono ?_
  rintro e w16 ⟨rfl,hb⟩
  have HB16:=hid (HB15.out.trans (hb.mono HB15.out.size))
  clear hb HIU HB15
  go_wp2_with fail
  refine (HOM2.out w16 (HBW.out _ HB16.out)).mono ?_
  rintro e w17 ⟨u17,rfl,ho,-,hb⟩
  have HB17:=hid (HB16.out.trans (hb.mono HB16.out.size))
  have HM17:=hid (mr_own ho hb)
  obtain ⟨a17,c17,hu17⟩:=HM17.out.sl
  subst hu17
  clear ho hb
  go_wp2_with fail
  refine (HOM3.out w17 (HBW.out _ HB17.out)).mono ?_
  rintro e w18 ⟨u18,rfl,ho,-,hb⟩
  have HB18:=hid (HB17.out.trans (hb.mono HB17.out.size))
  have HM18:=hid (mr_own ho hb)
  obtain ⟨a18,c18,hu18⟩:=HM18.out.sl
  subst hu18
  have HM17b:=hid (HM17.out.ms.below hb)
  clear ho hb
  go_wp2_with fail
  refine (HUN.out w18 _ _ HB18.out HM17b.out HM18.out.ms).mono ?_
  rintro e w19 ⟨rfl,hb⟩
  have HB19:=hid (HB18.out.trans (hb.mono HB18.out.size))
  clear hb HUN HB16 HB17 HB18 HM17 HM17b HM18
  go_wp2_with fail
  refine (HOM2.out w19 (HBW.out _ HB19.out)).mono ?_
  rintro e w20 ⟨u20,rfl,ho,-,hb⟩
  have HB20:=hid (HB19.out.trans (hb.mono HB19.out.size))
  have HM20:=hid (mr_own ho hb)
  obtain ⟨a20,c20,hu20⟩:=HM20.out.sl
  subst hu20
  clear ho hb
  go_wp2_with fail
  refine (HOM3.out w20 (HBW.out _ HB20.out)).mono ?_
  rintro e w21 ⟨u21,rfl,ho,-,hb⟩
  have HB21:=hid (HB20.out.trans (hb.mono HB20.out.size))
  have HM21:=hid (mr_own ho hb)
  obtain ⟨a21,c21,hu21⟩:=HM21.out.sl
  subst hu21
  have HM20b:=hid (HM20.out.ms.below hb)
  clear ho hb
  go_wp2_with fail
  refine (HJN.out w21 _ _ HB21.out HM20b.out HM21.out.ms HM20.out.em HM21.out.em).mono ?_
  rintro e w22 ⟨jv,E,rfl,-,hj,hm⟩
  have hEJ:=HJE.out E hj
  subst hEJ
  have HB22:=hid (HB21.out.trans (hm.1.mono HB21.out.size))
  have HMJ:=hid hm.ms
  obtain ⟨ja,jc,hjv⟩:=hm.sl
  subst hjv
  clear hj hm HJN HB19 HB20 HB21 HM20 HM20b HM21
  go_wp2_with fail
  refine (HJO.out w22 (HBW.out _ HB22.out)).mono ?_
  rintro e w23 ⟨ka,kc,rfl,hm⟩
  have HB23:=hid (HB22.out.trans (hm.1.mono HB22.out.size))
  have HSA:=hid (sameM_any E _ _ w23 (by have:=HJL.out; omega) (HMJ.out.below hm.1) hm.ms)
  clear hm HJO
  go_wp2_with fail
  refine HSA.out.mono ?_
  rintro e w24 ⟨rfl,hb⟩
  have HB24:=hid (HBW.out _ (HB23.out.trans (hb.mono HB23.out.size)))
  clear hb
  go_wp2_with fail
  go_ret
  exact ⟨rfl,HB24.out⟩
set_option maxRecDepth 100000 in
set_option maxHeartbeats 2000000 in
theorem mt_long (Q0 : List Raw) (L : List Ent) (ra rb rs : List Bm) (v u s t : Value) (A : Nat -> Addr) (m : Int) (w : World) (S : Te w A m) (I : Ixs w v Q0 L) (hr : MsAt w u ra) (hr2 : MsAt w s rb) (hr3 : MsAt w t rs) (hok : okI L = false) :
    Calls Tryz.prog 6 #[v,u,s,t] w fun e w'=>e = .returned (.bool true) /\ Below w.heap.size w w':=by
  obtain ⟨a0,c0,hv0,-⟩:=id I.es
  subst hv0
  obtain ⟨aa,ac,hu0,-⟩:=id hr
  subst hu0
  obtain ⟨ba,bc,hs0,-⟩:=id hr2
  subst hs0
  obtain ⟨ta,tc,ht0,-⟩:=id hr3
  subst ht0
  have HIN:=hid (built_any A m w S)
  have HLO:=hid (fun W (h : Below w.heap.size w W)=>longI_any Q0 L _ W (I.below h))
  rw [hok] at HLO
  clear S I hok hr hr2 hr3
  go_enter Tryz.func6,Tryz.ntmps6
  go_wp2_with fail
  refine HIN.out.mono ?_
  rintro e w1 ⟨rfl,hb⟩
  have HB1:=hid hb
  clear hb
  go_wp2_with fail
  refine (HLO.out w1 HB1.out).mono ?_
  rintro e w2 ⟨rfl,hb⟩
  have HB2:=hid (HB1.out.trans (hb.mono HB1.out.size))
  clear hb
  go_wp2_with fail
  go_ret
  exact ⟨rfl,HB2.out⟩
set_option maxRecDepth 100000 in
set_option maxHeartbeats 4000000 in
theorem mt_long2 (Q0 : List Raw) (L : List Ent) (ra rb rs : List Bm) (v u s t : Value) (A : Nat -> Addr) (m : Int) (w : World) (x y z : Int) (S : Te w A m) (I : Ixs w v Q0 L) (hr : MsAt w u ra) (hr2 : MsAt w s rb) (hr3 : MsAt w t rs) (hok : okI L = true) (hx : (if okLN 15 ra then (0 : Int) else 1) = x) (hy : (if okLN 15 rb then (0 : Int) else 1) = y) (hz : (if okLN 15 rs then (0 : Int) else 1) = z)
    (hxyz : (x = 1 /\ y = 0 /\ z = 0) \/ (x = 0 /\ y = 1 /\ z = 0) \/ (x = 0 /\ y = 0 /\ z = 1) \/ (x = 1 /\ y = 1 /\ z = 0) \/ (x = 1 /\ y = 0 /\ z = 1) \/ (x = 0 /\ y = 1 /\ z = 1) \/ (x = 1 /\ y = 1 /\ z = 1)) :
    Calls Tryz.prog 6 #[v,u,s,t] w fun e w'=>e = .returned (.bool true) /\ Below w.heap.size w w':=by
  obtain ⟨a0,c0,hv0,-⟩:=id I.es
  subst hv0
  obtain ⟨aa,ac,hu0,-⟩:=id hr
  subst hu0
  obtain ⟨ba,bc,hs0,-⟩:=id hr2
  subst hs0
  obtain ⟨ta,tc,ht0,-⟩:=id hr3
  subst ht0
  have HIN:=hid (built_any A m w S)
  have HLO:=hid (fun W (h : Below w.heap.size w W)=>longI_any Q0 L _ W (I.below h))
  rw [if_pos hok] at HLO
  have HLM:=hid (fun W (h : Below w.heap.size w W)=>longN_any 15 (by decide) ra _ W (hr.below h))
  rw [hx] at HLM
  have HLM2:=hid (fun W (h : Below w.heap.size w W)=>longN_any 15 (by decide) rb _ W (hr2.below h))
  rw [hy] at HLM2
  have HLM3:=hid (fun W (h : Below w.heap.size w W)=>longN_any 15 (by decide) rs _ W (hr3.below h))
  rw [hz] at HLM3
  clear S I hok hr hr2 hr3 hx hy hz
  rcases hxyz with ⟨rfl,rfl,rfl⟩ | ⟨rfl,rfl,rfl⟩ | ⟨rfl,rfl,rfl⟩ | ⟨rfl,rfl,rfl⟩ | ⟨rfl,rfl,rfl⟩ | ⟨rfl,rfl,rfl⟩ | ⟨rfl,rfl,rfl⟩
  all_goals
    go_enter Tryz.func6,Tryz.ntmps6
    go_wp2_with fail
    refine HIN.out.mono ?_
    rintro e w1 ⟨rfl,hb⟩
    have HB1:=hid hb
    clear hb
    go_wp2_with fail
    refine (HLO.out w1 HB1.out).mono ?_
    rintro e w2 ⟨rfl,hb⟩
    have HB2:=hid (HB1.out.trans (hb.mono HB1.out.size))
    clear hb
    go_wp2_with fail
    refine (HLM.out w2 HB2.out).mono ?_
    rintro e w3 ⟨rfl,rfl⟩
    go_wp2_with fail
    refine (HLM2.out w3 HB2.out).mono ?_
    rintro e w4 ⟨rfl,rfl⟩
    go_wp2_with fail
    refine (HLM3.out w4 HB2.out).mono ?_
    rintro e w5 ⟨rfl,rfl⟩
    go_wp2_with fail
    go_ret
    exact ⟨rfl,HB2.out⟩
theorem mvsTells_any (Q0 : List Raw) (L : List Ent) (ra rb rs : List Bm) (v u s t : Value) (A : Nat -> Addr) (m : Int) (w : World) (S : Te w A m) (N : Er.Sen w A) (I : Ixs w v Q0 L) (em : EmI Q0 L) (hr : MsAt w u ra) (her : Em u ra) (hr2 : MsAt w s rb) (her2 : Em s rb) (hr3 : MsAt w t rs) (her3 : Em t rs) :
    Calls Tryz.prog 6 #[v,u,s,t] w fun e w'=>e = .returned (.bool true) /\ Below w.heap.size w w':=by
  cases hok : okI L with
  | false=>exact mt_long Q0 L ra rb rs v u s t A m w S I hr hr2 hr3 hok
  | true=>
    cases hrk : okLN 15 ra <;> cases hrk2 : okLN 15 rb <;> cases hrk3 : okLN 15 rs
    case true.true.true=>exact mt_main Q0 L ra rb rs v u s t A m w S N I em hr her hr2 her2 hr3 her3 hok hrk hrk2 hrk3
    all_goals exact mt_long2 Q0 L ra rb rs v u s t A m w _ _ _ S I hr hr2 hr3 hok rfl rfl rfl (by rw [hrk,hrk2,hrk3]; decide)
end Ve
end Go.Proofs.YtlcffhadobhfkaaGreatDoor
