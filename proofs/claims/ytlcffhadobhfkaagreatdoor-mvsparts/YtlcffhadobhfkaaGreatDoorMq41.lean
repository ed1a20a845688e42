/-
  GrA GaA MpA
-/
import Derived.Test.YtlcffhadobhfkaaGreatDoorMq2
import Derived.Test.YtlcffhadobhfkaaGreatDoorMq6
import Derived.Test.YtlcffhadobhfkaaGreatDoorMq20
import Derived.Test.YtlcffhadobhfkaaGreatDoorMq22
import Derived.Test.YtlcffhadobhfkaaGreatDoorMq45
import Derived.Test.YtlcffhadobhfkaaGreatDoorMq3
import Derived.Test.YtlcffhadobhfkaaGreatDoorMq5
import Derived.Test.YtlcffhadobhfkaaGreatDoorMq9
import Derived.Test.YtlcffhadobhfkaaGreatDoorMq11
import Derived.Test.YtlcffhadobhfkaaGreatDoorMq18
import Derived.Test.YtlcffhadobhfkaaGreatDoorMq19
import Derived.Test.YtlcffhadobhfkaaGreatDoorMq17
import Derived.Test.YtlcffhadobhfkaaGreatDoorMq23
import Derived.Test.YtlcffhadobhfkaaGreatDoorMq34
import Derived.Test.YtlcffhadobhfkaaGreatDoorMq37
import Derived.Test.YtlcffhadobhfkaaGreatDoorMq36
import Derived.Test.YtlcffhadobhfkaaGreatDoorMq33
import Derived.Test.YtlcffhadobhfkaaGreatDoorMq56
import Derived.Test.YtlcffhadobhfkaaGreatDoorMq54
namespace Go.Proofs.YtlcffhadobhfkaaGreatDoor
namespace Ve
theorem Rch.app {req : Bm -> List Bm} {a b : List Bm} {m : Bm} : Rch req (a ++ b) m ↔ Rch req a m \/ Rch req b m:=by
  constructor
  · intro h
    induction h with
    | root hr=>
      rcases List.mem_append.1 hr with h1 | h1
      · exact Or.inl (.root h1)
      · exact Or.inr (.root h1)
    | step _ hr ih=>
      rcases ih with h1 | h1
      · exact Or.inl (.step h1 hr)
      · exact Or.inr (.step h1 hr)
  · rintro (h | h)
    · exact h.mono fun m hm=>List.mem_append_left _ hm
    · exact h.mono fun m hm=>List.mem_append_right _ hm
open Go.RowKit Go.Maps
theorem came_app {req : Bm -> List Bm} {U a b : List Bm} {Ta Tb Tc : By} (ha : Came req U a Ta) (hb : Came req U b Tb) (hc : Came req U (a ++ b) Tc) (m : Bm) : cameB Tc m = (cameB Ta m || cameB Tb m):=by
  rw [Bool.eq_iff_iff,Bool.or_eq_true,hc.cameB,ha.cameB,hb.cameB]
  exact Rch.app
theorem chkG_bothJ {w : World} {v : Value} {Q : List Raw} {L : List Ent} {a b : List Bm} (I : Ixs w v Q L) (h : (chkG Q L (a ++ b)).1 = 0) : (chkG Q L a).1 = 0 /\ (chkG Q L b).1 = 0:=by
  have r:=rgt_of I h
  exact ⟨chkG_in I r.c (fun m hm=>r.r m (List.mem_append_left _ hm)),chkG_in I r.c (fun m hm=>r.r m (List.mem_append_right _ hm))⟩
theorem goM_memJ {T : By} {Q : List Raw} {m : Bm} : m ∈ goM T Q ↔ cameB T m = true /\ ∃ r,r ∈ Q /\ r.1 = m:=by
  unfold goM goQ
  rw [List.mem_map]
  constructor
  · rintro ⟨r,hr,rfl⟩
    obtain ⟨h1,h2⟩:=List.mem_filter.1 hr
    exact ⟨h2,r,h1,rfl⟩
  · rintro ⟨h1,r,hr,rfl⟩
    exact ⟨r,List.mem_filter.2 ⟨hr,h1⟩,rfl⟩
theorem bt_parts {Q : List Raw} {L : List Ent} {a b Ea Eb Ec F : List Bm} (ha : Bt Q L a Ea) (hb : Bt Q L b Eb) (hc : Bt Q L (a ++ b) Ec) (hj : Jn (Ea ++ Eb) F) : Ec = F := by
  obtain ⟨Ta,ca,ja,_⟩:=ha.c
  obtain ⟨Tb,cb,jb,_⟩:=hb.c
  obtain ⟨Tc,cc,jc,_⟩:=hc.c
  have hT:=came_app ca cb cc
  have mem : ∀ m,m ∈ goM Tc Q ↔ m ∈ goM Ta Q \/ m ∈ goM Tb Q:=fun m=>by
    rw [goM_memJ,goM_memJ,goM_memJ,hT m,Bool.or_eq_true]
    constructor
    · rintro ⟨h | h,h2⟩
      · exact Or.inl ⟨h,h2⟩
      · exact Or.inr ⟨h,h2⟩
    · rintro (⟨h,h2⟩ | ⟨h,h2⟩)
      · exact ⟨Or.inl h,h2⟩
      · exact ⟨Or.inr h,h2⟩
  have jF : Jn (goM Tc Q) F:=by
    refine ⟨hj.ri,fun e he=>?_,fun x hx hr=>?_⟩
    · obtain ⟨h1,h2⟩:=hj.sub e he
      refine ⟨(mem e).2 ?_,h2⟩
      rcases List.mem_append.1 h1 with h | h
      · exact Or.inl (ja.sub e h).1
      · exact Or.inr (jb.sub e h).1
    · have up : ∀ e,e ∈ Ea ++ Eb -> e.1 = x.1 -> mErr e = 0 -> ordV (vb x) (vb e) <= 0 -> ∃ f,f ∈ F /\ f.1 = x.1 /\ ordV (vb x) (vb f) <= 0:=fun e he e1 er e2=>by
        obtain ⟨f,hf,f1,f2⟩:=hj.top e he er
        exact ⟨f,hf,f1.trans e1,ordV_le_trans (mErr_zero hr).2 (mErr_zero er).2 (mErr_zero (hj.sub f hf).2).2 e2 f2⟩
      rcases (mem x).1 hx with h | h
      · obtain ⟨e,he,e1,e2⟩:=ja.top x h hr
        exact up e (List.mem_append_left _ he) e1 (ja.sub e he).2 e2
      · obtain ⟨e,he,e1,e2⟩:=jb.top x h hr
        exact up e (List.mem_append_right _ he) e1 (jb.sub e he).2 e2
  exact jc.one jF (fun _ _=>Iff.rfl)
theorem Bt.sz {w : World} {v : Value} {Q : List Raw} {L : List Ent} {a E : List Bm} (h : Bt Q L a E) (I : Ixs w v Q L) (sh : ∀ e,e ∈ L -> ShE e) : ∀ r,r ∈ E -> r.1.size < 999999 /\ r.2.size < 999999:=fun r hr=>by
  obtain ⟨T,_,j,_⟩:=h.c
  exact univ_szJ sh (goM_sub I (j.sub r hr).1)
theorem Bt.lenP {w : World} {v : Value} {Q : List Raw} {L : List Ent} {a E : List Bm} (h : Bt Q L a E) (I : Ixs w v Q L) : E.length <= L.length:=by
  obtain ⟨T,_,_,hl⟩:=h.c
  exact Nat.le_trans hl (goM_lenJ I T)
set_option maxRecDepth 100000 in
set_option maxHeartbeats 4000000 in
theorem mp_head (Q0 : List Raw) (L : List Ent) (ra rb : List Bm) (v u s : Value) (A : Nat → Addr) (m : Int) (w : World) (S : Te w A m) (I : Ixs w v Q0 L) (em : EmI Q0 L) (hr : MsAt w u ra) (her : Em u ra) (hr2 : MsAt w s rb) (her2 : Em s rb) (hok : okI L = true) (hrk : okLN 10 ra = true) (hrk2 : okLN 10 rb = true) :
    Calls Tryz.prog 7 #[v,u,s] w fun e w'=>e = .returned (.bool true) /\ Below w.heap.size w w':=by
  obtain ⟨a0,c0,hv0,-⟩:=id I.es
  subst hv0
  obtain ⟨aa,ac,hu0,-⟩:=id hr
  subst hu0
  obtain ⟨ba,bc,hs0,-⟩:=id hr2
  subst hs0
  have hn101 : L.length <= 101:=by rcases (okI_iff hok).1 with h | h <;> omega
  have ha10 : ra.length <= 10:=(okLN_iff hrk).1
  have hb10 : rb.length <= 10:=(okLN_iff hrk2).1
  have HIN:=hid (built_any A m w S)
  have HLO:=hid (fun W (h : Below w.heap.size w W)=>longI_any Q0 L _ W (I.below h))
  rw [if_pos hok] at HLO
  have HLM:=hid (fun W (h : Below w.heap.size w W)=>longN_any 10 (by decide) ra _ W (hr.below h))
  rw [if_pos hrk] at HLM
  have HLM2:=hid (fun W (h : Below w.heap.size w W)=>longN_any 10 (by decide) rb _ W (hr2.below h))
  rw [if_pos hrk2] at HLM2
  have HOW:=hid (fun W (h : Below w.heap.size w W)=>ownI_any Q0 L _ W (by omega) (I.below h) em (okI_fits hok))
  have HOM:=hid (fun W (h : Below w.heap.size w W)=>ownM_any _ ra W (by omega) (hr.below h) her)
  have HOM2:=hid (fun W (h : Below w.heap.size w W)=>ownM_any _ rb W (by omega) (hr2.below h) her2)
  have HS:=hid S
  have HR2:=hid hr2
  have HER2:=hid her2
  have HSH:=hid (okI_sh hok)
  clear S I em hok hr her hr2 her2 hrk hrk2
  go_enter Tryz.func7,Tryz.ntmps7
  go_wp2_with fail
  refine HIN.out.mono ?_
  rintro e w1 ⟨rfl,hb⟩
  have HB1:=hid hb
  clear hb
  go_wp2_with fail
  refine (HLO.out w1 HB1.out).mono ?_
  rintro e w2 ⟨rfl,hb⟩
  have HB2:=hid (HB1.out.trans (hb.mono HB1.out.size))
  clear hb
  go_wp2_with fail
  refine (HLM.out w2 HB2.out).mono ?_
  rintro e w2a ⟨rfl,rfl⟩
  go_wp2_with fail
  refine (HLM2.out w2a HB2.out).mono ?_
  rintro e w2b ⟨rfl,rfl⟩
  go_wp2_with fail
  refine (HOW.out w2b HB2.out).mono ?_
  rintro e w3 ⟨ou,Q,rfl,hO,hb⟩
  have HB3:=hid (HB2.out.trans (hb.mono HB2.out.size))
  have HIX:=hid hO.ixs
  obtain ⟨oa,oc,hou,-⟩:=id hO.ixs.es
  subst hou
  clear hb hO HLO HLM HLM2 HOW HIN HB1
  go_wp2_with fail
  refine (HOM.out w3 HB3.out).mono ?_
  rintro e w4 ⟨bu,rfl,hbo,-,hb⟩
  have hs34:=hb.size
  obtain ⟨dv,w5,hrun,hown5,hgr5⟩:=both_run ra rb bu _ w4 w3.heap.size hb.size (by omega) (by omega) hbo (HR2.out.below (HB3.out.trans (hb.mono HB3.out.size))) HER2.out
  obtain ⟨rab,hrab⟩ : ∃ rab,ra ++ rb = rab:=⟨_,rfl⟩
  rw [hrab] at hown5
  have HRAB:=hid hrab
  have hrl : rab.length <= 1000000:=by rw [<- hrab]; simp; omega
  clear hrab
  have HW35:=hid (show Below w3.heap.size w3 w5 from hb.grown hgr5 hb.size (fun k hk=>(hbo.lt k hk).1))
  have HB5:=hid (HB3.out.trans (HW35.out.mono HB3.out.size))
  have HIX5:=hid (HIX.out.below HW35.out)
  have HDV:=hid (own_ms hown5)
  have HRUN:=hid hrun
  obtain ⟨bua,buc,hbu⟩:=own_slN hbo
  subst hbu
  obtain ⟨da,dc,hdv⟩:=own_slN hown5
  subst hdv
  clear hb hbo hown5 hgr5 hrun hs34 HIX
  go_wp2_with (at_builtin; refine Lib.wpList_append_run _ rfl _ _ _ _ rfl _ _ rfl rfl _ _ HRUN.out ?_)
  go_wp2_with fail
  refine (HOM.out w5 HB5.out).mono ?_
  rintro e w6 ⟨au,rfl,hao,-,hb⟩
  have HB6:=hid (HB5.out.trans (hb.mono HB5.out.size))
  have HIX6:=hid (HIX5.out.below hb)
  have HDV6:=hid (HDV.out.below hb)
  have HAO:=hid (own_ms hao)
  obtain ⟨aua,auc,hau⟩:=own_slN hao
  subst hau
  clear hb hao HDV HIX5 HRUN HOM
  by_cases hca : (chkG Q L ra).1 = 0
  · have HRE:=hid (build_good Q L ra _ _ A m w6 (by omega) (by omega) HSH.out (HS.out.below HB6.out) HIX6.out HAO.out hca)
    go_wp2_with fail
    refine HRE.out.mono ?_
    rintro e w7 ⟨xu,Ea,rfl,hba,hxo⟩
    have HBA:=hid hba
    have hb:=hxo.1
    have HB7:=hid (HB6.out.trans (hb.mono HB6.out.size))
    have HIX7:=hid (HIX6.out.below hb)
    have HDV7:=hid (HDV6.out.below hb)
    have HXO:=hid hxo.ms
    have HXE:=hid hxo.em
    obtain ⟨xa,xc,hxu⟩:=hxo.sl
    subst hxu
    clear hb hba hxo HRE HIX6 HDV6 HAO
    go_wp2_with fail
    refine (HOM2.out w7 HB7.out).mono ?_
    rintro e w8 ⟨bv,rfl,hbo,-,hb⟩
    have HB8:=hid (HB7.out.trans (hb.mono HB7.out.size))
    have HIX8:=hid (HIX7.out.below hb)
    have HDV8:=hid (HDV7.out.below hb)
    have HXO8:=hid (HXO.out.below hb)
    have HBO:=hid (own_ms hbo)
    obtain ⟨bva,bvc,hbv⟩:=own_slN hbo
    subst hbv
    clear hb hbo HIX7 HDV7 HOM2 HXO
    by_cases hcb : (chkG Q L rb).1 = 0
    · have HRE:=hid (build_good Q L rb _ _ A m w8 (by omega) (by omega) HSH.out (HS.out.below HB8.out) HIX8.out HBO.out hcb)
      go_wp2_with fail
      refine HRE.out.mono ?_
      rintro e w9 ⟨yu,Eb,rfl,hbb,hyo⟩
      have HBB:=hid hbb
      have hb:=hyo.1
      have HB9:=hid (HB8.out.trans (hb.mono HB8.out.size))
      have HIX9:=hid (HIX8.out.below hb)
      have HDV9:=hid (HDV8.out.below hb)
      have HYO:=hid hyo
      obtain ⟨ya,yc,hyu⟩:=hyo.sl
      subst hyu
      have HXO9:=hid (HXO8.out.below hb)
      clear hb hbb hyo HRE HIX8 HDV8 HBO
      have HRG:=hid (rgt_of HIX9.out hca)
      have HRG2:=hid (rgt_of HIX9.out hcb)
      have HRE2:=hid (build_good Q L rab _ _ A m w9 (by omega) hrl HSH.out (HS.out.below HB9.out) HIX9.out HDV9.out (chkG_in HIX9.out HRG.out.c (fun x hx=>by
        rw [<- HRAB.out] at hx
        rcases List.mem_append.1 hx with h | h
        · exact HRG.out.r x h
        · exact HRG2.out.r x h)))
      go_wp2_with fail
      refine HRE2.out.mono ?_
      rintro e w10 ⟨zu,Ec,rfl,hbz,hzo⟩
      have hb:=hzo.1
      have HB10:=hid (HB9.out.trans (hb.mono HB9.out.size))
      have HBZ:=hid hbz
      have HZO:=hid hzo.ms
      have HJ:=hid (join_mods Ea Eb _ _ A m w10 (HXO9.out.below hb) (HYO.out.ms.below hb) HXE.out HYO.out.em (by have:=HBA.out.lenP HIX9.out; omega) (by have:=HBB.out.lenP HIX9.out; omega) (fun r hr=>by
        rcases List.mem_append.1 hr with h | h
        · exact HBA.out.sz HIX9.out HSH.out r h
        · exact HBB.out.sz HIX9.out HSH.out r h) (HS.out.below HB10.out))
      have hEc : Ec.length <= 1000000:=by have:=HBZ.out.lenP HIX9.out; omega
      obtain ⟨za,zc,hzu⟩:=hzo.sl
      subst hzu
      clear hb hbz hzo HRE2
      go_wp2_with fail
      refine HJ.out.mono ?_
      rintro e w11 ⟨ju,F,rfl,-,hj,hjm⟩
      have hEF : Ec = F:=bt_parts HBA.out HBB.out (by rw [HRAB.out]; exact HBZ.out) hj
      subst hEF
      have hb:=hjm.1
      have HB11:=hid (HB10.out.trans (hb.mono HB10.out.size))
      have HSM:=hid (sameM_any Ec _ _ w11 hEc (HZO.out.below hb) hjm.ms)
      obtain ⟨ja,jc,hju⟩:=hjm.sl
      subst hju
      clear hb hj hjm HJ
      go_wp2_with fail
      refine HSM.out.mono ?_
      rintro e w12 ⟨rfl,hb⟩
      have HB12:=hid (HB11.out.trans (hb.mono HB11.out.size))
      clear hb
      go_wp2_with fail
      go_ret
      exact ⟨rfl,HB12.out⟩
    · have HRE:=hid (build_bad Q L rb _ _ A m w8 (by omega) (by omega) HSH.out (HS.out.below HB8.out) HIX8.out HBO.out hcb)
      go_wp2_with fail
      refine HRE.out.mono ?_
      rintro e w9 ⟨Tb,yp,rfl,-,hb⟩
      have HB9:=hid (HB8.out.trans (hb.mono HB8.out.size))
      have HIX9:=hid (HIX8.out.below hb)
      have HDV9:=hid (HDV8.out.below hb)
      clear hb HRE HIX8 HDV8 HBO
      have HRE2:=hid (build_bad Q L rab _ _ A m w9 (by omega) hrl HSH.out (HS.out.below HB9.out) HIX9.out HDV9.out (fun h=>hcb (by rw [<- HRAB.out] at h; exact (chkG_bothJ HIX9.out h).2)))
      go_wp2_with fail
      refine HRE2.out.mono ?_
      rintro e w10 ⟨Tz,zp,rfl,-,hb⟩
      have HB10:=hid (HB9.out.trans (hb.mono HB9.out.size))
      clear hb HRE2
      go_wp2_with fail
      go_ret
      exact ⟨rfl,HB10.out⟩
  · have HRE:=hid (build_bad Q L ra _ _ A m w6 (by omega) (by omega) HSH.out (HS.out.below HB6.out) HIX6.out HAO.out hca)
    go_wp2_with fail
    refine HRE.out.mono ?_
    rintro e w7 ⟨Ta,xp,rfl,-,hb⟩
    have HB7:=hid (HB6.out.trans (hb.mono HB6.out.size))
    have HIX7:=hid (HIX6.out.below hb)
    have HDV7:=hid (HDV6.out.below hb)
    clear hb HRE HIX6 HDV6 HAO
    go_wp2_with fail
    refine (HOM2.out w7 HB7.out).mono ?_
    rintro e w8 ⟨bv,rfl,hbo,-,hb⟩
    have HB8:=hid (HB7.out.trans (hb.mono HB7.out.size))
    have HIX8:=hid (HIX7.out.below hb)
    have HDV8:=hid (HDV7.out.below hb)
    have HBO:=hid (own_ms hbo)
    obtain ⟨bva,bvc,hbv⟩:=own_slN hbo
    subst hbv
    clear hb hbo HIX7 HDV7 HOM2
    by_cases hcb : (chkG Q L rb).1 = 0
    · have HRE:=hid (build_good Q L rb _ _ A m w8 (by omega) (by omega) HSH.out (HS.out.below HB8.out) HIX8.out HBO.out hcb)
      go_wp2_with fail
      refine HRE.out.mono ?_
      rintro e w9 ⟨yu,Eb,rfl,hbb,hyo⟩
      have HBB:=hid hbb
      have hb:=hyo.1
      have HB9:=hid (HB8.out.trans (hb.mono HB8.out.size))
      have HIX9:=hid (HIX8.out.below hb)
      have HDV9:=hid (HDV8.out.below hb)
      have HYO:=hid hyo
      obtain ⟨ya,yc,hyu⟩:=hyo.sl
      subst hyu
      clear hb hbb hyo HRE HIX8 HDV8 HBO
      have HRE2:=hid (build_bad Q L rab _ _ A m w9 (by omega) hrl HSH.out (HS.out.below HB9.out) HIX9.out HDV9.out (fun h=>hca (by rw [<- HRAB.out] at h; exact (chkG_bothJ HIX9.out h).1)))
      go_wp2_with fail
      refine HRE2.out.mono ?_
      rintro e w10 ⟨Tz,zp,rfl,-,hb⟩
      have HB10:=hid (HB9.out.trans (hb.mono HB9.out.size))
      clear hb HRE2
      go_wp2_with fail
      go_ret
      exact ⟨rfl,HB10.out⟩
    · have HRE:=hid (build_bad Q L rb _ _ A m w8 (by omega) (by omega) HSH.out (HS.out.below HB8.out) HIX8.out HBO.out hcb)
      go_wp2_with fail
      refine HRE.out.mono ?_
      rintro e w9 ⟨Tb,yp,rfl,-,hb⟩
      have HB9:=hid (HB8.out.trans (hb.mono HB8.out.size))
      have HIX9:=hid (HIX8.out.below hb)
      have HDV9:=hid (HDV8.out.below hb)
      clear hb HRE HIX8 HDV8 HBO
      have HRE2:=hid (build_bad Q L rab _ _ A m w9 (by omega) hrl HSH.out (HS.out.below HB9.out) HIX9.out HDV9.out (fun h=>hcb (by rw [<- HRAB.out] at h; exact (chkG_bothJ HIX9.out h).2)))
      go_wp2_with fail
      refine HRE2.out.mono ?_
      rintro e w10 ⟨Tz,zp,rfl,-,hb⟩
      have HB10:=hid (HB9.out.trans (hb.mono HB9.out.size))
      clear hb HRE2
      go_wp2_with fail
      go_ret
      exact ⟨rfl,HB10.out⟩
set_option maxRecDepth 100000 in
set_option maxHeartbeats 2000000 in
theorem mp_long (Q0 : List Raw) (L : List Ent) (ra rb : List Bm) (v u s : Value) (A : Nat -> Addr) (m : Int) (w : World) (S : Te w A m) (I : Ixs w v Q0 L) (hr : MsAt w u ra) (hr2 : MsAt w s rb) (hok : okI L = false) :
    Calls Tryz.prog 7 #[v,u,s] w fun e w'=>e = .returned (.bool true) /\ Below w.heap.size w w':=by
  obtain ⟨a0,c0,hv0,-⟩:=id I.es
  subst hv0
  obtain ⟨aa,ac,hu0,-⟩:=id hr
  subst hu0
  obtain ⟨ba,bc,hs0,-⟩:=id hr2
  subst hs0
  have HIN:=hid (built_any A m w S)
  have HLO:=hid (fun W (h : Below w.heap.size w W)=>longI_any Q0 L _ W (I.below h))
  rw [hok] at HLO
  clear S I hok hr hr2
  go_enter Tryz.func7,Tryz.ntmps7
  go_wp2_with fail
  refine HIN.out.mono ?_
  rintro e w1 ⟨rfl,hb⟩
  have HB1:=hid hb
  clear hb
  go_wp2_with fail
  refine (HLO.out w1 HB1.out).mono ?_
  rintro e w2 ⟨rfl,hb⟩
  have HB2:=hid (HB1.out.trans (hb.mono HB1.out.size))
  clear hb
  go_wp2_with fail
  go_ret
  exact ⟨rfl,HB2.out⟩
set_option maxRecDepth 100000 in
set_option maxHeartbeats 2000000 in
theorem mp_long2 (Q0 : List Raw) (L : List Ent) (ra rb : List Bm) (v u s : Value) (A : Nat -> Addr) (m : Int) (w : World) (x y : Int) (S : Te w A m) (I : Ixs w v Q0 L) (hr : MsAt w u ra) (hr2 : MsAt w s rb) (hok : okI L = true) (hx : (if okLN 10 ra then (0 : Int) else 1) = x) (hy : (if okLN 10 rb then (0 : Int) else 1) = y) (hxy : (x = 1 /\ y = 0) \/ (x = 0 /\ y = 1) \/ (x = 1 /\ y = 1)) :
    Calls Tryz.prog 7 #[v,u,s] w fun e w'=>e = .returned (.bool true) /\ Below w.heap.size w w':=by
  obtain ⟨a0,c0,hv0,-⟩:=id I.es
  subst hv0
  obtain ⟨aa,ac,hu0,-⟩:=id hr
  subst hu0
  obtain ⟨ba,bc,hs0,-⟩:=id hr2
  subst hs0
  have HIN:=hid (built_any A m w S)
  have HLO:=hid (fun W (h : Below w.heap.size w W)=>longI_any Q0 L _ W (I.below h))
  rw [if_pos hok] at HLO
  have HLM:=hid (fun W (h : Below w.heap.size w W)=>longN_any 10 (by decide) ra _ W (hr.below h))
  rw [hx] at HLM
  have HLM2:=hid (fun W (h : Below w.heap.size w W)=>longN_any 10 (by decide) rb _ W (hr2.below h))
  rw [hy] at HLM2
  clear S I hok hr hr2 hx hy
  rcases hxy with ⟨rfl,rfl⟩ | ⟨rfl,rfl⟩ | ⟨rfl,rfl⟩
  all_goals
    go_enter Tryz.func7,Tryz.ntmps7
    go_wp2_with fail
    refine HIN.out.mono ?_
    rintro e w1 ⟨rfl,hb⟩
    have HB1:=hid hb
    clear hb
    go_wp2_with fail
    refine (HLO.out w1 HB1.out).mono ?_
    rintro e w2 ⟨rfl,hb⟩
    have HB2:=hid (HB1.out.trans (hb.mono HB1.out.size))
    clear hb
    go_wp2_with fail
    refine (HLM.out w2 HB2.out).mono ?_
    rintro e w3 ⟨rfl,rfl⟩
    go_wp2_with fail
    refine (HLM2.out w3 HB2.out).mono ?_
    rintro e w4 ⟨rfl,rfl⟩
    go_wp2_with fail
    go_ret
    exact ⟨rfl,HB2.out⟩
theorem mvsParts_any (Q0 : List Raw) (L : List Ent) (ra rb : List Bm) (v u s : Value) (A : Nat -> Addr) (m : Int) (w : World) (S : Te w A m) (I : Ixs w v Q0 L) (em : EmI Q0 L) (hr : MsAt w u ra) (her : Em u ra) (hr2 : MsAt w s rb) (her2 : Em s rb) :
    Calls Tryz.prog 7 #[v,u,s] w fun e w'=>e = .returned (.bool true) /\ Below w.heap.size w w':=by
  cases hok : okI L with
  | false=>exact mp_long Q0 L ra rb v u s A m w S I hr hr2 hok
  | true=>
    cases hrk : okLN 10 ra with
    | false=>
      cases hrk2 : okLN 10 rb with
      | false=>exact mp_long2 Q0 L ra rb v u s A m w 1 1 S I hr hr2 hok (by rw [hrk]; rfl) (by rw [hrk2]; rfl) (Or.inr (Or.inr ⟨rfl,rfl⟩))
      | true=>exact mp_long2 Q0 L ra rb v u s A m w 1 0 S I hr hr2 hok (by rw [hrk]; rfl) (by rw [hrk2]; rfl) (Or.inl ⟨rfl,rfl⟩)
    | true=>
      cases hrk2 : okLN 10 rb with
      | false=>exact mp_long2 Q0 L ra rb v u s A m w 0 1 S I hr hr2 hok (by rw [hrk]; rfl) (by rw [hrk2]; rfl) (Or.inr (Or.inl ⟨rfl,rfl⟩))
      | true=>exact mp_head Q0 L ra rb v u s A m w S I em hr her hr2 her2 hok hrk hrk2
end Ve
end Go.Proofs.YtlcffhadobhfkaaGreatDoor
