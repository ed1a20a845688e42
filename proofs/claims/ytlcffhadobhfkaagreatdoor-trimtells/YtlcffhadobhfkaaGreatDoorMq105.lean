/-
  TmC TmE
-/
import Derived.Test.YtlcffhadobhfkaaGreatDoorMq3
import Derived.Test.YtlcffhadobhfkaaGreatDoorMq5
import Derived.Test.YtlcffhadobhfkaaGreatDoorMq6
import Derived.Test.YtlcffhadobhfkaaGreatDoorMq9
import Derived.Test.YtlcffhadobhfkaaGreatDoorMq11
import Derived.Test.YtlcffhadobhfkaaGreatDoorMq2
import Derived.Test.YtlcffhadobhfkaaGreatDoorMq18
import Derived.Test.YtlcffhadobhfkaaGreatDoorMq19
import Derived.Test.YtlcffhadobhfkaaGreatDoorMq20
import Derived.Test.YtlcffhadobhfkaaGreatDoorMq23
import Derived.Test.YtlcffhadobhfkaaGreatDoorMq32
import Derived.Test.YtlcffhadobhfkaaGreatDoorMq37
import Derived.Test.YtlcffhadobhfkaaGreatDoorMq22
import Derived.Test.YtlcffhadobhfkaaGreatDoorMq34
import Derived.Test.YtlcffhadobhfkaaGreatDoorMq45
import Derived.Test.YtlcffhadobhfkaaGreatDoorMq36
import Derived.Test.YtlcffhadobhfkaaGreatDoorMq56
import Derived.Test.YtlcffhadobhfkaaGreatDoorMq40
import Derived.Test.YtlcffhadobhfkaaGreatDoorMq39
namespace Go.Proofs.YtlcffhadobhfkaaGreatDoor
open Go.RowKit Go.Maps
namespace Ve
set_option maxHeartbeats 1000000 in
theorem woK_any (x m : Bm) (b : Nat) (W : World) (h0 : W.cell? ⟨b,0,none⟩ = some (.string m.1)) (h1 : W.cell? ⟨b,1,none⟩ = some (.string m.2)) :
    Calls Tryz.prog 148 (#[.agg #[.string x.1,.string x.2]] ++ #[.pointer (some ⟨b,0,none⟩)]) W fun e w'=>e = .returned (.bool (eqM x m)) /\ Below W.heap.size W w':=by
  have heq:=fun W=>eqM_run x m W
  have hgd:=modGuard
  generalize eqM x m = z at *
  obtain ⟨p,v⟩:=x
  obtain ⟨q,u⟩:=m
  simp only at h0 h1 heq
  show Calls Tryz.prog 148 #[.agg #[.string p,.string v],.pointer (some ⟨b,0,none⟩)] W _
  have HB0:=hid ((Below.refl W.heap.size W).alloc (Nat.le_refl _) (.cells #[.string p,.string v] 25))
  have c0:=cell_below HB0.out h0
  have c1:=cell_below HB0.out h1
  have hbb : ¬ b = W.heap.size:=by have:=lt_of_cell h0; simp at this; omega
  have hbb2 : ¬ W.heap.size = b:=fun h=>hbb h.symm
  go_enter Tryz.func148,Tryz.ntmps148
  go_wp2_with fail
  go_ret
  exact ⟨rfl,HB0.out⟩
set_option maxHeartbeats 1000000 in
theorem wo_any (D : List Bm) (m : Bm) (v : Value) (w : World) (hD : D.length <= 1000000) (hv : MsAt w v D) (hem : Em v D) :
    Calls Tryz.prog 108 #[v,.agg #[.string m.1,.string m.2]] w fun e w'=>∃ a c,e = .returned (.slice a (woM D m).length c) /\ Mr w w' (.slice a (woM D m).length c) (woM D m):=by
  have eg : ∀ args w,(callFunc 148 args).run Tryz.prog w = .ok (.enter 148 args) w:=enters_of Tryz.func148 (by kernel_rfl) rfl
  have HB0:=hid ((Below.refl w.heap.size w).alloc (Nat.le_refl _) (.cells #[.string m.1,.string m.2] 25))
  have HCL:=hid (cloneM_any v D _ hD (hv.below HB0.out) hem)
  have HDE:=hid (fun W u (hR : Mr (w.alloc (.cells #[.string m.1,.string m.2] 25)) W u D)=>delP_mr 148 #[.pointer (some ⟨w.heap.size,0,none⟩)] (fun x=>eqM x m) _ W u D eg hD hR (fun x W' hW=>woK_any x m w.heap.size W' (cell_below hW (by simp)) (cell_below hW (by simp))))
  obtain ⟨va,vn,vc,hv1⟩:=hv.slice
  subst hv1
  obtain ⟨p,q⟩:=m
  have HKL:=hid (show kpL (fun x=>eqM x (p,q)) D = woM D (p,q) from rfl)
  rw [HKL.out] at HDE
  generalize woM D (p,q) = E at *
  clear hv hem eg HKL
  go_enter Tryz.func108,Tryz.ntmps108
  go_wp2_with fail
  refine HCL.out.mono ?_
  rintro e w1 ⟨a,c,rfl,hm⟩
  have HD1:=hid (HDE.out w1 _ hm)
  clear hm HDE HCL
  go_wp2_with fail
  refine HD1.out.mono ?_
  rintro e w2 ⟨a2,c2,rfl,hm⟩
  have HM:=hid (hm.base HB0.out)
  clear hm HD1
  go_wp2_with fail
  go_ret
  exact ⟨_,_,rfl,HM.out⟩
open Classical in
noncomputable def blB (Q : List Raw) (L : List Ent) (roots sel : List Bm) : Bool:=if (chkG Q L roots).1 = 0 then decide (bX Q L roots = sel) else false
theorem blB_bad {Q : List Raw} {L : List Ent} {roots sel : List Bm} (h : ¬ (chkG Q L roots).1 = 0) : blB Q L roots sel = false:=if_neg h
theorem blB_good {Q : List Raw} {L : List Ent} {roots sel : List Bm} (h : (chkG Q L roots).1 = 0) : blB Q L roots sel = decide (bX Q L roots = sel):=by
  unfold blB
  rw [if_pos h]
theorem blB_g {Q : List Raw} {L : List Ent} {roots sel : List Bm} (h : (chkG Q L roots).1 = 0) : blB Q L roots sel = gB Q L sel roots:=by
  unfold blB gB
  rw [if_pos h]
set_option maxRecDepth 100000 in
set_option maxHeartbeats 2000000 in
theorem bl_good (Q : List Raw) (L : List Ent) (roots sel : List Bm) (v rv sv : Value) (A : Nat -> Addr) (m : Int) (w : World) (hn : L.length <= 1000) (hrn : roots.length <= 1000000) (sh : ∀ e,e ∈ L -> ShE e) (S : Te w A m) (I : Ixs w v Q L) (hr : MsAt w rv roots) (hs : MsAt w sv sel) (h0 : (chkG Q L roots).1 = 0) :
    Calls Tryz.prog 106 #[v,rv,sv] w fun e w'=>e = .returned (.tuple #[.bool (blB Q L roots sel),.nilIface]) /\ Below w.heap.size w w':=by
  have HBU:=hid (build_all Q L roots v rv A m w hn hrn sh S I hr)
  rw [rF_good h0] at HBU
  have HL:=hid (show (bX Q L roots).length <= 1000000 from Nat.le_trans bX_len (by omega))
  have HZ:=hid (blB_good (sel:=sel) h0)
  have HS:=hid (fun W (h : Below w.heap.size w W)=>hs.below h)
  obtain ⟨a0,c0,hv0,-⟩:=id I.es
  subst hv0
  obtain ⟨ra,rc,hu0,-⟩:=id hr
  subst hu0
  obtain ⟨sa,sc,hs0,-⟩:=id hs
  subst hs0
  clear S I hr hs sh h0
  generalize bX Q L roots = X at *
  go_enter Tryz.func106,Tryz.ntmps106
  go_wp2_with fail
  refine HBU.out.mono ?_
  rintro e w1 ⟨xa,xc,x,rfl,hm,he⟩
  have he : x = .nilIface:=he
  subst he
  have HB1:=hid hm.1
  have HEQ:=hid (eqQ_any X sel _ _ w1 HL.out hm.ms (HS.out _ hm.1))
  rw [<- HZ.out] at HEQ
  clear hm HBU
  obtain ⟨z,hz⟩ : ∃ z,blB Q L roots sel = z:=⟨_,rfl⟩
  rw [hz] at HEQ
  have HZ2:=hid hz
  clear hz
  go_wp2_with fail
  refine HEQ.out.mono ?_
  rintro e w2 ⟨rfl,hb⟩
  have HB2:=hid (HB1.out.trans (hb.mono HB1.out.size))
  clear hb
  go_wp2_with fail
  go_ret2
  exact ⟨by rw [HZ2.out]; rfl,HB2.out⟩
set_option maxRecDepth 100000 in
set_option maxHeartbeats 2000000 in
theorem bl_bad (Q : List Raw) (L : List Ent) (roots : List Bm) (v rv : Value) (sa : Option Addr) (sn sc : Nat) (A : Nat -> Addr) (m : Int) (w : World) (hn : L.length <= 1000) (hrn : roots.length <= 1000000) (sh : ∀ e,e ∈ L -> ShE e) (S : Te w A m) (I : Ixs w v Q L) (hr : MsAt w rv roots) (h0 : ¬ (chkG Q L roots).1 = 0) :
    Calls Tryz.prog 106 #[v,rv,.slice sa sn sc] w fun e w'=>∃ T a,e = .returned (.tuple #[.bool false,.iface T (.pointer (some a))]) /\ ErrAt w' A (.iface T (.pointer (some a))) (chkG Q L roots).1 (chkG Q L roots).2 /\ Below w.heap.size w w':=by
  have HBU:=hid (build_bad Q L roots v rv A m w hn hrn sh S I hr h0)
  obtain ⟨a0,c0,hv0,-⟩:=id I.es
  subst hv0
  obtain ⟨ra,rc,hu0,-⟩:=id hr
  subst hu0
  clear S I hr sh h0
  generalize chkG Q L roots = R at *
  go_enter Tryz.func106,Tryz.ntmps106
  go_wp2_with fail
  refine HBU.out.mono ?_
  rintro e w1 ⟨T,a,rfl,he,hb⟩
  have HE:=hid he
  have HB:=hid hb
  clear he hb HBU
  go_wp2_with fail
  go_ret2
  exact ⟨_,_,rfl,HE.out,HB.out⟩
set_option maxRecDepth 100000 in
set_option maxHeartbeats 4000000 in
theorem roots_good (Q : List Raw) (L : List Ent) (sel : List Bm) (v sv : Value) (A : Nat → Addr) (m : Int) (w : World) (hn : L.length ≤ 1000) (hsn : sel.length ≤ 1000000) (sh : ∀ e, e ∈ L → ShE e) (S : Te w A m) (I : Ixs w v Q L) (hs : MsAt w sv sel) (hem : Em sv sel) (h0 : (chkG Q L sel).1 = 0) (h1 : bX Q L sel = sel) :
    Calls Tryz.prog 56 #[v,sv] w fun e w'=>∃ a c,e = .returned (.tuple #[.slice a (trX Q L sel).length c,.nilIface]) /\ Mr w w' (.slice a (trX Q L sel).length c) (trX Q L sel):=by
  have HUN:=hid (show ∀ x,x ∈ sel -> x ∈ univ L from fun x hx=>by rw [<- h1] at hx; exact bX_univ x hx)
  have HTR:=hid (show lfN (gB Q L sel) sel sel.length = trX Q L sel from lfN_all (rising_nodup (by rw [<- h1]; exact (bX_jn Q L sel).ri)))
  obtain ⟨sa,sc,hs0,-⟩:=id hs
  subst hs0
  have HBU:=hid (bl_good Q L sel sel v _ _ A m w hn hsn sh S I hs hs h0)
  rw [blB_good h0,decide_eq_true h1] at HBU
  have HCL:=hid (fun W (h : Below w.heap.size w W)=>cloneM_any _ sel W hsn (hs.below h) hem)
  have HS:=hid (fun W (h : Below w.heap.size w W)=>hs.below h)
  have HBL:=hid (fun (E : List Bm) W u (h : Below w.heap.size w W) (hE : E.Sublist sel) (hu : MsAt W u E)=>show Calls Tryz.prog 106 #[v,u,.slice sa sel.length sc] W fun e w'=>e = .returned (.tuple #[.bool (gB Q L sel E),.nilIface]) /\ Below W.heap.size W w' by
    have hg : (chkG Q L E).1 = 0:=chkG_in I (chkG_chk h0) fun x hx=>HUN.out x (hE.subset hx)
    have:=bl_good Q L E sel v u _ A m W hn (Nat.le_trans hE.length_le hsn) sh (S.below h) (I.below h) hu (hs.below h) hg
    rw [blB_g hg] at this
    exact this)
  generalize trX Q L sel = TX at *
  generalize gB Q L sel = g at *
  obtain ⟨a0,c0,hv0,-⟩:=id I.es
  subst hv0
  clear S I hs sh h0 h1 hem HUN
  go_enter Tryz.func56,Tryz.ntmps56
  go_wp2_with fail
  refine HBU.out.mono ?_
  rintro e w1 ⟨rfl,hb⟩
  have HB1:=hid hb
  clear hb HBU
  go_wp2_with fail
  refine (HCL.out w1 HB1.out).mono ?_
  rintro e w2 ⟨la,lc,rfl,hm⟩
  have HM2:=hid (hm.base HB1.out)
  clear hm HCL HB1
  go_wp2_with fail
  go_loopw [8,31] (fun lv iv wr=>∃ (i : Nat) (a : Option Addr) (c : Nat),i <= sel.length /\ lv = .slice a (lfN g sel i).length c /\ iv = .int .i64 i /\ Hid (Mr w wr (.slice a (lfN g sel i).length c) (lfN g sel i))) (fun _ iv _=>sel.length - (intOf iv).toNat)
  case atStart=>exact ⟨0,la,lc,Nat.zero_le _,rfl,rfl,HM2⟩
  case round=>
    obtain ⟨i,a,c,hi,rfl,rfl,HM⟩:=hrel
    by_cases hlt : i < sel.length
    · have hiI:=ix_lt hlt
      have hii:=ix_pos i
      have HLI:=hid hlt
      obtain ⟨sb,so,hsa,y0,y1⟩:=(HS.out _ HM.out.1).cells hlt
      subst hsa
      have HSU:=hid (lfN_sub g sel i)
      have HGO:=hid (lfN_goes (g:=g) hlt)
      have HST:=hid (lfN_stays (g:=g) hlt)
      generalize sel[i] = x at *
      obtain ⟨x1,x2⟩:=x
      obtain ⟨X,hX⟩ : ∃ X,lfN g sel i = X:=⟨_,rfl⟩
      rw [hX] at HM HSU HGO HST ⊢
      clear hX hlt
      have HWO:=hid (fun W (h : Below wr.heap.size wr W)=>wo_any X (x1,x2) _ W (Nat.le_trans HSU.out.length_le hsn) (HM.out.ms.below h) HM.out.em)
      have HWS:=hid ((woM_sub X (x1,x2)).trans HSU.out)
      simp only at y0 y1
      generalize woM X (x1,x2) = E at *
      have HBX:=hid ((Below.refl wr.heap.size wr).alloc (Nat.le_refl _) (.cells #[.string x1,.string x2] 25))
      have HBY:=hid (HM.out.1.trans (HBX.out.mono HM.out.1.size))
      go_wp2_with fail
      refine (HWO.out _ HBX.out).mono ?_
      rintro e w3 ⟨ea,ec,rfl,hm⟩
      have HM3:=hid (hm.base HBY.out)
      have HL3:=hid ((HM.out.below HBX.out).below hm.1)
      have HB3:=hid (HBL.out E w3 _ HM3.out.1 HWS.out HM3.out.ms)
      clear hm HWO HM HBL y0 y1
      go_wp2_with fail
      refine HB3.out.mono ?_
      rintro e w4 ⟨rfl,hb⟩
      have HM4:=hid (HM3.out.below hb)
      have HL4:=hid (HL3.out.below hb)
      clear hb HB3 HM3 HL3
      cases hz : g E
      · have HN:=hid (HST.out hz)
        clear hz HST HGO
        go_wp2_with fail
        go_roundw
        case rel=>first | exact ⟨i + 1,a,c,HLI.out,by rw [HN.out],nr_idx i,hid (by rw [HN.out]; exact HL4.out)⟩ | exact ⟨i + 1,a,c,HLI.out,by rw [HN.out],nx_idx HLI.out hsn,hid (by rw [HN.out]; exact HL4.out)⟩
        case measure=>first | exact nr_meas HLI.out | exact nx_meas HLI.out hsn
      · have HN:=hid (HGO.out hz)
        clear hz HST HGO
        go_wp2_with fail
        go_roundw
        case rel=>first | exact ⟨i + 1,ea,ec,HLI.out,by rw [HN.out],nr_idx i,hid (by rw [HN.out]; exact HM4.out)⟩ | exact ⟨i + 1,ea,ec,HLI.out,by rw [HN.out],nx_idx HLI.out hsn,hid (by rw [HN.out]; exact HM4.out)⟩
        case measure=>first | exact nr_meas HLI.out | exact nx_meas HLI.out hsn
    · have hiI:=ix_nlt hlt
      have hie : i = sel.length:=Nat.le_antisymm hi (Nat.le_of_not_lt hlt)
      subst hie
      rw [HTR.out] at HM ⊢
      clear hlt HTR
      go_wp2_with fail
      go_ret2
      exact ⟨_,_,rfl,HM.out⟩
set_option maxRecDepth 100000 in
set_option maxHeartbeats 2000000 in
theorem same_a (Q : List Raw) (L : List Ent) (a b : List Bm) (v av bv : Value) (A : Nat -> Addr) (m : Int) (w : World) (hn : L.length <= 1000) (han : a.length <= 1000000) (sh : ∀ e,e ∈ L -> ShE e) (S : Te w A m) (I : Ixs w v Q L) (ha : MsAt w av a) (hb : MsAt w bv b) (h0 : ¬ (chkG Q L a).1 = 0) :
    Calls Tryz.prog 57 #[v,av,bv] w fun e w'=>∃ T x,e = .returned (.tuple #[.bool false,.iface T (.pointer (some x))]) /\ ErrAt w' A (.iface T (.pointer (some x))) (chkG Q L a).1 (chkG Q L a).2 /\ Below w.heap.size w w':=by
  have HBU:=hid (build_bad Q L a v av A m w hn han sh S I ha h0)
  obtain ⟨a0,c0,hv0,-⟩:=id I.es
  subst hv0
  obtain ⟨aa,ac,hu0,-⟩:=id ha
  subst hu0
  obtain ⟨ba,bc,hs0,-⟩:=id hb
  subst hs0
  clear S I ha hb sh h0
  generalize chkG Q L a = R at *
  go_enter Tryz.func57,Tryz.ntmps57
  go_wp2_with fail
  refine HBU.out.mono ?_
  rintro e w1 ⟨T,x,rfl,he,hb⟩
  have HE:=hid he
  have HB:=hid hb
  clear he hb HBU
  go_wp2_with fail
  go_ret2
  exact ⟨_,_,rfl,HE.out,HB.out⟩
set_option maxRecDepth 100000 in
set_option maxHeartbeats 2000000 in
theorem same_b (Q : List Raw) (L : List Ent) (a b : List Bm) (v av bv : Value) (A : Nat -> Addr) (m : Int) (w : World) (hn : L.length <= 1000) (han : a.length <= 1000000) (hbn : b.length <= 1000000) (sh : ∀ e,e ∈ L -> ShE e) (S : Te w A m) (I : Ixs w v Q L) (ha : MsAt w av a) (hb : MsAt w bv b) (h0 : (chkG Q L a).1 = 0) :
    Calls Tryz.prog 57 #[v,av,bv] w fun e w'=>∃ x,e = .returned (.tuple #[.bool (blB Q L b (bX Q L a)),x]) /\ ErrAt w' A x (rF Q L b).1 (rF Q L b).2 /\ Below w.heap.size w w':=by
  have HBU:=hid (build_all Q L a v av A m w hn han sh S I ha)
  rw [rF_good h0] at HBU
  have HBL:=hid (fun W sa sc (h : Below w.heap.size w W) (hu : MsAt W (.slice sa (bX Q L a).length sc) (bX Q L a))=>show Calls Tryz.prog 106 #[v,bv,.slice sa (bX Q L a).length sc] W fun e w'=>∃ x,e = .returned (.tuple #[.bool (blB Q L b (bX Q L a)),x]) /\ (x = .nilIface \/ ∃ T p,x = .iface T (.pointer (some p))) /\ ErrAt w' A x (rF Q L b).1 (rF Q L b).2 /\ Below W.heap.size W w' by
    by_cases h1 : (chkG Q L b).1 = 0
    · refine (bl_good Q L b (bX Q L a) v bv _ A m W hn hbn sh (S.below h) (I.below h) (hb.below h) hu h1).mono ?_
      rintro e w' ⟨rfl,hb'⟩
      rw [rF_good h1]
      exact ⟨_,rfl,Or.inl rfl,rfl,hb'⟩
    · refine (bl_bad Q L b v bv sa _ sc A m W hn hbn sh (S.below h) (I.below h) (hb.below h) h1).mono ?_
      rintro e w' ⟨T,p,rfl,he,hb'⟩
      rw [rF_bad h1,blB_bad h1]
      exact ⟨_,rfl,Or.inr ⟨_,_,rfl⟩,he,hb'⟩)
  obtain ⟨a0,c0,hv0,-⟩:=id I.es
  subst hv0
  obtain ⟨aa,ac,hu0,-⟩:=id ha
  subst hu0
  obtain ⟨ba,bc,hs0,-⟩:=id hb
  subst hs0
  clear S I ha hb sh h0
  generalize blB Q L b (bX Q L a) = z at *
  generalize bX Q L a = X at *
  generalize rF Q L b = R at *
  go_enter Tryz.func57,Tryz.ntmps57
  go_wp2_with fail
  refine HBU.out.mono ?_
  rintro e w1 ⟨xa,xc,x,rfl,hm,he⟩
  have he : x = .nilIface:=he
  subst he
  have HB1:=hid hm.1
  have HC:=hid (HBL.out w1 _ _ hm.1 hm.ms)
  clear hm HBU HBL
  go_wp2_with fail
  refine HC.out.mono ?_
  rintro e w2 ⟨x,rfl,hk,he,hb⟩
  have HE:=hid he
  have HB2:=hid (HB1.out.trans (hb.mono HB1.out.size))
  clear hb he
  go_wp2_with fail
  go_ret2
  exact ⟨_,rfl,HE.out,HB2.out⟩
theorem tsame_all (Q : List Raw) (L : List Ent) (a b : List Bm) (v av bv : Value) (A : Nat -> Addr) (m : Int) (w : World) (hn : L.length <= 1000) (han : a.length <= 1000000) (hbn : b.length <= 1000000) (sh : ∀ e,e ∈ L -> ShE e) (S : Te w A m) (I : Ixs w v Q L) (ha : MsAt w av a) (hb : MsAt w bv b) :
    Calls Tryz.prog 57 #[v,av,bv] w fun e w'=>∃ x,e = .returned (.tuple #[.bool (smB Q L a b),x]) /\ ErrAt w' A x (smF Q L a b).1 (smF Q L a b).2 /\ Below w.heap.size w w':=by
  by_cases h0 : (chkG Q L a).1 = 0
  · have e : blB Q L b (bX Q L a) = smB Q L a b:=by
      by_cases h1 : (chkG Q L b).1 = 0
      · rw [Bool.eq_iff_iff,smB_good h0 h1,blB_good h1,decide_eq_true_iff]
      · rw [blB_bad h1,smB_b h0 h1]
    refine (same_b Q L a b v av bv A m w hn han hbn sh S I ha hb h0).mono ?_
    rintro e' w' ⟨x,rfl,he,hb'⟩
    rw [e,smF_b h0]
    exact ⟨_,rfl,he,hb'⟩
  · refine (same_a Q L a b v av bv A m w hn han sh S I ha hb h0).mono ?_
    rintro e w' ⟨T,x,rfl,he,hb'⟩
    rw [smB_a h0,smF_a h0]
    exact ⟨_,rfl,he,hb'⟩
theorem tm_chkS (g : Nat) : (chkG (smQ g) smL [ma1,mb0]).1 = 0:=by
  rw [chkG_ok (by rw [sm_chk])]
  show codeE (nonE (smQ g) [ma1,mb0]) 2 = 0
  kernel_rfl
theorem tm_chkB (g : Nat) : (chkG (smQ g) smL [mb0]).1 = 0:=by
  rw [chkG_ok (by rw [sm_chk])]
  show codeE (nonE (smQ g) [mb0]) 1 = 0
  kernel_rfl
theorem tm_jn : Jn [ma1,mb0] [ma1,mb0]:=⟨sm_jn.ri,fun e he=>⟨he,(sm_jn.sub e he).2⟩,fun x hx h0=>⟨x,hx,rfl,ordV_selfJ h0⟩⟩
theorem tm_rch1 {g : Nat} (m : Bm) : Rch (reqQ (smQ g) smL) [ma1] m ↔ m ∈ [ma1,mb0]:=by
  refine ⟨fun h=>?_,fun h=>?_⟩
  · rcases sm_rch h with rfl | rfl <;> simp
  · rcases List.mem_cons.1 h with rfl | h
    · exact .root (by simp)
    · rw [List.mem_singleton.1 h]
      exact .step (.root (show ma1 ∈ [ma1] by simp)) (by rw [sm_r1]; simp)
theorem tm_rchS {g : Nat} (m : Bm) : Rch (reqQ (smQ g) smL) [ma1,mb0] m ↔ m ∈ [ma1,mb0]:=by
  refine ⟨fun h=>?_,fun h=>.root h⟩
  induction h with
  | root hr=>exact hr
  | step _ hr ih=>
    rcases List.mem_cons.1 ih with rfl | ih
    · rw [sm_r1] at hr; rw [List.mem_singleton.1 hr]; simp
    · rw [List.mem_singleton.1 ih,sm_rb] at hr; cases hr
theorem tm_rchB {g : Nat} {m : Bm} (h : Rch (reqQ (smQ g) smL) [mb0] m) : m = mb0:=by
  induction h with
  | root hr=>exact List.mem_singleton.1 hr
  | step _ hr ih=>rw [ih,sm_rb] at hr; cases hr
theorem bX_ofT {w : World} {v : Value} {Q : List Raw} {L : List Ent} {roots D E : List Bm} (I : Ixs w v Q L) (h : (chkG Q L roots).1 = 0) (hm : ∀ m,Rch (reqQ Q L) roots m ↔ m ∈ D) (hj : Jn D E) : bX Q L roots = E:=
  (bX_jn Q L roots).one hj (fun m _=>(rX_mem I h).trans (hm m))
theorem tm_bS {w : World} {v : Value} {g : Nat} (I : Ixs w v (smQ g) smL) : bX (smQ g) smL [ma1,mb0] = [ma1,mb0]:=bX_ofT I (tm_chkS g) tm_rchS tm_jn
theorem tm_b1 {w : World} {v : Value} {g : Nat} (I : Ixs w v (smQ g) smL) : bX (smQ g) smL [ma1] = [ma1,mb0]:=bX_ofT I (sm_chkG g) tm_rch1 tm_jn
theorem tm_bB {w : World} {v : Value} {g : Nat} (I : Ixs w v (smQ g) smL) : ¬ bX (smQ g) smL [mb0] = [ma1,mb0]:=fun e=>by
  have h : ma1 ∈ bX (smQ g) smL [mb0]:=by rw [e]; simp
  exact absurd (congrArg (fun m : Bm=>m.1.data) (tm_rchB (bX_in I (tm_chkB g) h))) (by decide)
theorem tm_trX {w : World} {v : Value} {g : Nat} (I : Ixs w v (smQ g) smL) : trX (smQ g) smL [ma1,mb0] = [ma1]:=by
  unfold trX trmA
  show trm _ (1 + 1) [ma1,mb0] 0 = _
  rw [trm_stays (by decide) (gB_not.2 (tm_bB I))]
  show trm _ (0 + 1) [ma1,mb0] 1 = _
  rw [trm_goes (by decide) (gB_iff.2 (tm_b1 I))]
  rfl
set_option maxRecDepth 100000 in
set_option maxHeartbeats 4000000 in
theorem trimd_any (A : Nat -> Addr) (m : Int) (w : World) (S : Te w A m) : Calls Tryz.prog 55 #[] w fun e w'=>e = .returned (.bool true) /\ Below w.heap.size w w':=by
  have HSM:=hid smallI_any
  have HS:=hid S
  clear S
  go_enter Tryz.func55,Tryz.ntmps55
  go_wp2_with fail
  refine (HSM.out w).mono ?_
  rintro e w1 ⟨g,q,rfl,hix,hb⟩
  have hBa:=(Below.refl w1.heap.size w1).alloc (Nat.le_refl _) (.cells #[.string ⟨#[97]⟩,.string ⟨#[118,49,46,49,46,48]⟩,.string ⟨#[98]⟩,.string ⟨#[118,48,46,49,46,48]⟩] 25)
  have hB1:=hb.trans (hBa.mono hb.size)
  have hms : MsAt (w1.alloc (.cells #[.string ⟨#[97]⟩,.string ⟨#[118,49,46,49,46,48]⟩,.string ⟨#[98]⟩,.string ⟨#[118,48,46,49,46,48]⟩] 25)) (.slice (some ⟨w1.heap.size,0,none⟩) 2 2) [ma1,mb0]:=⟨some ⟨w1.heap.size,0,none⟩,2,rfl,Nat.le_refl _,fun _=>⟨w1.heap.size,0,rfl,fun j hj=>by
    have hj2 : j < 2:=hj
    rcases (by omega : j = 0 \/ j = 1) with rfl | rfl
    · refine ⟨?_,?_⟩ <;> (rw [Lib.cell_of_heap (heap_alloc_new w1 _)]; rfl)
    · refine ⟨?_,?_⟩ <;> (rw [Lib.cell_of_heap (heap_alloc_new w1 _)]; rfl)⟩⟩
  have hem : Em (.slice (some ⟨w1.heap.size,0,none⟩) 2 2) [ma1,mb0]:=fun _ _ _ h=>by cases h
  have HRO:=hid (roots_good (smQ g) smL [ma1,mb0] _ _ A m _ (by decide) (by decide) sm_sh (HS.out.below hB1) (hix.below hBa) hms hem (tm_chkS g) (tm_bS hix))
  rw [tm_trX hix] at HRO
  have HB1:=hid hB1
  clear hix hb hBa hms hB1 hem
  go_wp2_with fail
  refine HRO.out.mono ?_
  rintro e w2 ⟨ua,uc,rfl,hm⟩
  have HB2:=hid (HB1.out.trans (hm.1.mono HB1.out.size))
  obtain ⟨ub,uo,hua,k0,k1⟩:=hm.ms.cells (k:=0) (by decide)
  subst hua
  have k0' : w2.cell? ⟨ub,uo,none⟩ = some (.string ⟨#[97]⟩):=k0
  have k1' : w2.cell? ⟨ub,uo + 1,none⟩ = some (.string ⟨#[118,49,46,49,46,48]⟩):=k1
  have s1 : ((⟨#[97]⟩ : ByteArray).toList == (⟨#[97]⟩ : ByteArray).toList) = true:=by simp
  clear hm HRO k0 k1
  go_wp2_with fail
  go_ret
  exact ⟨rfl,HB2.out⟩
end Ve
end Go.Proofs.YtlcffhadobhfkaaGreatDoor
