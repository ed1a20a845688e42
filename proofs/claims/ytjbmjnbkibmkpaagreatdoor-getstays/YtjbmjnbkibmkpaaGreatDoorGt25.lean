
import Derived.Test.YtjbmjnbkibmkpaaGreatDoorGt24
import Derived.Test.YtjbmjnbkibmkpaaGreatDoorGt21
set_option maxHeartbeats 8000000
namespace Go.Proofs.YtjbmjnbkibmkpaaGreatDoor
open Go.RowKit Go.Maps
namespace Ve
theorem woK_any (x m : Bm) (b : Nat) (W : World) (h0 : W.cell? ⟨b,0,none⟩ = some (.string m.1)) (h1 : W.cell? ⟨b,1,none⟩ = some (.string m.2)) :
  Calls Tryz.prog 152 (#[.agg #[.string x.1,.string x.2]] ++ #[.pointer (some ⟨b,0,none⟩)]) W fun e w'=>e = .returned (.bool (eqM x m)) /\ Below W.heap.size W w':=by
 have heq:=fun W=>eqM_run x m W
 have hgd:=modGuard
 generalize eqM x m = z at *
 obtain ⟨p,v⟩:=x
 obtain ⟨q,u⟩:=m
 simp only at h0 h1 heq
 show Calls Tryz.prog 152 #[.agg #[.string p,.string v],.pointer (some ⟨b,0,none⟩)] W _
 have HB0:=hid ((Below.refl W.heap.size W).alloc (Nat.le_refl _) (.cells #[.string p,.string v] 47))
 have c0:=cell_below HB0.out h0
 have c1:=cell_below HB0.out h1
 have hbb : ¬ b = W.heap.size:=by have:=lt_of_cell h0; simp at this; omega
 have hbb2 : ¬ W.heap.size = b:=fun h=>hbb h.symm
 go_enter Tryz.func152,Tryz.ntmps152
 go_wp2_with fail
 go_ret
 exact ⟨rfl,HB0.out⟩
theorem wo_any (D : List Bm) (m : Bm) (v : Value) (w : World) (hD : D.length <= 1000000) (hv : MsAt w v D) (hem : Em v D) :
  Calls Tryz.prog 110 #[v,.agg #[.string m.1,.string m.2]] w fun e w'=>∃ a c,e = .returned (.slice a (woM D m).length c) /\ Mr w w' (.slice a (woM D m).length c) (woM D m):=by
 have eg : ∀ args w,(callFunc 152 args).run Tryz.prog w = .ok (.enter 152 args) w:=enters_of Tryz.func152 (by kernel_rfl) rfl
 have HB0:=hid ((Below.refl w.heap.size w).alloc (Nat.le_refl _) (.cells #[.string m.1,.string m.2] 47))
 have HCL:=hid (cloneM_any v D _ hD (hv.below HB0.out) hem)
 have HDE:=hid (fun W u (hR : Mr (w.alloc (.cells #[.string m.1,.string m.2] 47)) W u D)=>delP_mr 152 #[.pointer (some ⟨w.heap.size,0,none⟩)] (fun x=>eqM x m) _ W u D eg hD hR (fun x W' hW=>woK_any x m w.heap.size W' (cell_below hW (by simp)) (cell_below hW (by simp))))
 obtain ⟨va,vn,vc,hv1⟩:=hv.slice
 subst hv1
 obtain ⟨p,q⟩:=m
 have HKL:=hid (show kpL (fun x=>eqM x (p,q)) D = woM D (p,q) from rfl)
 rw [HKL.out] at HDE
 generalize woM D (p,q) = E at *
 clear hv hem eg HKL
 go_enter Tryz.func110,Tryz.ntmps110
 go_wp2_with fail
 refine HCL.out.mono ?_
 rintro e w1 ⟨a,c,rfl,hm⟩
 have HD1:=hid (HDE.out w1 _ hm)
 clear hm HDE HCL
 go_wp2_with fail
 refine HD1.out.mono ?_
 rintro e w2 ⟨a2,c2,rfl,hm⟩
 have HM:=hid (hm.base HB0.out)
 clear hm HD1
 go_wp2_with fail
 go_ret
 exact ⟨_,_,rfl,HM.out⟩
open Classical in
noncomputable def blB (Q : List Raw) (L : List Ent) (roots sel : List Bm) : Bool:=if (chkG Q L roots).1 = 0 then decide (bX Q L roots = sel) else false
theorem blB_good {Q : List Raw} {L : List Ent} {roots sel : List Bm} (h : (chkG Q L roots).1 = 0) : blB Q L roots sel = decide (bX Q L roots = sel):=by
 unfold blB
 rw [if_pos h]
theorem blB_g {Q : List Raw} {L : List Ent} {roots sel : List Bm} (h : (chkG Q L roots).1 = 0) : blB Q L roots sel = gB Q L sel roots:=by
 unfold blB gB
 rw [if_pos h]
set_option maxRecDepth 100000 in
theorem bl_good (Q : List Raw) (L : List Ent) (roots sel : List Bm) (v rv sv : Value) (A : Nat -> Addr) (m : Int) (w : World) (hn : L.length <= 1000) (hrn : roots.length <= 1000000) (sh : ∀ e,e ∈ L -> ShE e) (S : Te w A m) (I : Ixs w v Q L) (hr : MsAt w rv roots) (hs : MsAt w sv sel) (h0 : (chkG Q L roots).1 = 0) :
  Calls Tryz.prog 109 #[v,rv,sv] w fun e w'=>e = .returned (.tuple #[.bool (blB Q L roots sel),.nilIface]) /\ Below w.heap.size w w':=by
 have HBU:=hid (build_all Q L roots v rv A m w hn hrn sh S I hr)
 rw [rF_good h0] at HBU
 have HL:=hid (show (bX Q L roots).length <= 1000000 from Nat.le_trans bX_len (by omega))
 have HZ:=hid (blB_good (sel:=sel) h0)
 have HS:=hid (fun W (h : Below w.heap.size w W)=>hs.below h)
 obtain ⟨a0,c0,hv0,-⟩:=id I.es
 subst hv0
 obtain ⟨ra,rc,hu0,-⟩:=id hr
 subst hu0
 obtain ⟨sa,sc,hs0,-⟩:=id hs
 subst hs0
 clear S I hr hs sh h0
 generalize bX Q L roots = X at *
 go_enter Tryz.func109,Tryz.ntmps109
 go_wp2_with fail
 refine HBU.out.mono ?_
 rintro e w1 ⟨xa,xc,x,rfl,hm,he⟩
 have he : x = .nilIface:=he
 subst he
 have HB1:=hid hm.1
 have HEQ:=hid (eqQ_any X sel _ _ w1 HL.out hm.ms (HS.out _ hm.1))
 rw [<- HZ.out] at HEQ
 clear hm HBU
 obtain ⟨z,hz⟩ : ∃ z,blB Q L roots sel = z:=⟨_,rfl⟩
 rw [hz] at HEQ
 have HZ2:=hid hz
 clear hz
 go_wp2_with fail
 refine HEQ.out.mono ?_
 rintro e w2 ⟨rfl,hb⟩
 have HB2:=hid (HB1.out.trans (hb.mono HB1.out.size))
 clear hb
 go_wp2_with fail
 go_ret2
 exact ⟨by rw [HZ2.out]; rfl,HB2.out⟩
set_option maxRecDepth 100000 in
theorem bl_bad (Q : List Raw) (L : List Ent) (roots : List Bm) (v rv : Value) (sa : Option Addr) (sn sc : Nat) (A : Nat -> Addr) (m : Int) (w : World) (hn : L.length <= 1000) (hrn : roots.length <= 1000000) (sh : ∀ e,e ∈ L -> ShE e) (S : Te w A m) (I : Ixs w v Q L) (hr : MsAt w rv roots) (h0 : ¬ (chkG Q L roots).1 = 0) :
  Calls Tryz.prog 109 #[v,rv,.slice sa sn sc] w fun e w'=>∃ T a,e = .returned (.tuple #[.bool false,.iface T (.pointer (some a))]) /\ ErrAt w' A (.iface T (.pointer (some a))) (chkG Q L roots).1 (chkG Q L roots).2 /\ Below w.heap.size w w':=by
 have HBU:=hid (build_bad Q L roots v rv A m w hn hrn sh S I hr h0)
 obtain ⟨a0,c0,hv0,-⟩:=id I.es
 subst hv0
 obtain ⟨ra,rc,hu0,-⟩:=id hr
 subst hu0
 clear S I hr sh h0
 generalize chkG Q L roots = R at *
 go_enter Tryz.func109,Tryz.ntmps109
 go_wp2_with fail
 refine HBU.out.mono ?_
 rintro e w1 ⟨T,a,rfl,he,hb⟩
 have HE:=hid he
 have HB:=hid hb
 clear he hb HBU
 go_wp2_with fail
 go_ret2
 exact ⟨_,_,rfl,HE.out,HB.out⟩
set_option maxRecDepth 100000 in
theorem roots_bad (Q : List Raw) (L : List Ent) (sel : List Bm) (v sv : Value) (A : Nat -> Addr) (m : Int) (w : World) (hn : L.length <= 1000) (hsn : sel.length <= 1000000) (sh : ∀ e,e ∈ L -> ShE e) (S : Te w A m) (I : Ixs w v Q L) (hs : MsAt w sv sel) (h0 : ¬ (chkG Q L sel).1 = 0) :
  Calls Tryz.prog 57 #[v,sv] w fun e w'=>∃ T a,e = .returned (.tuple #[.slice none 0 0,.iface T (.pointer (some a))]) /\ ErrAt w' A (.iface T (.pointer (some a))) (chkG Q L sel).1 (chkG Q L sel).2 /\ Below w.heap.size w w':=by
 obtain ⟨sa,sc,hs0,-⟩:=id hs
 subst hs0
 have HBU:=hid (bl_bad Q L sel v _ sa sel.length sc A m w hn hsn sh S I hs h0)
 obtain ⟨a0,c0,hv0,-⟩:=id I.es
 subst hv0
 clear S I hs sh h0
 generalize chkG Q L sel = R at *
 go_enter Tryz.func57,Tryz.ntmps57
 go_wp2_with fail
 refine HBU.out.mono ?_
 rintro e w1 ⟨T,a,rfl,he,hb⟩
 have HE:=hid he
 have HB:=hid hb
 clear he hb HBU
 go_wp2_with fail
 go_ret2
 exact ⟨_,_,rfl,HE.out,HB.out⟩
set_option maxRecDepth 100000 in
theorem roots_other (Q : List Raw) (L : List Ent) (sel : List Bm) (v sv : Value) (A : Nat -> Addr) (m : Int) (w : World) (hn : L.length <= 1000) (hsn : sel.length <= 1000000) (sh : ∀ e,e ∈ L -> ShE e) (S : Te w A m) (I : Ixs w v Q L) (hs : MsAt w sv sel) (h0 : (chkG Q L sel).1 = 0) (h1 : ¬ bX Q L sel = sel) :
  Calls Tryz.prog 57 #[v,sv] w fun e w'=>e = .returned (.tuple #[.slice none 0 0,errA A 3]) /\ Below w.heap.size w w':=by
 obtain ⟨sa,sc,hs0,-⟩:=id hs
 subst hs0
 have HBU:=hid (bl_good Q L sel sel v _ _ A m w hn hsn sh S I hs hs h0)
 rw [blB_good h0,decide_eq_false h1] at HBU
 have HS:=hid S
 obtain ⟨a0,c0,hv0,-⟩:=id I.es
 subst hv0
 clear S I hs sh h0 h1
 rw [errA_if A (show (3 : Nat) ≠ 0 by decide)]
 go_enter Tryz.func57,Tryz.ntmps57
 go_wp2_with fail
 refine HBU.out.mono ?_
 rintro e w1 ⟨rfl,hb⟩
 have HB:=hid hb
 have g2:=(HS.out.below hb).sen.g2
 clear hb HBU
 go_wp2_with fail
 go_region_with fail
 all_goals
  go_wp2_with fail
  go_ret2
  exact ⟨rfl,below_drawn_of HB.out _⟩
set_option maxRecDepth 100000 in
theorem roots_good (Q : List Raw) (L : List Ent) (sel : List Bm) (v sv : Value) (A : Nat -> Addr) (m : Int) (w : World) (hn : L.length <= 1000) (hsn : sel.length <= 1000000) (sh : ∀ e,e ∈ L -> ShE e) (S : Te w A m) (I : Ixs w v Q L) (hs : MsAt w sv sel) (hem : Em sv sel) (h0 : (chkG Q L sel).1 = 0) (h1 : bX Q L sel = sel) :
  Calls Tryz.prog 57 #[v,sv] w fun e w'=>∃ a c,e = .returned (.tuple #[.slice a (trX Q L sel).length c,.nilIface]) /\ Mr w w' (.slice a (trX Q L sel).length c) (trX Q L sel):=by
 have HUN:=hid (show ∀ x,x ∈ sel -> x ∈ univ L from fun x hx=>by rw [<- h1] at hx; exact bX_univ x hx)
 have HTR:=hid (show lfN (gB Q L sel) sel sel.length = trX Q L sel from lfN_all (rising_nodup (by rw [<- h1]; exact (bX_jn Q L sel).ri)))
 obtain ⟨sa,sc,hs0,-⟩:=id hs
 subst hs0
 have HBU:=hid (bl_good Q L sel sel v _ _ A m w hn hsn sh S I hs hs h0)
 rw [blB_good h0,decide_eq_true h1] at HBU
 have HCL:=hid (fun W (h : Below w.heap.size w W)=>cloneM_any _ sel W hsn (hs.below h) hem)
 have HS:=hid (fun W (h : Below w.heap.size w W)=>hs.below h)
 have HBL:=hid (fun (E : List Bm) W u (h : Below w.heap.size w W) (hE : E.Sublist sel) (hu : MsAt W u E)=>show Calls Tryz.prog 109 #[v,u,.slice sa sel.length sc] W fun e w'=>e = .returned (.tuple #[.bool (gB Q L sel E),.nilIface]) /\ Below W.heap.size W w' by
  have hg : (chkG Q L E).1 = 0:=chkG_in I (chkG_chk h0) fun x hx=>HUN.out x (hE.subset hx)
  have:=bl_good Q L E sel v u _ A m W hn (Nat.le_trans hE.length_le hsn) sh (S.below h) (I.below h) hu (hs.below h) hg
  rw [blB_g hg] at this
  exact this)
 generalize trX Q L sel = TX at *
 generalize gB Q L sel = g at *
 obtain ⟨a0,c0,hv0,-⟩:=id I.es
 subst hv0
 clear S I hs sh h0 h1 hem HUN
 go_enter Tryz.func57,Tryz.ntmps57
 go_wp2_with fail
 refine HBU.out.mono ?_
 rintro e w1 ⟨rfl,hb⟩
 have HB1:=hid hb
 clear hb HBU
 go_wp2_with fail
 refine (HCL.out w1 HB1.out).mono ?_
 rintro e w2 ⟨la,lc,rfl,hm⟩
 have HM2:=hid (hm.base HB1.out)
 clear hm HCL HB1
 go_wp2_with fail
 go_loopw [8,31] (fun lv iv wr=>∃ (i : Nat) (a : Option Addr) (c : Nat),i <= sel.length /\ lv = .slice a (lfN g sel i).length c /\ iv = .int .i64 i /\ Hid (Mr w wr (.slice a (lfN g sel i).length c) (lfN g sel i))) (fun _ iv _=>sel.length - (intOf iv).toNat)
 case atStart=>exact ⟨0,la,lc,Nat.zero_le _,rfl,rfl,HM2⟩
 case round=>
  obtain ⟨i,a,c,hi,rfl,rfl,HM⟩:=hrel
  by_cases hlt : i < sel.length
  ·have hiI:=ix_lt hlt
   have hii:=ix_pos i
   have HLI:=hid hlt
   obtain ⟨sb,so,hsa,y0,y1⟩:=(HS.out _ HM.out.1).cells hlt
   subst hsa
   have HSU:=hid (lfN_sub g sel i)
   have HGO:=hid (lfN_goes (g:=g) hlt)
   have HST:=hid (lfN_stays (g:=g) hlt)
   generalize sel[i] = x at *
   obtain ⟨x1,x2⟩:=x
   obtain ⟨X,hX⟩ : ∃ X,lfN g sel i = X:=⟨_,rfl⟩
   rw [hX] at HM HSU HGO HST ⊢
   clear hX hlt
   have HWO:=hid (fun W (h : Below wr.heap.size wr W)=>wo_any X (x1,x2) _ W (Nat.le_trans HSU.out.length_le hsn) (HM.out.ms.below h) HM.out.em)
   have HWS:=hid ((woM_sub X (x1,x2)).trans HSU.out)
   simp only at y0 y1
   generalize woM X (x1,x2) = E at *
   have HBX:=hid ((Below.refl wr.heap.size wr).alloc (Nat.le_refl _) (.cells #[.string x1,.string x2] 47))
   have HBY:=hid (HM.out.1.trans (HBX.out.mono HM.out.1.size))
   go_wp2_with fail
   refine (HWO.out _ HBX.out).mono ?_
   rintro e w3 ⟨ea,ec,rfl,hm⟩
   have HM3:=hid (hm.base HBY.out)
   have HL3:=hid ((HM.out.below HBX.out).below hm.1)
   have HB3:=hid (HBL.out E w3 _ HM3.out.1 HWS.out HM3.out.ms)
   clear hm HWO HM HBL y0 y1
   go_wp2_with fail
   refine HB3.out.mono ?_
   rintro e w4 ⟨rfl,hb⟩
   have HM4:=hid (HM3.out.below hb)
   have HL4:=hid (HL3.out.below hb)
   clear hb HB3 HM3 HL3
   cases hz : g E
   ·have HN:=hid (HST.out hz)
    clear hz HST HGO
    go_wp2_with fail
    go_roundw
    case rel=>first | exact ⟨i + 1,a,c,HLI.out,by rw [HN.out],nr_idx i,hid (by rw [HN.out]; exact HL4.out)⟩ | exact ⟨i + 1,a,c,HLI.out,by rw [HN.out],nx_idx HLI.out hsn,hid (by rw [HN.out]; exact HL4.out)⟩
    case measure=>first | exact nr_meas HLI.out | exact nx_meas HLI.out hsn
   ·have HN:=hid (HGO.out hz)
    clear hz HST HGO
    go_wp2_with fail
    go_roundw
    case rel=>first | exact ⟨i + 1,ea,ec,HLI.out,by rw [HN.out],nr_idx i,hid (by rw [HN.out]; exact HM4.out)⟩ | exact ⟨i + 1,ea,ec,HLI.out,by rw [HN.out],nx_idx HLI.out hsn,hid (by rw [HN.out]; exact HM4.out)⟩
    case measure=>first | exact nr_meas HLI.out | exact nx_meas HLI.out hsn
  ·have hiI:=ix_nlt hlt
   have hie : i = sel.length:=Nat.le_antisymm hi (Nat.le_of_not_lt hlt)
   subst hie
   rw [HTR.out] at HM ⊢
   clear hlt HTR
   go_wp2_with fail
   go_ret2
   exact ⟨_,_,rfl,HM.out⟩
theorem roots_all (Q : List Raw) (L : List Ent) (sel : List Bm) (v sv : Value) (A : Nat -> Addr) (m : Int) (w : World) (hn : L.length <= 1000) (hsn : sel.length <= 1000000) (sh : ∀ e,e ∈ L -> ShE e) (S : Te w A m) (I : Ixs w v Q L) (hs : MsAt w sv sel) (hem : Em sv sel) :
  Calls Tryz.prog 57 #[v,sv] w fun e w'=>∃ a c x,e = .returned (.tuple #[.slice a (trR Q L sel).length c,x]) /\ Mr w w' (.slice a (trR Q L sel).length c) (trR Q L sel) /\ ErrAt w' A x (trF Q L sel).1 (trF Q L sel).2:=by
 by_cases h0 : (chkG Q L sel).1 = 0
 ·by_cases h1 : bX Q L sel = sel
  ·refine (roots_good Q L sel v sv A m w hn hsn sh S I hs hem h0 h1).mono ?_
   rintro e w' ⟨a,c,rfl,hm⟩
   rw [trR_good h0 h1,trF_good h0 h1]
   exact ⟨a,c,_,rfl,hm,rfl⟩
  ·refine (roots_other Q L sel v sv A m w hn hsn sh S I hs h0 h1).mono ?_
   rintro e w' ⟨rfl,hb⟩
   rw [trR_other h0 h1,trF_other h0 h1]
   exact ⟨_,_,_,rfl,mr_nil0 hb,rfl⟩
 ·refine (roots_bad Q L sel v sv A m w hn hsn sh S I hs h0).mono ?_
  rintro e w' ⟨T,a,rfl,he,hb⟩
  rw [trR_bad h0,trF_bad h0]
  exact ⟨_,_,_,rfl,mr_nil0 hb,he⟩
end Ve
end Go.Proofs.YtjbmjnbkibmkpaaGreatDoor


namespace Go.Proofs.YtjbmjnbkibmkpaaGreatDoor
open Go.RowKit Go.Maps
namespace Ve
noncomputable def fwB (Q : List Raw) (L : List Ent) (N : List Bm) : Bool:=decide ((trF Q L N).1 = 0) && decide ((trR Q L N).length <= 20)
theorem fwB_iff {Q : List Raw} {L : List Ent} {N : List Bm} : fwB Q L N = true ↔ (trF Q L N).1 = 0 /\ (trR Q L N).length <= 20:=by
 unfold fwB; rw [Bool.and_eq_true,decide_eq_true_iff,decide_eq_true_iff]
set_option maxRecDepth 100000 in
theorem few_any (Q : List Raw) (L : List Ent) (N : List Bm) (v nv : Value) (A : Nat -> Addr) (m : Int) (w : World) (hn : L.length <= 1000) (hN : N.length <= 1000) (sh : ∀ e,e ∈ L -> ShE e) (S : Te w A m) (I : Ixs w v Q L) (hs : MsAt w nv N) (hem : Em nv N) :
  Calls Tryz.prog 28 #[v,nv] w fun e w'=>(fwB Q L N = true /\ ∃ a c,e = .returned (.tuple #[.slice a (trR Q L N).length c,.nilIface]) /\ MsAt w' (.slice a (trR Q L N).length c) (trR Q L N) /\ Below w.heap.size w w') \/ (¬ fwB Q L N = true /\ ∃ Ty ea,e = .returned (.tuple #[.slice none 0 0,.iface Ty (.pointer (some ea))]) /\ Below w.heap.size w w'):=by
 have HRO:=hid (roots_all Q L N v nv A m w hn (by omega) sh S I hs hem)
 have HG6:=hid (fun W (h : Below w.heap.size w W)=>(S.below h).sen.g6)
 have HFB:=hid (fwB_iff (Q:=Q) (L:=L) (N:=N))
 obtain ⟨va,vc,hvs,-⟩:=id I.es
 obtain ⟨na,nc,hns,-⟩:=id hs
 subst hvs
 subst hns
 generalize fwB Q L N = FB at *
 generalize trR Q L N = TR at *
 generalize trF Q L N = TF at *
 clear S I hs hem sh
 go_enter Tryz.func28,Tryz.ntmps28
 go_wp2_with fail
 refine HRO.out.mono ?_
 rintro e w1 ⟨ra,rc,x,rfl,hM,he⟩
 have HB1:=hid hM.1
 have HM1:=hid hM.ms
 rcases he.kind with ⟨hc,hx⟩ | ⟨hc,Ty,ea,hx⟩
 rotate_left
 ·have HN:=hid (show ¬ FB = true from fun h=>hc (HFB.out.1 h).1)
  subst hx
  clear hM he hc HRO
  go_wp2_with fail
  go_ret2
  exact Or.inr ⟨HN.out,_,_,rfl,HB1.out⟩
 ·subst hx
  by_cases h20 : 20 < TR.length
  ·have hI : (20 : Int) < (TR.length : Int):=by omega
   have HN:=hid (show ¬ FB = true from fun h=>by have:=(HFB.out.1 h).2; omega)
   have gg:=HG6.out _ HB1.out
   clear hM he hc HRO h20
   go_wp2_with fail
   go_quiet (fail)
   go_wp2_with fail
   go_ret2
   exact Or.inr ⟨HN.out,_,_,rfl,below_drawn_of HB1.out _⟩
  ·have hI : ¬ (20 : Int) < (TR.length : Int):=by omega
   have HY:=hid (show FB = true from HFB.out.2 ⟨hc,by omega⟩)
   clear hM he hc HRO h20
   go_wp2_with fail
   go_ret2
   exact Or.inl ⟨HY.out,_,_,rfl,HM1.out,HB1.out⟩
structure Gx (w W : World) (p : ByteArray) (rv xv : Value) : Prop where
 bl : Below w.heap.size w W
 fb : W.heap[w.heap.size]? = some (.cells #[.string p,rv,xv] 25 (0,0))
 rb : W.heap[w.heap.size + 1]? = some (.cells #[.string ⟨#[]⟩,.slice none 0 0,.slice none 0 0] 25 (0,0))
theorem Gx.below {w W W' : World} {p : ByteArray} {rv xv : Value} (h : Gx w W p rv xv) (hb : Below W.heap.size W W') : Gx w W' p rv xv:=
 ⟨h.bl.trans (hb.mono h.bl.size),(hb.block _ (lt_of_blk h.fb)).trans h.fb,(hb.block _ (lt_of_blk h.rb)).trans h.rb⟩
theorem cells3 {W : World} {g : Nat} {a b c : Value} {T : TypeId} (h : W.heap[g]? = some (.cells #[a,b,c] T (0,0))) : W.cell? ⟨g,0,none⟩ = some a /\ W.cell? ⟨g,1,none⟩ = some b /\ W.cell? ⟨g,2,none⟩ = some c /\ (∀ o,W.frozen? ⟨g,o,none⟩ = false) /\ g < W.heap.size:=
 ⟨by rw [Lib.cell_of_heap h]; rfl,by rw [Lib.cell_of_heap h]; rfl,by rw [Lib.cell_of_heap h]; rfl,fun o=>Lib.frozen_of_heap h o,lt_of_blk h⟩
theorem Gx.start (w : World) (p : ByteArray) (rv xv : Value) : Gx w ((w.alloc (.cells #[.string p,rv,xv] 25)).alloc (.cells #[.string ⟨#[]⟩,.slice none 0 0,.slice none 0 0] 25)) p rv xv:=by
 refine ⟨((Below.refl w.heap.size w).alloc (Nat.le_refl _) _).alloc (by simp) _,heap_old _ _ (heap_new w _),?_⟩
 have:=heap_new (w.alloc (.cells #[.string p,rv,xv] 25)) (.cells #[.string ⟨#[]⟩,.slice none 0 0,.slice none 0 0] 25)
 rw [show (w.alloc (.cells #[.string p,rv,xv] 25)).heap.size = w.heap.size + 1 by simp] at this
 exact this
noncomputable def getV (pk : ByteArray -> ByteArray -> ByteArray -> ByteArray × Nat) (Q : List Raw) (L : List Ent) (p : ByteArray) (R X : List Bm) (G : List ByteArray) : Option (List Bm):=match rdA Q L p R X G with
 | none=>none
 | some D=>if (chkG Q L R).1 ≠ 0 then none else if outM (bX Q L R) X then none else match chV Q L (bX Q L R) pk D with
  | none=>none
  | some N=>if outM N X then none else if fwB Q L N then some N else none
def GetP (Q : List Raw) (L : List Ent) (p : ByteArray) (X : List Bm) (w : World) (e : Ending) (w' : World) : Option (List Bm) -> Prop
 | none=>∃ Ty ea,e = .returned (.tuple #[.agg #[.string ⟨#[]⟩,.slice none 0 0,.slice none 0 0],.slice none 0 0,.iface Ty (.pointer (some ea))]) /\ Below w.heap.size w w'
 | some N=>∃ ra rc xa xc na nc,e = .returned (.tuple #[.agg #[.string p,.slice ra (trR Q L N).length rc,.slice xa X.length xc],.slice na N.length nc,.nilIface]) /\ MsAt w' (.slice ra (trR Q L N).length rc) (trR Q L N) /\ MsAt w' (.slice xa X.length xc) X /\ Em (.slice xa X.length xc) X /\ MsAt w' (.slice na N.length nc) N /\ Below w.heap.size w w'
end Ve
end Go.Proofs.YtjbmjnbkibmkpaaGreatDoor


namespace Go.Proofs.YtjbmjnbkibmkpaaGreatDoor
open Go.RowKit Go.Maps
namespace Ve
theorem rdA_some {Q : List Raw} {L : List Ent} {p : ByteArray} {R X D : List Bm} {G : List ByteArray} (h : rdA Q L p R X G = some D) : (chk Q L).1 = 0 /\ (fileF p R X).1 = 0 /\ G.length <= 10 /\ (∀ s,s ∈ G -> argZ s = 0) /\ D = G.map argK:=by
 unfold rdA at h
 split at h
 ·cases h
 ·split at h
  ·cases h
  ·split at h
   ·cases h
   ·rename_i h1 h2 h3
    unfold rdG at h
    split at h
    ·rename_i h4
     injection h with h
     exact ⟨by simpa using h1,by simpa using h2,by omega,fun s hs=>of_decide_eq_true (List.all_eq_true.1 h4 s hs),h.symm⟩
    ·cases h
theorem put3z {W w : World} {B b : Nat} {x y z : Value} (h : Below B w W) (hb : B <= b) : Below B w (((W.setCell ⟨b,0,none⟩ x).setCell ⟨b,1,none⟩ y).setCell ⟨b,2,none⟩ z):=put3_below h hb
theorem put3m {W : World} {b n1 c1 n2 c2 : Nat} {s : ByteArray} {a1 a2 : Option Addr} {x y z v : Value} {D : List Bm} {T : TypeId} (h : MsAt W v D) (hb : W.heap[b]? = some (.cells #[.string s,.slice a1 n1 c1,.slice a2 n2 c2] T (0,0))) : MsAt (((W.setCell ⟨b,0,none⟩ x).setCell ⟨b,1,none⟩ y).setCell ⟨b,2,none⟩ z) v D:=by
 obtain ⟨a,c,e,hc,h2⟩:=h
 refine ⟨a,c,e,hc,fun hD=>?_⟩
 obtain ⟨g,o,e2,h3⟩:=h2 hD
 have hg : g ≠ b:=fun e3=>by
  subst e3
  have h4:=(h3 0 (List.length_pos_iff.2 hD)).2
  rw [Lib.cell_of_heap hb,Nat.zero_mul,Nat.add_zero] at h4
  match o,h4 with
  | 0,h4=>simp at h4
  | 1,h4=>simp at h4
  | o + 2,h4=>simp at h4
 refine ⟨g,o,e2,fun j hj=>?_⟩
 have go : ∀ (V : World) (k : Nat) (q : Value) (i : Nat),(V.setCell ⟨b,k,none⟩ q).cell? ⟨g,i,none⟩ = V.cell? ⟨g,i,none⟩:=fun V k q i=>World.cell?_of_block (Below.heap_setCell _ _ _ _ hg)
 rw [go,go,go,go,go,go]
 exact h3 j hj
set_option maxRecDepth 100000 in
theorem get_any (T : World -> Prop) (KT : StayG T) (pk : ByteArray -> ByteArray -> ByteArray -> ByteArray × Nat) (Q : List Raw) (L : List Ent) (p : ByteArray) (R X : List Bm) (G : List ByteArray) (v rv xv gv : Value) (A : Nat -> Addr) (m : Int) (w : World) (hL : L.length <= 90) (sh : ∀ e,e ∈ L -> ShE e) (hz : ∀ e,e ∈ L -> e.1.1.size <= 100 /\ e.1.2.size <= 100) (hp : p.size < 999999) (hR : R.length <= 1000) (hX : X.length <= 1000) (hG : G.length <= 1000) (hg : ∀ s,s ∈ G -> shA s)
  (S0 : Te w A m) (Dz : Ds w A) (hT : T w) (I : Ixs w v Q L) (F : Fl w R X rv xv) (hxe : Em xv X) (hgv : TxAt w gv G) (PC : PkC T pk Q L A m) (PZ : PkZ pk) :
  Calls Tryz.prog 11 #[v,.agg #[.string p,rv,xv],gv] w fun e w'=>GetP Q L p X w e w' (getV pk Q L p R X G):=by
 have HRA:=hid (fun W (h : Below w.heap.size w W)=>readAll_any Q L p R X G v rv xv gv A m W (by omega) sh hp hG hg (S0.below h) (Dz.below h) (I.below h) (F.below h) (hgv.below h))
 have HBU:=hid (fun W (h : Below w.heap.size w W)=>build_all Q L R v rv A m W (by omega) (by omega) sh (S0.below h) (I.below h) (F.r.below h))
 have HBA:=hid (fun x W c o (h : Below w.heap.size w W) (he : ErrAt W A x c o) (hc : c ≠ 0)=>bare_any x c o A m W (S0.below h) he hc)
 have HHO:=hid (fun E ev W (hE : E.length <= 1000) (h : Below w.heap.size w W) (he : MsAt W ev E)=>hasOne_any E X ev xv W (by omega) (by omega) he (F.x.below h))
 have hBl : (bX Q L R).length <= 90:=Nat.le_trans bX_len hL
 have HCH:=hid (fun D sv dv W (h : Below w.heap.size w W) (hD : rdA Q L p R X G = some D) (hsv : MsAt W sv (bX Q L R)) (hdv : MsAt W dv D)=>change_any T KT pk Q L (bX Q L R) D v sv dv A m W (by omega) sh hBl (fun x hx=>by
   obtain ⟨e,he,rfl⟩:=List.mem_map.1 (bX_univ x hx)
   exact hz e he) (by rw [(rdA_some hD).2.2.2.2,List.length_map]; exact (rdA_some hD).2.2.1) (fun x hx=>by
   rw [(rdA_some hD).2.2.2.2] at hx
   obtain ⟨s,hs,rfl⟩:=List.mem_map.1 hx
   exact (hg s hs).2) (S0.below h) (KT _ _ hT h) (I.below h) hsv hdv PC PZ)
 have HFW:=hid (fun N nv W (h : Below w.heap.size w W) (hN : N.length <= 1000) (hs : MsAt W nv N) (hem : Em nv N)=>few_any Q L N v nv A m W (by omega) hN sh (S0.below h) (I.below h) hs hem)
 have HCL:=hid (fun W (h : Below w.heap.size w W)=>cloneM_any xv X W (by omega) (F.x.below h) hxe)
 have HG8:=hid (fun W (h : Below w.heap.size w W)=>(S0.below h).sen.g8)
 have HBL:=hid (show (bX Q L R).length <= 1000 by omega)
 have HGL:=hid (show 0 < w.heap.size from lt_of_cell S0.sen.g8)
 have HCN:=hid (fun (N : List Bm) D (h : chV Q L (bX Q L R) pk D = some N)=>show N.length <= 1000 from by
  unfold chV at h
  split at h
  ·cases h
  ·split at h
   ·cases h
   ·rename_i hr
    split at h
    ·injection h with h
     rw [<- h]
     exact Nat.le_trans (rbV_len hr) (by omega)
    ·cases h)
 obtain ⟨va,vc,hvs,-⟩:=id I.es
 obtain ⟨⟨ra,rc,hrv⟩,xa,xc,hxv⟩:=F.slices
 obtain ⟨ga,gc,hgs,-⟩:=id hgv
 subst hvs
 subst hrv
 subst hxv
 subst hgs
 have HX0:=hid (Gx.start w p (.slice ra R.length rc) (.slice xa X.length xc))
 obtain ⟨RR,hRR⟩ : ∃ RR,getV pk Q L p R X G = RR:=⟨_,rfl⟩
 rw [hRR]
 have HRR:=hid hRR
 clear KT hL sh hz hp hG hg S0 Dz hT I F hxe hgv PC PZ hRR hBl hR hX
 go_enter Tryz.func11,Tryz.ntmps11
 go_wp2_with fail
 generalize (w.alloc (.cells #[.string p,.slice ra R.length rc,.slice xa X.length xc] 25)).alloc (.cells #[.string ⟨#[]⟩,.slice none 0 0,.slice none 0 0] 25) = w1 at *
 refine (HRA.out w1 HX0.out.bl).mono ?_
 intro e w2 hp
 cases hrd : rdA Q L p R X G with
 | none=>
  rw [hrd] at hp
  obtain ⟨a,n,c,Ty,ea,rfl,hb⟩:=hp
  have HX2:=hid (HX0.out.below hb)
  have HN:=hid (show RR = none by rw [<- HRR.out]; unfold getV; rw [hrd])
  obtain ⟨t0,t1,t2,tf,tl⟩:=cells3 HX2.out.rb
  clear hb hrd
  go_wp2_with fail
  refine bodyPost_ret (v:=.tuple #[.agg #[.string ⟨#[]⟩,.slice none 0 0,.slice none 0 0],.slice none 0 0,.iface Ty (.pointer (some ea))]) (by simp [results,Tryz.results11,go_sem,t0,t1,t2]) rfl ?_
  rw [HN.out]
  exact ⟨_,_,rfl,put3z HX2.out.bl (by omega)⟩
 | some D=>
  rw [hrd] at hp
  obtain ⟨da,dc,rfl,hdm,hb⟩:=hp
  have HX2:=hid (HX0.out.below hb)
  have HD2:=hid hdm
  have HRD:=hid hrd
  obtain ⟨f0,f1,f2,ff,fl⟩:=cells3 HX2.out.fb
  clear hb hdm hrd HRA
  go_wp2_with fail
  refine (HBU.out w2 HX2.out.bl).mono ?_
  rintro e w3 ⟨ba,bc,x,rfl,hM,he⟩
  have HX3:=hid (HX2.out.below hM.1)
  have HD3:=hid (HD2.out.below hM.1)
  have HM3:=hid hM.ms
  have HEE:=hid he
  rcases he.kind with ⟨hc,hx⟩ | ⟨hc,Ty,ea,hx⟩
  rotate_left
  ·have HN:=hid (show RR = none by
    rw [<- HRR.out]; unfold getV; rw [HRD.out]; simp only
    rw [if_pos]
    intro h
    rw [rF_good h] at hc
    exact hc rfl)
   subst hx
   have HBB:=hid (HBA.out _ w3 _ _ HX3.out.bl HEE.out hc)
   obtain ⟨ea2,hea2⟩:=errA_ne A hc
   rw [hea2] at HBB
   clear hM he hc hea2 f0 f1 f2 ff fl
   go_wp2_with fail
   refine HBB.out.mono ?_
   rintro e w4 ⟨rfl,hb⟩
   have HX4:=hid (HX3.out.below hb)
   obtain ⟨t0,t1,t2,tf,tl⟩:=cells3 HX4.out.rb
   clear hb
   go_wp2_with fail
   refine bodyPost_ret (v:=.tuple #[.agg #[.string ⟨#[]⟩,.slice none 0 0,.slice none 0 0],.slice none 0 0,.iface 311 (.pointer (some ea2))]) (by simp [results,Tryz.results11,go_sem,t0,t1,t2]) rfl ?_
   rw [HN.out]
   exact ⟨_,_,rfl,put3z HX4.out.bl (by omega)⟩
  ·have HC0:=hid (show ¬ (chkG Q L R).1 ≠ 0 from fun h=>by rw [rF_bad h] at hc; exact h hc)
   subst hx
   clear hM he hc HEE HBA f0 f1 f2 ff fl
   have HO3:=hid (HHO.out _ _ w3 HBL.out HX3.out.bl HM3.out)
   have HOE:=hid (show RR = if outM (bX Q L R) X then none else match chV Q L (bX Q L R) pk D with
    | none=>none
    | some N=>if outM N X then none else if fwB Q L N then some N else none by
    rw [<- HRR.out]; unfold getV; rw [HRD.out]; simp only
    rw [if_neg HC0.out]
    first | done | (cases chV Q L (bX Q L R) pk D <;> rfl))
   generalize outM (bX Q L R) X = z at *
   generalize bX Q L R = BX at *
   obtain ⟨f0,f1,f2,ff,fl⟩:=cells3 HX3.out.fb
   cases z
   rotate_left
   ·have HN:=hid (show RR = none by rw [HOE.out]; rfl)
    go_wp2_with fail
    refine HO3.out.mono ?_
    rintro e w4 ⟨rfl,hb⟩
    have HX4:=hid (HX3.out.below hb)
    obtain ⟨t0,t1,t2,tf,tl⟩:=cells3 HX4.out.rb
    have gg:=HG8.out _ HX4.out.bl
    have hne : ¬ w.heap.size + 1 = 0:=by have:=HGL.out; omega
    have hne2 : ¬ 0 = w.heap.size + 1:=fun e=>hne e.symm
    clear hb f0 f1 f2 ff fl
    go_wp2_with fail
    go_region_with fail
    all_goals
     go_wp2_with fail
     refine bodyPost_ret (v:=.tuple #[.agg #[.string ⟨#[]⟩,.slice none 0 0,.slice none 0 0],.slice none 0 0,.iface 311 (.pointer (some (A 8)))]) (by simp [results,Tryz.results11,go_sem,t0,t1,t2]) rfl ?_
     rw [HN.out]
     exact ⟨_,_,rfl,below_drawn_of (put3z HX4.out.bl (by omega)) 1⟩
   ·have HOC:=hid (show RR = match chV Q L BX pk D with
     | none=>none
     | some N=>if outM N X then none else if fwB Q L N then some N else none by rw [HOE.out]; rfl)
    go_wp2_with fail
    refine HO3.out.mono ?_
    rintro e w4 ⟨rfl,hb⟩
    have HX4:=hid (HX3.out.below hb)
    have HC4:=hid (HCH.out D _ _ w4 HX4.out.bl HRD.out (HM3.out.below hb) (HD3.out.below hb))
    clear hb f0 f1 f2 ff fl HOE HO3
    go_wp2_with fail
    refine HC4.out.mono ?_
    intro e w5 hp
    cases hch : chV Q L BX pk D with
    | none=>
     rw [hch] at hp
     obtain ⟨Ty,ea,rfl,hb⟩:=hp
     have HX5:=hid (HX4.out.below hb)
     have HN:=hid (show RR = none by rw [HOC.out,hch])
     obtain ⟨t0,t1,t2,tf,tl⟩:=cells3 HX5.out.rb
     clear hb hch
     go_wp2_with fail
     refine bodyPost_ret (v:=.tuple #[.agg #[.string ⟨#[]⟩,.slice none 0 0,.slice none 0 0],.slice none 0 0,.iface Ty (.pointer (some ea))]) (by simp [results,Tryz.results11,go_sem,t0,t1,t2]) rfl ?_
     rw [HN.out]
     exact ⟨_,_,rfl,put3z HX5.out.bl (by omega)⟩
    | some N=>
     rw [hch] at hp
     obtain ⟨na,nc,rfl,hnm,hne,hb⟩:=hp
     have HX5:=hid (HX4.out.below hb)
     have HNM:=hid hnm
     have HNE:=hid hne
     have HNL:=hid (HCN.out N D hch)
     have HO5:=hid (HHO.out N _ w5 HNL.out HX5.out.bl hnm)
     have HOD:=hid (show RR = if outM N X then none else if fwB Q L N then some N else none by rw [HOC.out,hch])
     generalize outM N X = z at *
     obtain ⟨f0,f1,f2,ff,fl⟩:=cells3 HX5.out.fb
     clear hb hch hnm hne HCN HC4 HOC
     cases z
     rotate_left
     ·have HN:=hid (show RR = none by rw [HOD.out]; rfl)
      go_wp2_with fail
      refine HO5.out.mono ?_
      rintro e w6 ⟨rfl,hb⟩
      have HX6:=hid (HX5.out.below hb)
      obtain ⟨t0,t1,t2,tf,tl⟩:=cells3 HX6.out.rb
      have gg:=HG8.out _ HX6.out.bl
      have hne : ¬ w.heap.size + 1 = 0:=by have:=HGL.out; omega
      have hne2 : ¬ 0 = w.heap.size + 1:=fun e=>hne e.symm
      clear hb f0 f1 f2 ff fl
      go_wp2_with fail
      go_region_with fail
      all_goals
       go_wp2_with fail
       refine bodyPost_ret (v:=.tuple #[.agg #[.string ⟨#[]⟩,.slice none 0 0,.slice none 0 0],.slice none 0 0,.iface 311 (.pointer (some (A 8)))]) (by simp [results,Tryz.results11,go_sem,t0,t1,t2]) rfl ?_
       rw [HN.out]
       exact ⟨_,_,rfl,below_drawn_of (put3z HX6.out.bl (by omega)) 1⟩
     ·have HOF:=hid (show RR = if fwB Q L N then some N else none by rw [HOD.out]; rfl)
      go_wp2_with fail
      refine HO5.out.mono ?_
      rintro e w6 ⟨rfl,hb⟩
      have HX6:=hid (HX5.out.below hb)
      have HN6:=hid (HNM.out.below hb)
      have HF6:=hid (HFW.out N _ w6 HX6.out.bl HNL.out HN6.out HNE.out)
      clear hb f0 f1 f2 ff fl HO5 HOD
      go_wp2_with fail
      refine HF6.out.mono ?_
      rintro e w7 (⟨hfb,ta,tc,rfl,htm,hb⟩ | ⟨hfb,Ty,ea,rfl,hb⟩)
      rotate_left
      ·have HN:=hid (show RR = none by rw [HOF.out,if_neg hfb])
       have HX7:=hid (HX6.out.below hb)
       obtain ⟨t0,t1,t2,tf,tl⟩:=cells3 HX7.out.rb
       clear hb hfb
       go_wp2_with fail
       refine bodyPost_ret (v:=.tuple #[.agg #[.string ⟨#[]⟩,.slice none 0 0,.slice none 0 0],.slice none 0 0,.iface Ty (.pointer (some ea))]) (by simp [results,Tryz.results11,go_sem,t0,t1,t2]) rfl ?_
       rw [HN.out]
       exact ⟨_,_,rfl,put3z HX7.out.bl (by omega)⟩
      ·have HS:=hid (show RR = some N by rw [HOF.out,if_pos hfb])
       have HX7:=hid (HX6.out.below hb)
       have HN7:=hid (HN6.out.below hb)
       have HT7:=hid htm
       have HCC:=hid (fun W (h : Below w7.heap.size w7 W)=>HCL.out W (HX7.out.bl.trans (h.mono HX7.out.bl.size)))
       have HTa:=hid (fun W (h : Below w7.heap.size w7 W)=>show W.cell? ⟨w.heap.size,0,none⟩ = some (.string p) /\ W.cell? ⟨w.heap.size,2,none⟩ = some (.slice xa X.length xc) from ⟨(cells3 (HX7.out.below h).fb).1,(cells3 (HX7.out.below h).fb).2.2.1⟩)
       have HTb:=hid (fun W (h : Below w7.heap.size w7 W) (x y z : Value)=>show (((W.setCell ⟨w.heap.size + 1,0,none⟩ x).setCell ⟨w.heap.size + 1,1,none⟩ y).setCell ⟨w.heap.size + 1,2,none⟩ z).cell? ⟨w.heap.size,0,none⟩ = some (.string p) /\ (((W.setCell ⟨w.heap.size + 1,0,none⟩ x).setCell ⟨w.heap.size + 1,1,none⟩ y).setCell ⟨w.heap.size + 1,2,none⟩ z).cell? ⟨w.heap.size,2,none⟩ = some (.slice xa X.length xc) from by
        have e1:=put3_cell (W:=W) (b:=w.heap.size + 1) (b':=w.heap.size) (o:=0) (x:=x) (y:=y) (z:=z) (by omega)
        have e2:=put3_cell (W:=W) (b:=w.heap.size + 1) (b':=w.heap.size) (o:=2) (x:=x) (y:=y) (z:=z) (by omega)
        unfold put3 at e1 e2
        rw [e1,e2]
        exact HTa.out W h)
       clear hb hfb htm HF6
       obtain ⟨TR,hTR⟩ : ∃ TR,trR Q L N = TR:=⟨_,rfl⟩
       rw [hTR] at HT7
       rw [hTR]
       have HTR:=hid hTR
       clear hTR HFW
       go_wp2_with fail
       go_region_held (fun W=>W.cell? ⟨w.heap.size,0,none⟩ = some (.string p) /\ W.cell? ⟨w.heap.size,2,none⟩ = some (.slice xa X.length xc)) (first | exact HTb.out _ HRb.out _ _ _ | exact HTa.out _ HRb.out | exact HTa.out _ (below_drawn _ 1)) (first
        | (go_at_call 29; refine (HCC.out _ (below_drawn _ 1)).mono ?_; rintro e w8 ⟨ca,cc,rfl,hM⟩; have HRb:=hid ((below_drawn w7 1).trans (hM.1.mono (Nat.le_refl _))); have HCM:=hid hM.ms; have HCE:=hid hM.em; obtain ⟨t0,t1,t2,tf,tl⟩:=cells3 (HX7.out.below HRb.out).rb; clear hM))
       all_goals
        have HX8:=hid (HX7.out.below HRb.out)
        have HM1:=hid (put3m (x:=.string p) (y:=.slice ta TR.length tc) (z:=.slice ca X.length cc) (HT7.out.below HRb.out) HX8.out.rb)
        have HM2:=hid (put3m (x:=.string p) (y:=.slice ta TR.length tc) (z:=.slice ca X.length cc) HCM.out HX8.out.rb)
        have HM3:=hid (put3m (x:=.string p) (y:=.slice ta TR.length tc) (z:=.slice ca X.length cc) (HN7.out.below HRb.out) HX8.out.rb)
        go_wp2_with fail
        refine bodyPost_ret (v:=.tuple #[.agg #[.string p,.slice ta TR.length tc,.slice ca X.length cc],.slice na N.length nc,.nilIface]) (by simp [results,Tryz.results11,go_sem,t0,t1,t2]) rfl ?_
        rw [HS.out]
        unfold GetP
        simp only
        rw [HTR.out]
        exact ⟨_,_,_,_,_,_,rfl,HM1.out,HM2.out,HCE.out,HM3.out,put3z HX8.out.bl (by omega)⟩
end Ve
end Go.Proofs.YtjbmjnbkibmkpaaGreatDoor
