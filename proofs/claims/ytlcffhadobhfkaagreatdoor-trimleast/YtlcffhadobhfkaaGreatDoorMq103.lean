/-
  TmP TmQ TlA
-/
import Derived.Test.YtlcffhadobhfkaaGreatDoorMq2
import Derived.Test.YtlcffhadobhfkaaGreatDoorMq6
import Derived.Test.YtlcffhadobhfkaaGreatDoorMq9
import Derived.Test.YtlcffhadobhfkaaGreatDoorMq20
import Derived.Test.YtlcffhadobhfkaaGreatDoorMq34
import Derived.Test.YtlcffhadobhfkaaGreatDoorMq40
import Derived.Test.YtlcffhadobhfkaaGreatDoorMq5
import Derived.Test.YtlcffhadobhfkaaGreatDoorMq19
import Derived.Test.YtlcffhadobhfkaaGreatDoorMq23
import Derived.Test.YtlcffhadobhfkaaGreatDoorMq22
import Derived.Test.YtlcffhadobhfkaaGreatDoorMq45
import Derived.Test.YtlcffhadobhfkaaGreatDoorMq37
import Derived.Test.YtlcffhadobhfkaaGreatDoorMq32
import Derived.Test.YtlcffhadobhfkaaGreatDoorMq3
import Derived.Test.YtlcffhadobhfkaaGreatDoorMq11
import Derived.Test.YtlcffhadobhfkaaGreatDoorMq18
import Derived.Test.YtlcffhadobhfkaaGreatDoorMq17
import Derived.Test.YtlcffhadobhfkaaGreatDoorMq16
import Derived.Test.YtlcffhadobhfkaaGreatDoorMq36
import Derived.Test.YtlcffhadobhfkaaGreatDoorMq39
import Derived.Test.YtlcffhadobhfkaaGreatDoorMq33
import Derived.Test.YtlcffhadobhfkaaGreatDoorMq54
import Derived.Test.YtlcffhadobhfkaaGreatDoorMq56
import Derived.Test.YtlcffhadobhfkaaGreatDoorMq105
namespace Go.Proofs.YtlcffhadobhfkaaGreatDoor
open Go.RowKit
namespace Ve
theorem trm_end {g : List Bm -> Bool} {n : Nat} {l : List Bm} {i : Nat} (h : ¬ i < l.length) : trm g n l i = l:=by
  cases n with
  | zero=>rfl
  | succ n=>rw [trm,if_neg h]
theorem erase_erase (l : List Bm) {i j : Nat} (h : j < i) : ((l.eraseIdx i).eraseIdx j).Sublist (l.eraseIdx j):=by
  induction l generalizing i j with
  | nil=>simp
  | cons a l ih=>
    cases i with
    | zero=>omega
    | succ i=>
      cases j with
      | zero=>simp only [List.eraseIdx_cons_succ,List.eraseIdx_cons_zero]; exact List.eraseIdx_sublist _ _
      | succ j=>simp only [List.eraseIdx_cons_succ]; exact (ih (by omega)).cons_cons a
def MoreG (g : List Bm -> Bool) (sel : List Bm) : Prop:=∀ a b : List Bm,a.Sublist b -> b.Sublist sel -> g a = true -> g b = true
theorem trm_ok {g : List Bm → Bool} {sel : List Bm} (hm : MoreG g sel) : ∀ (n : Nat) (l : List Bm) (i : Nat), l.length - i ≤ n → l.Sublist sel → g l = true → (∀ j, j < i → j < l.length → g (l.eraseIdx j) = false) → TrmOk g sel (trm g n l i)
  | 0,l,i,hn,hs,hg,h=>⟨hs,hg,fun j (hj : j < l.length)=>h j (by omega) hj⟩
  | n + 1, l, i, hn, hs, hg, h => by
    by_cases hi : i < l.length
    · cases h1 : g (l.eraseIdx i) with
      | true=>
        rw [trm_goes hi h1]
        have hl:=List.length_eraseIdx_of_lt hi
        refine trm_ok hm n _ i (by omega) ((List.eraseIdx_sublist _ _).trans hs) h1 fun j hj hjl=>?_
        cases h2 : g ((l.eraseIdx i).eraseIdx j) with
        | false=>rfl
        | true=>
          have:=hm _ _ (erase_erase l hj) ((List.eraseIdx_sublist _ _).trans hs) h2
          rw [h j hj (by omega)] at this; cases this
      | false=>
        rw [trm_stays hi h1]
        refine trm_ok hm n l (i + 1) (by omega) hs hg fun j hj hjl=>?_
        rcases Nat.lt_or_ge j i with h2 | h2
        · exact h j h2 hjl
        · have : j = i:=by omega
          subst this; exact h1
    · rw [trm_end hi]
      exact ⟨hs,hg,fun j hj=>h j (by omega) hj⟩
theorem trmA_ok {g : List Bm -> Bool} {sel : List Bm} (hm : MoreG g sel) (hg : g sel = true) : TrmOk g sel (trmA g sel):=
  trm_ok hm _ sel 0 (by omega) (List.Sublist.refl _) hg fun j hj=>absurd hj (Nat.not_lt_zero j)
theorem Jn.between {A B S E sel : List Bm} (ha : Jn A sel) (hs : Jn S sel) (hb : Jn B E) (h1 : ∀ m,m ∈ A -> m ∈ B) (h2 : ∀ m,m ∈ B -> m ∈ S) : E = sel:=by
  have hEs : ∀ m,m ∈ E -> m ∈ sel:=fun m hm=>by
    obtain ⟨a1,a2⟩:=hb.sub m hm
    obtain ⟨s,b1,b2,b3⟩:=hs.top m (h2 m a1) a2
    obtain ⟨c1,c2⟩:=ha.sub s b1
    obtain ⟨e,d1,d2,d3⟩:=hb.top s (h1 s c1) c2
    have : e = m:=rising_same hb.ri d1 hm (d2.trans b2)
    subst this
    rw [ver_same a2 c2 b2.symm b3 d3]; exact b1
  refine rising_ext hb.ri hs.ri fun m=>⟨hEs m,fun hm=>?_⟩
  obtain ⟨c1,c2⟩:=ha.sub m hm
  obtain ⟨e,d1,d2,_⟩:=hb.top m (h1 m c1) c2
  have:=rising_same hs.ri (hEs e d1) hm d2
  rw [<- this]; exact d1
open Go.Maps
theorem rX_more {w : World} {v : Value} {Q : List Raw} {L : List Ent} {A B : List Bm} (I : Ixs w v Q L) (hc : (chk Q L).1 = 0) (hB : ∀ m,m ∈ B -> m ∈ univ L) (h : ∀ m,m ∈ A -> m ∈ B) : ∀ m,m ∈ rX Q L A -> m ∈ rX Q L B:=fun _ hm=>
  (rX_mem I (chkG_in I hc hB)).2 (((rX_mem I (chkG_in I hc fun x hx=>hB x (h x hx))).1 hm).mono h)
theorem bX_again {w : World} {v : Value} {Q : List Raw} {L : List Ent} {roots : List Bm} (I : Ixs w v Q L) (h : (chkG Q L roots).1 = 0) : bX Q L (bX Q L roots) = bX Q L roots:=by
  have hc:=chkG_chk h
  have hg:=chkG_in I hc (bX_univ (Q:=Q) (L:=L) (roots:=roots))
  have j:=bX_jn Q L roots
  have jE : Jn (rX Q L (bX Q L roots)) (bX Q L roots):=⟨j.ri,fun e he=>⟨(rX_mem I hg).2 (.root he),(j.sub e he).2⟩,fun x hx hr=>j.top x ((rX_mem I h).2 (by
    have hx2:=(rX_mem I hg).1 hx
    clear hx hr
    induction hx2 with
    | root hr=>exact bX_in I h hr
    | step _ hr ih=>exact .step ih hr)) hr⟩
  exact (bX_jn Q L (bX Q L roots)).one jE (fun _ _=>Iff.rfl)
theorem gB_more {w : World} {v : Value} {Q : List Raw} {L : List Ent} {sel : List Bm} (I : Ixs w v Q L) (hc : (chk Q L).1 = 0) (hu : ∀ m,m ∈ sel -> m ∈ univ L) (hs : bX Q L sel = sel) : MoreG (gB Q L sel) sel:=fun a b hab hbs hg=>by
  rw [gB_iff] at hg ⊢
  have jA:=bX_jn Q L a
  have jS:=bX_jn Q L sel
  rw [hg] at jA
  rw [hs] at jS
  exact Jn.between jA jS (bX_jn Q L b) (rX_more I hc (fun m hm=>hu m (hbs.subset hm)) fun m hm=>hab.subset hm) (rX_more I hc hu fun m hm=>hbs.subset hm)
theorem bX_under {w : World} {v : Value} {Q : List Raw} {L : List Ent} {A B : List Bm} (I : Ixs w v Q L) (hc : (chk Q L).1 = 0) (hB : ∀ m,m ∈ B -> m ∈ univ L) (h : ∀ m,m ∈ A -> m ∈ B) : undB (bX Q L A) (bX Q L B) = true:=
  bX_over I (chkG_in I hc hB) fun _ hm=>(bX_in I (chkG_in I hc fun x hx=>hB x (h x hx)) hm).mono h
theorem trX_ok {w : World} {v : Value} {Q : List Raw} {L : List Ent} {sel : List Bm} (I : Ixs w v Q L) (hc : (chk Q L).1 = 0) (hu : ∀ m,m ∈ sel -> m ∈ univ L) (hs : bX Q L sel = sel) : TrmOk (gB Q L sel) sel (trX Q L sel):=trmA_ok (gB_more I hc hu hs) (gB_iff.2 hs)
structure TlF (Q : List Raw) (L : List Ent) (roots S X : List Bm) : Prop where
  sub : X.Sublist S
  un : ∀ x,x ∈ S -> x ∈ univ L
  ux : undB X S = true
  sb : smB Q L X roots = true
  sf : smF Q L X roots = (0,none)
  ls : ∀ j,j < X.length -> ¬ bX Q L (X.eraseIdx j) = S
  ok : ∀ j,(chkG Q L (X.eraseIdx j)).1 = 0
  ud : ∀ j,undB (bX Q L (X.eraseIdx j)) S = true
theorem tlF_of {w : World} {v : Value} {Q : List Raw} {L : List Ent} {roots : List Bm} (I : Ixs w v Q L) (h : (chkG Q L roots).1 = 0) : TlF Q L roots (bX Q L roots) (trX Q L (bX Q L roots)):=by
  have hc:=chkG_chk h
  have hu : ∀ m,m ∈ bX Q L roots -> m ∈ univ L:=bX_univ
  have hag:=bX_again I h
  have t:=trX_ok I hc hu hag
  have hb:=gB_iff.1 t.will
  have hx : (chkG Q L (trX Q L (bX Q L roots))).1 = 0:=chkG_in I hc fun m hm=>hu m (t.sub.subset hm)
  have he : ∀ j m,m ∈ (trX Q L (bX Q L roots)).eraseIdx j -> m ∈ bX Q L roots:=fun j m hm=>t.sub.subset ((List.eraseIdx_sublist _ _).subset hm)
  refine ⟨t.sub,hu,bX_over I h fun m hm=>bX_in I h (t.sub.subset hm),(smB_good hx h).2 hb.symm,by rw [smF_b hx,rF_good h],fun j hj=>gB_not.1 (t.least j hj),fun j=>chkG_in I hc fun m hm=>hu m (he j m hm),fun j=>?_⟩
  have:=bX_under I hc hu (he j)
  rw [hag] at this
  exact this
structure Gl (w W : World) (sv : Value) (S : List Bm) (xv : Value) (X : List Bm) : Prop where
  bl : Below w.heap.size w W
  ss : MsAt W sv S
  xs : MsAt W xv X
theorem Gl.below {w W W' : World} {sv xv : Value} {S X : List Bm} (h : Gl w W sv S xv X) (hb : Below W.heap.size W W') : Gl w W' sv S xv X:=
  ⟨h.bl.trans (hb.mono h.bl.size),h.ss.below hb,h.xs.below hb⟩
set_option maxRecDepth 100000 in
set_option maxHeartbeats 600000 in
theorem tl_main (Q0 : List Raw) (L : List Ent) (roots : List Bm) (v u : Value) (A : Nat → Addr) (m : Int) (w : World) (S : Te w A m) (I : Ixs w v Q0 L) (em : EmI Q0 L) (hr : MsAt w u roots) (her : Em u roots) (hok : okI L = true) (h30 : L.length ≤ 30) (hrk : okLN 15 roots = true) :
    Calls Tryz.prog 13 #[v,u] w fun e w'=>e = .returned (.bool true) /\ Below w.heap.size w w':=by
  obtain ⟨a0,c0,hv0,-⟩:=id I.es
  subst hv0
  obtain ⟨ra,rc,hu0,-⟩:=id hr
  subst hu0
  have hr15 : roots.length <= 15:=(okLN_iff hrk).1
  have hq30 : (Q0.length : Int) <= 30:=by rw [I.ln]; omega
  have HIN:=hid (trimd_any A m w S)
  have HLO:=hid (fun W (h : Below w.heap.size w W)=>longI_any Q0 L _ W (I.below h))
  rw [if_pos hok] at HLO
  have HLM:=hid (fun W (h : Below w.heap.size w W)=>longN_any 15 (by decide) roots _ W (hr.below h))
  rw [if_pos hrk] at HLM
  have HOW:=hid (fun W (h : Below w.heap.size w W)=>ownI_any Q0 L _ W (by omega) (I.below h) em (okI_fits hok))
  have HOM:=hid (fun W (h : Below w.heap.size w W)=>ownM_any _ roots W (by omega) (hr.below h) her)
  have HS:=hid (fun W (h : Below w.heap.size w W)=>S.below h)
  have HSH:=hid (okI_sh hok)
  clear S I em hok hr her hrk
  go_enter Tryz.func13,Tryz.ntmps13
  go_wp2_with fail
  refine HIN.out.mono ?_
  rintro e w1 ⟨rfl,hb⟩
  have HB1:=hid hb
  clear hb
  go_wp2_with fail
  refine (HLO.out w1 HB1.out).mono ?_
  rintro e w2 ⟨rfl,hb⟩
  have HB2:=hid (HB1.out.trans (hb.mono HB1.out.size))
  clear hb
  go_wp2_with fail
  refine (HLM.out w2 HB2.out).mono ?_
  rintro e w2' ⟨rfl,rfl⟩
  go_wp2_with fail
  refine (HOW.out w2' HB2.out).mono ?_
  rintro e w3 ⟨ou,Q,rfl,hO,hb⟩
  have HB3':=hid (HB2.out.trans (hb.mono HB2.out.size))
  have HIX:=hid (fun W (h : Below w3.heap.size w3 W)=>hO.ixs.below h)
  have HI3:=hid hO.ixs
  obtain ⟨oa,oc,hou,-⟩:=id hO.ixs.es
  subst hou
  have HBW:=hid (fun W (h : Below w3.heap.size w3 W)=>HB3'.out.trans (h.mono HB3'.out.size))
  have HBD:=hid (fun (E : List Bm) W u (h : Below w3.heap.size w3 W) (hl : E.length <= 1000) (hu : MsAt W u E) (h0 : (chkG Q L E).1 = 0)=>show Calls Tryz.prog 32 #[.slice oa Q.length oc,u] W fun e w'=>∃ a c,e = .returned (.tuple #[.slice a (bX Q L E).length c,.nilIface]) /\ Mr W w' (.slice a (bX Q L E).length c) (bX Q L E) by
    refine (build_all Q L E _ u A m W (by omega) (by omega) HSH.out (HS.out _ (HBW.out _ h)) (HIX.out _ h) hu).mono ?_
    rintro e w' ⟨a,c,x,rfl,hm,he⟩
    rw [rF_good h0] at he
    have he : x = .nilIface:=he
    subst he
    exact ⟨a,c,rfl,hm⟩)
  clear hb hO HLO HLM HOW HIN HB1 HB2
  have HB3:=hid (Below.refl w3.heap.size w3)
  go_wp2_with fail
  refine (HOM.out w3 (HBW.out _ HB3.out)).mono ?_
  rintro e w4 ⟨u4,rfl,ho,-,hb⟩
  have HB4:=hid (HB3.out.trans (hb.mono HB3.out.size))
  have HR4:=hid (own_ms ho)
  obtain ⟨a4,c4,hu4⟩:=own_slN ho
  subst hu4
  clear ho hb
  by_cases hca : (chkG Q L roots).1 = 0
  rotate_left
  · have HBU:=hid (build_bad Q L roots _ _ A m w4 (by omega) (by omega) HSH.out (HS.out _ (HBW.out _ HB4.out)) (HIX.out _ HB4.out) HR4.out hca)
    clear hca
    go_wp2_with fail
    refine HBU.out.mono ?_
    rintro e w6 ⟨T,ea,rfl,-,hb⟩
    have HB6:=hid (HBW.out _ (HB4.out.trans (hb.mono HB4.out.size)))
    clear hb HBU
    go_wp2_with fail
    go_ret
    exact ⟨rfl,HB6.out⟩
  have HTF:=hid (tlF_of HI3.out hca)
  have HBU:=hid (HBD.out roots w4 _ HB4.out (by omega) HR4.out hca)
  have HSL:=hid (show (bX Q L roots).length <= 30 from Nat.le_trans bX_len h30)
  have HAG:=hid (bX_again HI3.out hca)
  have HCS:=hid (chkG_in HI3.out (chkG_chk hca) HTF.out.un)
  clear hca
  generalize bX Q L roots = SE at *
  go_wp2_with fail
  refine HBU.out.mono ?_
  rintro e w5 ⟨sa,sc,rfl,hm⟩
  have HB5:=hid (HB4.out.trans (hm.1.mono HB4.out.size))
  have HS5:=hid hm.ms
  have HRO:=hid (roots_good Q L SE _ _ A m w5 (by omega) (by have:=HSL.out; omega) HSH.out (HS.out _ (HBW.out _ HB5.out)) (HIX.out _ HB5.out) hm.ms hm.em HCS.out HAG.out)
  clear hm HBU HB4 HR4
  generalize trX Q L SE = X at *
  go_wp2_with fail
  refine HRO.out.mono ?_
  rintro e w6 ⟨xa,xc,rfl,hm⟩
  have HG6:=hid (show Gl w3 w6 (.slice sa SE.length sc) SE (.slice xa X.length xc) X from ⟨HB5.out.trans (hm.1.mono HB5.out.size),HS5.out.below hm.1,hm.ms⟩)
  have HXL:=hid (show X.length <= 30 from Nat.le_trans HTF.out.sub.length_le HSL.out)
  have HZS:=hid (show ∀ x,x ∈ SE -> x.2.size < 999999 from fun x hx=>by
    obtain ⟨e,he,rfl⟩:=List.mem_map.1 (HTF.out.un x hx)
    exact (HSH.out e he).v)
  have HUN:=hid (fun (E : List Bm) W a (h : Below w3.heap.size w3 W) (hl : E.length <= 1000) (hz : ∀ x,x ∈ E -> x.2.size < 999999) (ha : MsAt W a E) (hs : MsAt W (.slice sa SE.length sc) SE) (hb : undB E SE = true)=>show Calls Tryz.prog 31 #[a,.slice sa SE.length sc] W fun e w'=>e = .returned (.bool true) /\ Below W.heap.size W w' by
    have:=und_any E SE a _ A m W (by omega) (by have:=HSL.out; omega) hz HZS.out (HS.out _ (HBW.out _ h)) ha hs
    rw [hb] at this
    exact this)
  clear hm HRO HB5 HS5
  have HU6:=hid (HUN.out X w6 _ HG6.out.bl (by have:=HXL.out; omega) (fun x hx=>HZS.out x (HTF.out.sub.subset hx)) HG6.out.xs HG6.out.ss HTF.out.ux)
  go_wp2_with fail
  refine HU6.out.mono ?_
  rintro e w7 ⟨rfl,hb⟩
  have HG7:=hid (HG6.out.below hb)
  clear hb HG6 HU6
  go_wp2_with fail
  refine (HOM.out w7 (HBW.out _ HG7.out.bl)).mono ?_
  rintro e w8 ⟨u8,rfl,ho,-,hb⟩
  have HG8:=hid (HG7.out.below hb)
  have HR8:=hid (own_ms ho)
  obtain ⟨a8,c8,hu8⟩:=own_slN ho
  subst hu8
  clear ho hb HG7 HOM
  have HSM:=hid (tsame_all Q L X roots _ _ _ A m w8 (by omega) (by have:=HXL.out; omega) (by omega) HSH.out (HS.out _ (HBW.out _ HG8.out.bl)) (HIX.out _ HG8.out.bl) HG8.out.xs HR8.out)
  rw [HTF.out.sb,HTF.out.sf] at HSM
  go_wp2_with fail
  refine HSM.out.mono ?_
  rintro e w9 ⟨y9,rfl,he,hb⟩
  have he : y9 = .nilIface:=he
  subst he
  have HG9:=hid (HG8.out.below hb)
  clear hb HG8 HR8 HSM
  have HLS:=hid HTF.out.ls
  have HOK:=hid HTF.out.ok
  have HUD:=hid HTF.out.ud
  clear HTF HI3 HAG HCS
  go_wp2_with fail
  obtain ⟨GG,hGG⟩ : ∃ GG : World -> Prop,GG = fun W=>Gl w3 W (.slice sa SE.length sc) SE (.slice xa X.length xc) X:=⟨_,rfl⟩
  have FG:=hid (show ∀ W,GG W -> Gl w3 W (.slice sa SE.length sc) SE (.slice xa X.length xc) X from fun W h=>by rw [hGG] at h; exact h)
  have FB:=hid (show ∀ W W',GG W -> Below W.heap.size W W' -> GG W' from fun W W' h hb=>by rw [hGG] at h ⊢; exact h.below hb)
  have HG0:=hid (show GG w9 by rw [hGG]; exact HG9.out)
  clear hGG HG9
  go_loopw [11] (fun iv wr=>∃ i : Nat,i <= X.length /\ iv = .int .i64 i /\ Hid (GG wr)) (fun iv _=>X.length - (intOf iv).toNat)
  case atStart=>exact ⟨0,Nat.zero_le _,rfl,HG0⟩
  case round=>
    obtain ⟨k,hk,rfl,HG⟩:=hrel
    by_cases hlt : k < X.length
    · have HLT:=hid hlt
      obtain ⟨cb,co,hca,-⟩:=(FG.out _ HG.out).xs.cells hlt
      subst hca
      have hccl : X.length <= xc:=(FG.out _ HG.out).xs.cap
      have hk0 : (0 : Int) <= (k : Int):=Int.natCast_nonneg _
      have hkI : (k : Int) < (X.length : Int):=by omega
      have hkL : (k : Int) <= (X.length : Int):=by omega
      have hkC : (k : Int) <= (xc : Int):=by omega
      have hk10 : (0 : Int) <= (k : Int) + 1:=by omega
      have hk1L : (k : Int) + 1 <= (X.length : Int):=by omega
      have hk1C : (k : Int) + 1 <= (xc : Int):=by omega
      have hXl : X.length <= 30:=HXL.out
      have kw64:=ix_w1 hlt (show X.length <= 1000000 by omega)
      have kwk:=ix_k1 hlt (show X.length <= 1000000 by omega)
      have ktn:=ix_nat1 k
      have HT1:=hid (ms_take (FG.out _ HG.out).xs (k:=k) (by omega))
      have HLC:=hid (show X.take k ++ X.drop (k + 1) = X.eraseIdx k from (List.eraseIdx_eq_take_drop_succ X k).symm)
      have HD1:=hid (fun W (h : GG W)=>ms_drop (FG.out _ h).xs (k + 1) (xc - (k + 1)) (by omega))
      have HD2:=hid (fun W (he : xc = k + 1)=>show MsAt W (.slice (some ⟨cb,co,none⟩) (X.length - (k + 1)) (xc - (k + 1))) (X.drop (k + 1)) by
        have hz : X.drop (k + 1) = []:=List.drop_eq_nil_of_le (by omega)
        rw [hz]
        exact ⟨_,_,by rw [show X.length - (k + 1) = 0 by omega]; rfl,Nat.zero_le _,fun h=>absurd rfl h⟩)
      have HL1:=hid (show (X.take k).length <= 1000 by have:=HXL.out; simp; omega)
      have HL2:=hid (show (X.drop (k + 1)).length <= 1000 by have:=HXL.out; simp; omega)
      have HOG:=hid (ownM_any _ (X.take k) wr (by have:=HL1.out; omega) HT1.out (em_ad _ _ _ _))
      have HLE:=hid (show (X.eraseIdx k).length <= 1000 from Nat.le_trans (List.eraseIdx_sublist X k).length_le (by have:=HXL.out; omega))
      have HBE:=hid (fun W u (h : Below w3.heap.size w3 W) (hu : MsAt W u (X.eraseIdx k))=>HBD.out (X.eraseIdx k) W u h HLE.out hu (HOK.out k))
      have HSE:=hid (fun W u (hu : MsAt W u (bX Q L (X.eraseIdx k))) (hs : MsAt W (.slice sa SE.length sc) SE)=>sameG_any (bX Q L (X.eraseIdx k)) SE u _ W (Nat.le_trans bX_len (by omega)) hu hs)
      rw [decide_eq_false (HLS.out k hlt)] at HSE
      have HUE:=hid (fun W a (h : Below w3.heap.size w3 W) (ha : MsAt W a (bX Q L (X.eraseIdx k))) (hs : MsAt W (.slice sa SE.length sc) SE)=>HUN.out (bX Q L (X.eraseIdx k)) W a h (Nat.le_trans bX_len (by omega)) (fun x hx=>by
        obtain ⟨e,he,rfl⟩:=List.mem_map.1 (bX_univ x hx)
        exact (HSH.out e he).v) ha hs (HUD.out k))
      clear hlt HT1
      generalize X.take k = CT at *
      generalize X.drop (k + 1) = CD at *
      generalize X.eraseIdx k = LC at *
      generalize bX Q L LC = Y at *
      go_wp2_with fail
      refine HOG.out.mono ?_
      rintro e w12 ⟨u12,rfl,ho,-,hb⟩
      have HG4:=hid (FB.out _ _ HG.out hb)
      have HO12:=hid ho
      have HB12:=hid hb
      obtain ⟨a12,c12,hu12⟩:=own_slN ho
      subst hu12
      have HAP:=hid (fun sv (hsv : MsAt w12 sv CD) (he : Em sv CD)=>both_run CT CD _ sv w12 wr.heap.size HB12.out.size HL1.out HL2.out HO12.out hsv he)
      rw [HLC.out] at HAP
      have HLT12:=hid (fun k hk=>(HO12.out.lt k hk).1)
      clear ho hb HOG
      go_upto_region 18 with fail
      go_cut [12] (fun lv wx=>∃ da dc,lv = .slice da LC.length dc /\ Hid (MsAt wx (.slice da LC.length dc) LC /\ GG wx))
      case first=>
        by_cases hcap : (k : Int) + 1 < (xc : Int)
        · obtain ⟨dv,w13,hrun,hown,hgr⟩:=HAP.out _ (HD1.out _ HG4.out) (em_ad _ _ _ _)
          have HRUN:=hid hrun
          have HM13:=hid (own_ms hown)
          have HG13:=hid (FB.out _ _ HG.out (HB12.out.grown hgr HB12.out.size HLT12.out))
          obtain ⟨da,dc,hdv⟩:=own_slN hown
          subst hdv
          clear hrun hown hgr
          go_wp2_with (at_builtin; refine Lib.wpList_append_run _ rfl _ _ _ _ rfl _ _ rfl rfl _ _ HRUN.out ?_)
          go_meet
          case rel=>exact ⟨_,_,rfl,hid ⟨HM13.out,HG13.out⟩⟩
        · have HC2 : Hid (xc = k + 1):=hid (by omega)
          obtain ⟨dv,w13,hrun,hown,hgr⟩:=HAP.out _ (HD2.out w12 HC2.out) (em_ad _ _ _ _)
          have HRUN:=hid hrun
          have HM13:=hid (own_ms hown)
          have HG13:=hid (FB.out _ _ HG.out (HB12.out.grown hgr HB12.out.size HLT12.out))
          obtain ⟨da,dc,hdv⟩:=own_slN hown
          subst hdv
          clear hrun hown hgr
          go_wp2_with (at_builtin; refine Lib.wpList_append_run _ rfl _ _ _ _ rfl _ _ rfl rfl _ _ HRUN.out ?_)
          go_meet
          case rel=>exact ⟨_,_,rfl,hid ⟨HM13.out,HG13.out⟩⟩
      case rest=>
        obtain ⟨da,dc,rfl,HL⟩:=hcut
        have HBZ:=hid (HBE.out _ _ (FG.out _ HL.out.2).bl HL.out.1)
        have HGL:=hid HL.out.2
        clear HL HAP HD1 HD2 HG4 HG HO12 HB12 HLT12 HBE
        go_wp2_with fail
        refine HBZ.out.mono ?_
        rintro e w14 ⟨ya,yc,rfl,hm⟩
        have HG14:=hid (FB.out _ _ HGL.out hm.1)
        have HY14:=hid hm.ms
        have HSZ:=hid (HSE.out w14 _ hm.ms (FG.out _ HG14.out).ss)
        clear hm HBZ HGL HSE
        go_wp2_with fail
        refine HSZ.out.mono ?_
        rintro e w15 ⟨rfl,hb⟩
        have HG15:=hid (FB.out _ _ HG14.out hb)
        have HUZ:=hid (HUE.out w15 _ (FG.out _ HG15.out).bl (HY14.out.below hb) (FG.out _ HG15.out).ss)
        clear hb HSZ HG14 HY14 HUE
        go_wp2_with fail
        refine HUZ.out.mono ?_
        rintro e w16 ⟨rfl,hb⟩
        have HG16:=hid (FB.out _ _ HG15.out hb)
        clear hb HUZ HG15
        go_wp2_with fail
        go_roundw
        case rel=>first | exact ⟨k + 1,HLT.out,nr_idx k,HG16⟩ | exact ⟨k + 1,HLT.out,nx_idx HLT.out (Nat.le_trans HXL.out (by decide)),HG16⟩
        case measure=>first | exact nr_meas HLT.out | exact nx_meas HLT.out (Nat.le_trans HXL.out (by decide))
    · have hkI : ¬ (k : Int) < (X.length : Int):=by omega
      have HE:=hid (HBW.out _ (FG.out _ HG.out).bl)
      clear hlt
      go_wp2_with fail
      go_ret
      exact ⟨rfl,HE.out⟩
set_option maxRecDepth 100000 in
set_option maxHeartbeats 2000000 in
theorem tl_long1 (Q0 : List Raw) (L : List Ent) (roots : List Bm) (v u : Value) (A : Nat -> Addr) (m : Int) (w : World) (S : Te w A m) (I : Ixs w v Q0 L) (hr : MsAt w u roots) (hok : okI L = false) :
    Calls Tryz.prog 13 #[v,u] w fun e w'=>e = .returned (.bool true) /\ Below w.heap.size w w':=by
  obtain ⟨a0,c0,hv0,-⟩:=id I.es
  subst hv0
  obtain ⟨ra,rc,hu0,-⟩:=id hr
  subst hu0
  have HIN:=hid (trimd_any A m w S)
  have HLO:=hid (fun W (h : Below w.heap.size w W)=>longI_any Q0 L _ W (I.below h))
  rw [hok] at HLO
  clear S I hok hr
  go_enter Tryz.func13,Tryz.ntmps13
  go_wp2_with fail
  refine HIN.out.mono ?_
  rintro e w1 ⟨rfl,hb⟩
  have HB1:=hid hb
  clear hb
  go_wp2_with fail
  refine (HLO.out w1 HB1.out).mono ?_
  rintro e w2 ⟨rfl,hb⟩
  have HB2:=hid (HB1.out.trans (hb.mono HB1.out.size))
  clear hb
  go_wp2_with fail
  go_ret
  exact ⟨rfl,HB2.out⟩
set_option maxRecDepth 100000 in
set_option maxHeartbeats 2000000 in
theorem tl_long2 (Q0 : List Raw) (L : List Ent) (roots : List Bm) (v u : Value) (A : Nat -> Addr) (m : Int) (w : World) (S : Te w A m) (I : Ixs w v Q0 L) (hr : MsAt w u roots) (hok : okI L = true) (h30 : ¬ L.length <= 30) :
    Calls Tryz.prog 13 #[v,u] w fun e w'=>e = .returned (.bool true) /\ Below w.heap.size w w':=by
  obtain ⟨a0,c0,hv0,-⟩:=id I.es
  subst hv0
  obtain ⟨ra,rc,hu0,-⟩:=id hr
  subst hu0
  have hq30 : (30 : Int) < (Q0.length : Int):=by rw [I.ln]; omega
  have HIN:=hid (trimd_any A m w S)
  have HLO:=hid (fun W (h : Below w.heap.size w W)=>longI_any Q0 L _ W (I.below h))
  rw [if_pos hok] at HLO
  clear S I hok hr
  go_enter Tryz.func13,Tryz.ntmps13
  go_wp2_with fail
  refine HIN.out.mono ?_
  rintro e w1 ⟨rfl,hb⟩
  have HB1:=hid hb
  clear hb
  go_wp2_with fail
  refine (HLO.out w1 HB1.out).mono ?_
  rintro e w2 ⟨rfl,hb⟩
  have HB2:=hid (HB1.out.trans (hb.mono HB1.out.size))
  clear hb
  go_wp2_with fail
  go_ret
  exact ⟨rfl,HB2.out⟩
set_option maxRecDepth 100000 in
set_option maxHeartbeats 2000000 in
theorem tl_long3 (Q0 : List Raw) (L : List Ent) (roots : List Bm) (v u : Value) (A : Nat -> Addr) (m : Int) (w : World) (S : Te w A m) (I : Ixs w v Q0 L) (hr : MsAt w u roots) (h30 : L.length <= 30) (hok : okI L = true) (hrk : okLN 15 roots = false) :
    Calls Tryz.prog 13 #[v,u] w fun e w'=>e = .returned (.bool true) /\ Below w.heap.size w w':=by
  obtain ⟨a0,c0,hv0,-⟩:=id I.es
  subst hv0
  obtain ⟨ra,rc,hu0,-⟩:=id hr
  subst hu0
  have hq30 : (Q0.length : Int) <= 30:=by rw [I.ln]; omega
  have HIN:=hid (trimd_any A m w S)
  have HLO:=hid (fun W (h : Below w.heap.size w W)=>longI_any Q0 L _ W (I.below h))
  rw [if_pos hok] at HLO
  have HLM:=hid (fun W (h : Below w.heap.size w W)=>longN_any 15 (by decide) roots _ W (hr.below h))
  rw [hrk] at HLM
  clear S I hok hr hrk
  go_enter Tryz.func13,Tryz.ntmps13
  go_wp2_with fail
  refine HIN.out.mono ?_
  rintro e w1 ⟨rfl,hb⟩
  have HB1:=hid hb
  clear hb
  go_wp2_with fail
  refine (HLO.out w1 HB1.out).mono ?_
  rintro e w2 ⟨rfl,hb⟩
  have HB2:=hid (HB1.out.trans (hb.mono HB1.out.size))
  clear hb
  go_wp2_with fail
  refine (HLM.out w2 HB2.out).mono ?_
  rintro e w2a ⟨rfl,rfl⟩
  go_wp2_with fail
  go_ret
  exact ⟨rfl,HB2.out⟩
theorem trimLeast_any (Q0 : List Raw) (L : List Ent) (roots : List Bm) (v u : Value) (A : Nat -> Addr) (m : Int) (w : World) (S : Te w A m) (I : Ixs w v Q0 L) (em : EmI Q0 L) (hr : MsAt w u roots) (her : Em u roots) :
    Calls Tryz.prog 13 #[v,u] w fun e w'=>e = .returned (.bool true) /\ Below w.heap.size w w':=by
  cases hok : okI L with
  | false=>exact tl_long1 Q0 L roots v u A m w S I hr hok
  | true=>
    by_cases h30 : L.length <= 30
    · cases hrk : okLN 15 roots with
      | true=>exact tl_main Q0 L roots v u A m w S I em hr her hok h30 hrk
      | false=>exact tl_long3 Q0 L roots v u A m w S I hr h30 hok hrk
    · exact tl_long2 Q0 L roots v u A m w S I hr hok h30
end Ve
end Go.Proofs.YtlcffhadobhfkaaGreatDoor
