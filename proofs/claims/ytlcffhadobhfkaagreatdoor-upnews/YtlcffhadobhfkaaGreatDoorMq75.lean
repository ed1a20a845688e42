/-
  UpP UpE UpD UpF
-/
import Derived.Test.YtlcffhadobhfkaaGreatDoorMq5
import Derived.Test.YtlcffhadobhfkaaGreatDoorMq9
import Derived.Test.YtlcffhadobhfkaaGreatDoorMq18
import Derived.Test.YtlcffhadobhfkaaGreatDoorMq2
import Derived.Test.YtlcffhadobhfkaaGreatDoorMq19
import Derived.Test.YtlcffhadobhfkaaGreatDoorMq20
import Derived.Test.YtlcffhadobhfkaaGreatDoorMq23
import Derived.Test.YtlcffhadobhfkaaGreatDoorMq34
import Derived.Test.YtlcffhadobhfkaaGreatDoorMq6
import Derived.Test.YtlcffhadobhfkaaGreatDoorMq22
import Derived.Test.YtlcffhadobhfkaaGreatDoorMq45
import Derived.Test.YtlcffhadobhfkaaGreatDoorMq37
import Derived.Test.YtlcffhadobhfkaaGreatDoorMq32
import Derived.Test.YtlcffhadobhfkaaGreatDoorMq73
import Derived.Test.YtlcffhadobhfkaaGreatDoorMq35
import Derived.Test.YtlcffhadobhfkaaGreatDoorMq3
import Derived.Test.YtlcffhadobhfkaaGreatDoorMq11
import Derived.Test.YtlcffhadobhfkaaGreatDoorMq16
import Derived.Test.YtlcffhadobhfkaaGreatDoorMq54
import Derived.Test.YtlcffhadobhfkaaGreatDoorMq56
import Derived.Test.YtlcffhadobhfkaaGreatDoorMq14
import Derived.Test.YtlcffhadobhfkaaGreatDoorMq76
import Derived.Test.YtlcffhadobhfkaaGreatDoorMq17
import Derived.Test.YtlcffhadobhfkaaGreatDoorMq36
import Derived.Test.YtlcffhadobhfkaaGreatDoorMq61
namespace Go.Proofs.YtlcffhadobhfkaaGreatDoor
open Go.RowKit Go.Maps
namespace Ve
theorem up_lat {w : World} {v : Value} {Q : List Raw} {L : List Ent} {E : List Bm} (I : Ixs w v Q L) (hc : (chk Q L).1 = 0) (hE : Sl L E) (hl : LatIn Q L E) : undB (latL Q E) (upF Q L E) = true:=
  bX_over I (upG I hc hE hl) fun _ hm=>.root (List.mem_append_right _ hm)
theorem Fix.self {Q : List Raw} {L : List Ent} {E : List Bm} (h : upF Q L E = E) : Fix Q L E E:=⟨⟨0,rfl⟩,h⟩
theorem up_again {w : World} {v : Value} {Q : List Raw} {L : List Ent} {E : List Bm} (I : Ixs w v Q L) (hc : (chk Q L).1 = 0) (hE : Sl L E) (hl : LatIn Q L E) (h : upF Q L E = E) : bX Q L E = E:=by
  have hg:=upG I hc hE hl
  have hg2:=chkG_in I hc hE.un
  have j:=bX_jn Q L (E ++ latL Q E)
  rw [show bX Q L (E ++ latL Q E) = E from h] at j
  have jE : Jn (rX Q L E) E:=⟨hE.ri,fun e he=>⟨(rX_mem I hg2).2 (.root he),univ_right hc e (hE.un e he)⟩,fun x hx hr=>j.top x ((rX_mem I hg).2 (((rX_mem I hg2).1 hx).mono fun _ hm=>List.mem_append_left _ hm)) hr⟩
  exact (bX_jn Q L E).one jE (fun _ _=>Iff.rfl)
theorem up_news {w : World} {v : Value} {Q : List Raw} {L : List Ent} {E : List Bm} (I : Ixs w v Q L) (hc : (chk Q L).1 = 0) (hE : Sl L E) (hl : LatIn Q L E) (h : upF Q L E = E) : ∀ m,m ∈ E -> lessB (vb m) (latV Q m.1).data.toList = false:=fun m hm=>by
  have hu:=up_lat I hc hE hl
  rw [h] at hu
  have h1:=List.all_eq_true.1 hu (m.1,latV Q m.1) (List.mem_map.2 ⟨m,hm,rfl⟩)
  rw [hasV_rising (m:=(m.1,latV Q m.1)) hE.ri hm rfl] at h1
  have h2 : (!lessB (vb m) (latV Q m.1).data.toList) = true:=h1
  simpa using h2
theorem bX_of {w : World} {v : Value} {Q : List Raw} {L : List Ent} {roots D E : List Bm} (I : Ixs w v Q L) (h : (chkG Q L roots).1 = 0) (hD : ∀ m,Rch (reqQ Q L) roots m ↔ m ∈ D) (j : Jn D E) : bX Q L roots = E:=
  (bX_jn Q L roots).one j (fun m _=>by rw [rX_mem I h,hD])
theorem sm_r0 (g : Nat) : reqQ (smQ g) smL ma0 = []:=by kernel_rfl
theorem sm_chkG3 (g : Nat) : (chkG (smQ g) smL [ma0]).1 = 0:=by
  rw [chkG_ok (by rw [sm_chk])]
  show codeE (nonE (smQ g) [ma0]) 1 = 0
  kernel_rfl
theorem sm_chkG4 (g : Nat) : (chkG (smQ g) smL [ma1,mb0,ma1,mb0]).1 = 0:=by
  rw [chkG_ok (by rw [sm_chk])]
  show codeE (nonE (smQ g) [ma1,mb0,ma1,mb0]) 4 = 0
  kernel_rfl
theorem rch_sm {g : Nat} {R D : List Bm} (hR : ∀ m,m ∈ R -> m ∈ D) (hD : ∀ p,p ∈ D -> ∀ m,m ∈ reqQ (smQ g) smL p -> m ∈ D) {m : Bm} (h : Rch (reqQ (smQ g) smL) R m) : m ∈ D:=by
  induction h with
  | root hr=>exact hR _ hr
  | step _ hr ih=>exact hD _ ih _ hr
theorem sm_in {g : Nat} {p m : Bm} (hp : p ∈ [ma0,ma1,mb0]) (hm : m ∈ reqQ (smQ g) smL p) : p = ma1 /\ m = mb0:=by
  rcases List.mem_cons.1 hp with rfl | hp
  · rw [sm_r0] at hm; cases hm
  · rcases List.mem_cons.1 hp with rfl | hp
    · rw [sm_r1] at hm; exact ⟨rfl,List.mem_singleton.1 hm⟩
    · rw [List.mem_singleton.1 hp,sm_rb] at hm; cases hm
theorem ma0_ne : ma0 ≠ ma1:=fun e=>absurd (congrArg (fun m : Bm=>m.2.data) e) (by decide)
theorem rch0 {g : Nat} (m : Bm) : Rch (reqQ (smQ g) smL) [ma0] m ↔ m ∈ [ma0]:=by
  refine ⟨fun h=>rch_sm (fun _ h=>h) (fun p hp m hm=>?_) h,fun h=>.root h⟩
  have:=List.mem_singleton.1 hp
  subst this
  exact absurd (sm_in (by simp) hm).1 ma0_ne
theorem rch1 {g : Nat} (m : Bm) : Rch (reqQ (smQ g) smL) [ma0, ma1] m ↔ m ∈ [ma0, ma1, mb0] := by
  refine ⟨fun h=>rch_sm (fun m h=>?_) (fun p hp m hm=>?_) h,fun h=>?_⟩
  · rcases List.mem_cons.1 h with rfl | h
    · simp
    · rw [List.mem_singleton.1 h]; simp
  · rw [(sm_in hp hm).2]; simp
  · rcases List.mem_cons.1 h with rfl | h
    · exact .root (by simp)
    · rcases List.mem_cons.1 h with rfl | h
      · exact .root (by simp)
      · rw [List.mem_singleton.1 h]
        exact .step (.root (show ma1 ∈ [ma0,ma1] by simp)) (by rw [sm_r1]; simp)
theorem rch2 {g : Nat} (m : Bm) : Rch (reqQ (smQ g) smL) [ma1,mb0,ma1,mb0] m ↔ m ∈ [ma1,mb0]:=by
  refine ⟨fun h=>rch_sm (fun m h=>?_) (fun p hp m hm=>?_) h,fun h=>.root ?_⟩
  · have h3 : m = ma1 \/ m = mb0 \/ m = ma1 \/ m = mb0:=by simpa using h
    rcases h3 with rfl | rfl | rfl | rfl <;> simp
  · rw [(sm_in (List.mem_cons_of_mem _ hp) hm).2]; simp
  · rcases List.mem_cons.1 h with rfl | h
    · simp
    · rw [List.mem_singleton.1 h]; simp
theorem sm_m0 : mErr ma0 = 0:=by kernel_rfl
theorem sm_m1 : mErr ma1 = 0:=by kernel_rfl
theorem sm_mb : mErr mb0 = 0:=by kernel_rfl
theorem jn0 : Jn [ma0] [ma0]:=⟨List.pairwise_singleton _ _,fun e he=>⟨he,by rw [List.mem_singleton.1 he]; exact sm_m0⟩,fun x hx _=>⟨x,hx,rfl,by rw [List.mem_singleton.1 hx]; exact ordV_selfJ sm_m0⟩⟩
theorem jn2 : Jn [ma1,mb0] [ma1,mb0]:=by
  refine ⟨sm_jn.ri,fun e he=>⟨he,(sm_jn.sub e he).2⟩,fun x hx h0=>⟨x,hx,rfl,ordV_selfJ h0⟩⟩
theorem sm_ordA : ordV ma0.2.data.toList ma1.2.data.toList < 0:=of_decide_eq_true (by kernel_rfl)
theorem sm_keptA (g : Nat) : KeptT (smQ g) ma0.1 [ma0.2,ma1.2]:=by
  have e : verL (bestR (ofP ma0.1 (smQ g))) = [ma0.2,ma1.2]:=by kernel_rfl
  unfold KeptT
  rw [e]
  refine ⟨List.pairwise_cons.2 ⟨fun t ht=>?_,List.pairwise_singleton _ _⟩,fun t=>⟨fun ht=>⟨ht,?_⟩,fun ht=>ht.1⟩⟩
  · rw [List.mem_singleton.1 ht]; exact sm_ordA
  · have : t = ma0.2.data.toList \/ t = ma1.2.data.toList:=by simpa [bl] using ht
    rcases this with rfl | rfl
    · exact (mErr_zero sm_m0).2
    · exact (mErr_zero sm_m1).2
theorem sm_keptB (g : Nat) : KeptT (smQ g) mb0.1 [mb0.2]:=by
  have e : verL (bestR (ofP mb0.1 (smQ g))) = [mb0.2]:=by kernel_rfl
  unfold KeptT
  rw [e]
  refine ⟨List.pairwise_singleton _ _,fun t=>⟨fun ht=>⟨ht,?_⟩,fun ht=>ht.1⟩⟩
  have : t = mb0.2.data.toList:=by simpa [bl] using ht
  rw [this]
  exact (mErr_zero sm_mb).2
theorem sm_latA (g : Nat) : latV (smQ g) ma0.1 = ma1.2:=(latV_of (sm_keptA g)).symm.trans rfl
theorem sm_latB (g : Nat) : latV (smQ g) mb0.1 = mb0.2:=(latV_of (sm_keptB g)).symm.trans rfl
theorem sm_up0 {w : World} {v : Value} {g : Nat} (I : Ixs w v (smQ g) smL) : bX (smQ g) smL [ma0] = [ma0]:=bX_of I (sm_chkG3 g) rch0 jn0
theorem sm_up1 {w : World} {v : Value} {g : Nat} (I : Ixs w v (smQ g) smL) : upF (smQ g) smL [ma0] = [ma1,mb0]:=by
  have e : [ma0] ++ latL (smQ g) [ma0] = [ma0,ma1]:=by
    show [ma0,(ma0.1,latV (smQ g) ma0.1)] = [ma0,ma1]
    rw [sm_latA]; rfl
  unfold upF
  rw [e]
  exact bX_of I (sm_chkG2 g) rch1 sm_jn
theorem sm_up2 {w : World} {v : Value} {g : Nat} (I : Ixs w v (smQ g) smL) : upF (smQ g) smL [ma1,mb0] = [ma1,mb0]:=by
  have e : [ma1,mb0] ++ latL (smQ g) [ma1,mb0] = [ma1,mb0,ma1,mb0]:=by
    show [ma1,mb0,(ma1.1,latV (smQ g) ma0.1),(mb0.1,latV (smQ g) mb0.1)] = [ma1,mb0,ma1,mb0]
    rw [sm_latA,sm_latB]
  unfold upF
  rw [e]
  exact bX_of I (sm_chkG4 g) rch2 jn2
theorem sm_fix {w : World} {v : Value} {g : Nat} (I : Ixs w v (smQ g) smL) : Fix (smQ g) smL (bX (smQ g) smL [ma0]) [ma1,mb0]:=
  ⟨⟨1,by show [ma1,mb0] = upF (smQ g) smL (bX (smQ g) smL [ma0]); rw [sm_up0 I,sm_up1 I]⟩,sm_up2 I⟩
theorem sm_sz (g : Nat) : ∀ r,r ∈ smQ g -> r.1.1.size <= 80 /\ r.1.2.size <= 80:=fun r hr=>by
  have : r = (ma0,.slice none 0 0,.slice none 0 0,false) \/ r = (ma1,.slice (some ⟨g,0,none⟩) 1 1,.slice none 0 0,false) \/ r = (mb0,.slice none 0 0,.slice none 0 0,false):=by simpa [smQ] using hr
  rcases this with rfl | rfl | rfl
  · exact ⟨show ma0.1.size <= 80 by decide,show ma0.2.size <= 80 by decide⟩
  · exact ⟨show ma1.1.size <= 80 by decide,show ma1.2.size <= 80 by decide⟩
  · exact ⟨show mb0.1.size <= 80 by decide,show mb0.2.size <= 80 by decide⟩
set_option maxRecDepth 100000 in
set_option maxHeartbeats 4000000 in
theorem upped_any (A : Nat -> Addr) (m : Int) (w : World) (S : Te w A m) (htab : Lib.TabIs Tryz.prog w powName .u64 Lib.pow10Tab) : Calls Tryz.prog 39 #[] w fun e w'=>e = .returned (.bool true) /\ Below w.heap.size w w':=by
  have HSM:=hid smallI_any
  have HS:=hid S
  have HT:=hid htab
  clear S htab
  go_enter Tryz.func39,Tryz.ntmps39
  go_wp2_with fail
  refine (HSM.out w).mono ?_
  rintro e w1 ⟨g,q,rfl,hix,hb⟩
  have hBa:=(Below.refl w1.heap.size w1).alloc (Nat.le_refl _) (.cells #[.string ⟨#[97]⟩,.string ⟨#[118,49,46,48,46,48]⟩] 25)
  have hB1:=hb.trans (hBa.mono hb.size)
  have hms : MsAt (w1.alloc (.cells #[.string ⟨#[97]⟩,.string ⟨#[118,49,46,48,46,48]⟩] 25)) (.slice (some ⟨w1.heap.size,0,none⟩) 1 1) [ma0]:=ms_single (x:=ma0) (heap_new w1 _)
  have HAL:=hid (all_good (smQ g) smL [ma0] _ _ A m _ (by decide) (by decide) (sm_sz g) sm_sh (HS.out.below hB1) (tab_below HT.out hB1) (hix.below hBa) hms (sm_chkG3 g))
  have HFX:=hid (sm_fix hix)
  have HB1:=hid hB1
  clear hix hb hBa hms hB1
  go_wp2_with fail
  refine HAL.out.mono ?_
  rintro e w2 ⟨ua,uc,E,rfl,hM,hR⟩
  have hE:=hR.fx.one HFX.out
  subst hE
  have HB2:=hid (HB1.out.trans (hM.1.mono HB1.out.size))
  obtain ⟨_,ua',uc',he,huc,hk⟩:=hM
  injection he with he1 he2 he3
  subst he1 he3
  obtain ⟨ug,rfl,hmw⟩ : ∃ g,ua = some ⟨g,0,none⟩ /\ Mw _ w2 g [ma1,mb0]:=by
    rcases hk with ⟨h,_⟩ | h
    · cases h
    · exact h
  have k1 : w2.cell? ⟨ug,1,none⟩ = some (.string ⟨#[118,49,46,49,46,48]⟩):=hmw.c1 0 (by decide)
  have s1 : ((⟨#[118,49,46,49,46,48]⟩ : ByteArray).toList == (⟨#[118,49,46,49,46,48]⟩ : ByteArray).toList) = true:=by simp
  rw [show ([ma1,mb0] : List Bm).length = 2 from rfl]
  clear hR hk hmw HAL he2 huc HFX
  go_wp2_with fail
  go_ret
  exact ⟨rfl,HB2.out⟩
theorem newsL_none {Q : List Raw} {E : List Bm} (h : ∀ m,m ∈ E -> lessB (vb m) (latV Q m.1).data.toList = false) : newsL Q E = []:=by
  unfold newsL
  rw [List.filter_eq_nil_iff.2 (fun m hm=>by rw [h m hm]; simp)]; rfl
theorem okI_L30 {L : List Ent} (h : okI L = true) : L.length <= 101:=by rcases (okI_iff h).1 with h | h <;> omega
theorem errA5 (A : Nat -> Addr) : errA A 5 = .iface 319 (.pointer (some (A 4))):=rfl
set_option maxRecDepth 100000 in
set_option maxHeartbeats 8000000 in
theorem un_main (Q0 : List Raw) (L : List Ent) (roots : List Bm) (x : Bm) (v u : Value) (A : Nat -> Addr) (m : Int) (w : World) (S : Te w A m) (htab : Lib.TabIs Tryz.prog w powName .u64 Lib.pow10Tab) (I : Ixs w v Q0 L) (em : EmI Q0 L) (hr : MsAt w u roots) (her : Em u roots) (hok : okI L = true) (hrk : okLN 15 roots = true) (hx1 : x.1.size <= 70) (hx2 : x.2.size <= 60) :
    Calls Tryz.prog 8 #[v,u,.agg #[.string x.1,.string x.2]] w fun e w'=>e = .returned (.bool true) /\ Below w.heap.size w w':=by
  obtain ⟨xp,xq⟩:=x
  simp only at hx1 hx2 ⊢
  obtain ⟨a0,c0,hv0,-⟩:=id I.es
  subst hv0
  obtain ⟨ra,rc,hu0,-⟩:=id hr
  subst hu0
  have hn101 : L.length <= 101:=okI_L30 hok
  have hr15 : roots.length <= 15:=(okLN_iff hrk).1
  have HB0:=hid ((Below.refl w.heap.size w).alloc (Nat.le_refl _) (.cells #[.string xp,.string xq] 25))
  have HM0:=hid (heap_new w (.cells #[.string xp,.string xq] 25))
  have HIN:=hid (upped_any A m _ (S.below HB0.out) (tab_below htab HB0.out))
  have HLO:=hid (fun W (h : Below w.heap.size w W)=>longI_any Q0 L _ W (I.below h))
  rw [if_pos hok] at HLO
  have HLM:=hid (fun W (h : Below w.heap.size w W)=>longN_any 15 (by decide) roots _ W (hr.below h))
  rw [if_pos hrk] at HLM
  have HOW:=hid (fun W (h : Below w.heap.size w W)=>ownI_any Q0 L _ W (by omega) (I.below h) em (okI_fits hok))
  have HOM:=hid (fun W (h : Below w.heap.size w W)=>ownM_any _ roots W (by omega) (hr.below h) her)
  have HFO:=hid (fun W (h : Below w.heap.size w W)=>findOf_allJ Q0 (xp,xq) _ W (by rw [I.ln]; omega) (I.below h).es)
  have HS:=hid (fun W (h : Below w.heap.size w W)=>S.below h)
  have HT:=hid (fun W (h : Below w.heap.size w W)=>tab_below htab h)
  have HSH:=hid (okI_sh hok)
  have HU0:=hid I
  have HZ0:=hid (fun W v' Q' (J : Ixs W v' Q' L)=>ixs_sz J hok)
  have hl1 : (xp.size : Int) <= 70:=by omega
  have hl2 : (xq.size : Int) <= 60:=by omega
  have HXZ:=hid (show xq.size < 999999 by omega)
  clear S I em hok hr her hrk htab
  go_enter Tryz.func8,Tryz.ntmps8
  go_wp2_with fail
  refine HIN.out.mono ?_
  rintro e w1 ⟨rfl,hb⟩
  have HB1:=hid (HB0.out.trans (hb.mono HB0.out.size))
  have HM1:=hid ((hb.block _ (lt_of_blk HM0.out)).trans HM0.out)
  clear hb
  go_wp2_with fail
  refine (HLO.out w1 HB1.out).mono ?_
  rintro e w2 ⟨rfl,hb⟩
  have HB2:=hid (HB1.out.trans (hb.mono HB1.out.size))
  have HM2:=hid ((hb.block _ (lt_of_blk HM1.out)).trans HM1.out)
  clear hb
  go_wp2_with fail
  refine (HLM.out w2 HB2.out).mono ?_
  rintro e w2' ⟨rfl,rfl⟩
  obtain ⟨p0,p1,pf⟩:=box2J HM2.out
  go_wp2_with fail
  refine (HOW.out w2' HB2.out).mono ?_
  rintro e w3 ⟨ou,Q,rfl,hO,hb⟩
  have HB3:=hid (HB2.out.trans (hb.mono HB2.out.size))
  have HM3:=hid ((hb.block _ (lt_of_blk HM2.out)).trans HM2.out)
  have HIX:=hid (fun W (h : Below w3.heap.size w3 W)=>hO.ixs.below h)
  have HI3:=hid hO.ixs
  have HZQ:=hid (HZ0.out _ _ _ hO.ixs)
  obtain ⟨oa,oc,hou,-⟩:=id hO.ixs.es
  subst hou
  have HBW:=hid (fun W (h : Below w3.heap.size w3 W)=>HB3.out.trans (h.mono HB3.out.size))
  have HUS:=hid (fun (R : List Bm) (h : ∀ y,y ∈ R -> y ∈ univ L) (y : Bm) (hy : y ∈ R)=>(univ_szJ HSH.out (h y hy)).2)
  have HUN:=hid (fun (X E : List Bm) (a b : Value) W (h : Below w3.heap.size w3 W) (lX : X.length <= 1000) (lE : E.length <= 1000) (sX : ∀ y,y ∈ X -> y.2.size < 999999) (sE : ∀ y,y ∈ E -> y.2.size < 999999) (hX : MsAt W a X) (hE : MsAt W b E)=>und_any X E a b A m W (by omega) (by omega) sX sE (HS.out W (HBW.out W h)) hX hE)
  clear hb hO p0 p1 pf HLO HLM HOW HIN HB1 HB2 HM0 HM1 HM2
  have HB3':=HB3
  clear HB3
  have HB3:=hid (Below.refl w3.heap.size w3)
  go_wp2_with fail
  refine (HOM.out w3 (HBW.out _ HB3.out)).mono ?_
  rintro e w4 ⟨u4,rfl,ho,-,hb⟩
  have HB4:=hid (HB3.out.trans (hb.mono HB3.out.size))
  have HR4:=hid (mr_own ho hb)
  have HM4:=hid ((hb.block _ (lt_of_blk HM3.out)).trans HM3.out)
  obtain ⟨a4,c4,hu4⟩:=HR4.out.sl
  subst hu4
  clear ho hb
  by_cases hca : (chkG Q L roots).1 = 0
  rotate_left
  · have HBU:=hid (build_bad Q L roots _ _ A m w4 (by omega) (by omega) HSH.out (HS.out _ (HBW.out _ HB4.out)) (HIX.out _ HB4.out) HR4.out.ms hca)
    clear hca
    go_wp2_with fail
    refine HBU.out.mono ?_
    rintro e w5 ⟨T,ea,rfl,-,hb⟩
    have HB5:=hid (HBW.out _ (HB4.out.trans (hb.mono HB4.out.size)))
    clear hb HBU
    go_wp2_with fail
    go_ret
    exact ⟨rfl,HB5.out⟩
  have HCA:=hid hca
  have HCK:=hid (chkG_chk hca)
  have HBU:=hid (build_all Q L roots _ _ A m w4 (by omega) (by omega) HSH.out (HS.out _ (HBW.out _ HB4.out)) (HIX.out _ HB4.out) HR4.out.ms)
  rw [rF_good hca] at HBU
  have HAL:=hid (fun (R : List Bm) W a (h : Below w3.heap.size w3 W) (lR : R.length <= 1000) (hR : MsAt W a R) (hg : (chkG Q L R).1 = 0)=>all_good Q L R _ a A m W (by omega) (by omega) HZQ.out HSH.out (HS.out _ (HBW.out _ h)) (HT.out _ (HBW.out _ h)) (HIX.out _ h) hR hg)
  have HNW:=hid (fun (E : List Bm) W a (h : Below w3.heap.size w3 W) (lE : E.length <= 1000) (sE : ∀ y,y ∈ E -> y.2.size < 999999) (hE : MsAt W a E) (h1 : risB2 E = true)=>news_good Q L E _ a A m W (by omega) lE HZQ.out sE HSH.out (HS.out _ (HBW.out _ h)) (HT.out _ (HBW.out _ h)) (HIX.out _ h) hE HCK.out h1)
  have HXU:=hid (show ∀ y,y ∈ bX Q L roots -> y ∈ univ L from bX_univ)
  have HXL:=hid (show (bX Q L roots).length <= 1000 from Nat.le_trans bX_len (by omega))
  have HZO:=hid (fun (hx : (xp,xq) ∈ univ L)=>show undB (bX Q L roots) (bX Q L (roots ++ [(xp,xq)])) = true /\ undB [(xp,xq)] (bX Q L (roots ++ [(xp,xq)])) = true by
    have hg : (chkG Q L (roots ++ [(xp,xq)])).1 = 0:=chkG_in HI3.out HCK.out fun y hy=>by
      rcases List.mem_append.1 hy with h | h
      · exact (rgt_of HI3.out HCA.out).r y h
      · rw [List.mem_singleton.1 h]; exact hx
    exact ⟨bX_over HI3.out hg fun y hy=>(bX_in HI3.out HCA.out hy).mono fun _ h=>List.mem_append_left _ h,bX_over HI3.out hg fun y hy=>.root (List.mem_append_right _ hy)⟩)
  have HONE:=hid (fun W a (h : Below w3.heap.size w3 W) (hR : MsAt W a roots) (eR : Em a roots) (hx : (xp,xq) ∈ univ L)=>one_good Q L roots (xp,xq) _ a A m W (by omega) (by omega) HSH.out (HS.out _ (HBW.out _ h)) (HIX.out _ h) hR eR HCA.out hx)
  have HONN:=hid (fun W a (h : Below w3.heap.size w3 W) (hR : MsAt W a roots) (hx : ¬ (xp,xq) ∈ univ L)=>one_not Q L roots (xp,xq) _ a A m W (by omega) (by omega) HSH.out (HS.out _ (HBW.out _ h)) (HIX.out _ h) hR HCA.out hx)
  have HZU:=hid (show ∀ y,y ∈ bX Q L (roots ++ [(xp,xq)]) -> y ∈ univ L from bX_univ)
  have HZL:=hid (show (bX Q L (roots ++ [(xp,xq)])).length <= 1000 from Nat.le_trans bX_len (by omega))
  have HEP:=hid (fun E (hA : AllR Q L roots E)=>show newsL Q E = [] /\ (chkG Q L E).1 = 0 /\ (∀ F,AllR Q L E F -> F = E) /\ risB2 E = true /\ undB (bX Q L roots) E = true from ⟨newsL_none (up_news HI3.out HCK.out hA.sl hA.la hA.fx.f),chkG_in HI3.out HCK.out hA.sl.un,fun F hF=>by
    have h:=hF.fx
    rw [up_again HI3.out HCK.out hA.sl hA.la hA.fx.f] at h
    exact h.one (Fix.self hA.fx.f),risB2_iff.2 hA.sl.ri,hA.ov⟩)
  have HEL:=hid (fun E (hA : AllR Q L roots E)=>show E.length <= 1000 by
    have h:=hA.fx.f
    have h2 : (upF Q L E).length <= L.length:=bX_len
    rw [h] at h2; omega)
  clear hca
  generalize bX Q L roots = X at *
  go_wp2_with fail
  refine HBU.out.mono ?_
  rintro e w5 ⟨xa,xc,y5,rfl,hm5,he5⟩
  have he5 : y5 = .nilIface:=he5
  subst he5
  have HB5:=hid (HB4.out.trans (hm5.1.mono HB4.out.size))
  have HM5:=hid ((hm5.1.block _ (lt_of_blk HM4.out)).trans HM4.out)
  have HMX5:=hid (hm5.ms)
  clear hm5 HBU HB4 HM4 HR4
  go_wp2_with fail
  refine (HOM.out w5 (HBW.out _ HB5.out)).mono ?_
  rintro e w6 ⟨u6,rfl,ho,-,hb⟩
  have HB6:=hid (HB5.out.trans (hb.mono HB5.out.size))
  have HR6:=hid (mr_own ho hb)
  have HM6:=hid ((hb.block _ (lt_of_blk HM5.out)).trans HM5.out)
  obtain ⟨a6,c6,hu6⟩:=HR6.out.sl
  subst hu6
  have HMX6:=hid (HMX5.out.below hb)
  clear ho hb
  have HAE:=hid (HAL.out roots w6 _ HB6.out (by omega) HR6.out.ms HCA.out)
  clear HB5 HM5 HMX5
  go_wp2_with fail
  refine HAE.out.mono ?_
  rintro e w7 ⟨ya,yc,E,rfl,hm7,hA⟩
  have HB7:=hid (HB6.out.trans (hm7.1.mono HB6.out.size))
  have HM7:=hid ((hm7.1.block _ (lt_of_blk HM6.out)).trans HM6.out)
  have HMX7:=hid (HMX6.out.below hm7.1)
  have HMY7:=hid (hm7.ms)
  have HEE:=hid (HEP.out E hA)
  have HEZ:=hid (HEL.out E hA)
  have HEU:=hid (hA.sl.un)
  obtain ⟨hnw,hcE,hone,hri,hov⟩:=HEE.out
  have HN1:=hid hnw
  have HCE:=hid hcE
  have HON:=hid hone
  have HUE:=hid (HUN.out X E _ _ w7 HB7.out HXL.out HEZ.out (HUS.out X HXU.out) (HUS.out E HEU.out) HMX7.out HMY7.out)
  rw [hov] at HUE
  have HRI:=hid hri
  clear hm7 hA HEE hnw hcE hone hri hov HAE HB6 HM6 HR6 HMX6
  go_wp2_with fail
  refine HUE.out.mono ?_
  rintro e w8 ⟨rfl,hb⟩
  have HB8:=hid (HB7.out.trans (hb.mono HB7.out.size))
  have HM8:=hid ((hb.block _ (lt_of_blk HM7.out)).trans HM7.out)
  have HMX8:=hid (HMX7.out.below hb)
  have HMY8:=hid (HMY7.out.below hb)
  have HNE:=hid (HNW.out E w8 _ HB8.out HEZ.out (HUS.out E HEU.out) HMY8.out HRI.out)
  rw [HN1.out] at HNE
  clear hb HB7 HM7 HMX7 HMY7 HUE HNW
  go_wp2_with fail
  refine HNE.out.mono ?_
  rintro e w9 ⟨nu,rfl,hno,hb⟩
  have HB9:=hid (HB8.out.trans (hb.mono HB8.out.size))
  have HM9:=hid ((hb.block _ (lt_of_blk HM8.out)).trans HM8.out)
  have HMX9:=hid (HMX8.out.below hb)
  have HMY9:=hid (HMY8.out.below hb)
  obtain ⟨na,nc,hnu⟩:=own_slN hno
  subst hnu
  rw [show ([] : List Bm).length = 0 from rfl]
  have HAF:=hid (HAL.out E w9 _ HB9.out HEZ.out HMY9.out HCE.out)
  clear hb hno HB8 HM8 HMX8 HMY8 HNE HAL
  go_wp2_with fail
  refine HAF.out.mono ?_
  rintro e w10 ⟨fa,fc,F,rfl,hm10,hA⟩
  have hF:=HON.out F hA
  subst hF
  have HB10:=hid (HB9.out.trans (hm10.1.mono HB9.out.size))
  have HM10:=hid ((hm10.1.block _ (lt_of_blk HM9.out)).trans HM9.out)
  have HMX10:=hid (HMX9.out.below hm10.1)
  have HMY10:=hid (HMY9.out.below hm10.1)
  have HSA:=hid (sameM_any F _ _ w10 (Nat.le_trans HEZ.out (by decide)) hm10.ms (HMY9.out.below hm10.1))
  clear hm10 hA HON HB9 HM9 HMX9 HMY9 HAF
  go_wp2_with fail
  refine HSA.out.mono ?_
  rintro e w11 ⟨rfl,hb⟩
  have HB11:=hid (HB10.out.trans (hb.mono HB10.out.size))
  have HM11:=hid ((hb.block _ (lt_of_blk HM10.out)).trans HM10.out)
  have HMX11:=hid (HMX10.out.below hb)
  clear hb HB10 HM10 HMX10 HMY10 HSA
  go_wp2_with fail
  obtain ⟨q0,q1,qf⟩:=box2J HM11.out
  have HTT:=hid (fun W' (hW : Below w11.heap.size w11 W')=>(show (fun W'=>W'.cell? ⟨w.heap.size,0,none⟩ = some (.string xp) /\ W'.cell? ⟨w.heap.size,1,none⟩ = some (.string xq) /\ Hid (Below w11.heap.size w11 W')) W' from ⟨cell_below hW q0,cell_below hW q1,hid hW⟩))
  have HW1:=hid (fun W' (hW : Below w11.heap.size w11 W')=>HB11.out.trans (hW.mono HB11.out.size))
  by_cases hx : (xp,xq) ∈ univ L
  · have HXX:=hid hx
    obtain ⟨ho1,ho2⟩:=HZO.out hx
    have HO1:=hid ho1
    have HO2:=hid ho2
    clear hx ho1 ho2 HONN HZO
    generalize bX Q L (roots ++ [(xp,xq)]) = Z at *
    go_region_held (fun W'=>W'.cell? ⟨w.heap.size,0,none⟩ = some (.string xp) /\ W'.cell? ⟨w.heap.size,1,none⟩ = some (.string xq) /\ Hid (Below w11.heap.size w11 W')) (first | exact HTT.out _ HRb.out | exact HTT.out _ HRa.out | exact HTT.out _ (below_drawn _ 1)) (first
      | (go_at_call 19; refine (HOM.out _ (HBW.out _ (HW1.out _ (below_drawn _ 1)))).mono ?_; rintro e w12 ⟨u12,rfl,ho,-,hb⟩; have HRa:=hid ((below_drawn w11 1).trans (hb.mono (Nat.le_refl _))); have HR12:=hid (mr_own ho hb); obtain ⟨a12,c12,hu12⟩:=HR12.out.sl; subst hu12; clear ho hb)
      | (go_at_call 42; refine (HONE.out w12 _ (HW1.out _ HRa.out) HR12.out.ms HR12.out.em HXX.out).mono ?_; rintro e w13 ⟨za,zc,rfl,hm13⟩; have HRb:=hid (HRa.out.trans (hm13.1.mono HRa.out.size)); have HMZ13:=hid hm13.ms; clear hm13))
    all_goals
      have HB13:=hid (HW1.out _ HRb.out)
      have HM13:=hid ((HRb.out.block _ (lt_of_blk HM11.out)).trans HM11.out)
      have HMX13:=hid (HMX11.out.below HRb.out)
      have HUX:=hid (HUN.out X Z _ _ w13 HB13.out HXL.out HZL.out (HUS.out X HXU.out) (HUS.out Z HZU.out) HMX13.out HMZ13.out)
      rw [HO1.out] at HUX
      clear q0 q1 qf
      go_wp2_with fail
      refine HUX.out.mono ?_
      rintro e w14 ⟨rfl,hb⟩
      have HB14:=hid (HB13.out.trans (hb.mono HB13.out.size))
      have HM14:=hid ((hb.block _ (lt_of_blk HM13.out)).trans HM13.out)
      have HMZ14:=hid (HMZ13.out.below hb)
      obtain ⟨q0,q1,qf⟩:=box2J HM14.out
      have HA15:=hid ((Below.refl w14.heap.size w14).alloc (Nat.le_refl _) (.cells #[.string xp,.string xq] 25))
      have HN15:=hid (heap_new w14 (.cells #[.string xp,.string xq] 25))
      clear hb HB13 HM13 HMX13 HMZ13 HUX
      go_wp2_with fail
      generalize w14.alloc (.cells #[.string xp,.string xq] 25) = w15 at *
      have HB15:=hid (HB14.out.trans (HA15.out.mono HB14.out.size))
      have HUY:=hid (HUN.out [(xp,xq)] Z _ _ w15 HB15.out (by simp) HZL.out (fun y hy=>by rw [List.mem_singleton.1 hy]; exact HXZ.out) (HUS.out Z HZU.out) (ms_single (x:=(xp,xq)) HN15.out) (HMZ14.out.below HA15.out))
      rw [HO2.out] at HUY
      refine HUY.out.mono ?_
      rintro e w16 ⟨rfl,hb⟩
      have HB16:=hid (HBW.out _ (HB15.out.trans (hb.mono HB15.out.size)))
      clear hb
      go_wp2_with fail
      go_ret
      exact ⟨rfl,HB16.out⟩
  · have HXX:=hid hx
    obtain ⟨k,hk,hkn⟩ : ∃ k,idxOf (isM (xp,xq)) Q0 = k /\ k < 0:=by
      rcases idx_nat (isM (xp,xq)) Q0 with h1 | ⟨k,h1⟩
      · exact ⟨_,h1,by omega⟩
      · exact absurd ((found_iff HU0.out (xp,xq)).2 ⟨k,h1⟩) hx
    rw [hk] at HFO
    rw [errA5] at HONN
    clear hx hk HONE HZO
    go_region_held (fun W'=>W'.cell? ⟨w.heap.size,0,none⟩ = some (.string xp) /\ W'.cell? ⟨w.heap.size,1,none⟩ = some (.string xq) /\ Hid (Below w11.heap.size w11 W')) (first | exact HTT.out _ HRb.out | exact HTT.out _ HRa.out | exact HTT.out _ (below_drawn _ 1)) (first
      | (go_at_call 19; refine (HOM.out _ (HBW.out _ (HW1.out _ (below_drawn _ 1)))).mono ?_; rintro e w12 ⟨u12,rfl,ho,-,hb⟩; have HRa:=hid ((below_drawn w11 1).trans (hb.mono (Nat.le_refl _))); have HR12:=hid (mr_own ho hb); obtain ⟨a12,c12,hu12⟩:=HR12.out.sl; subst hu12; clear ho hb)
      | (go_at_call 42; refine (HONN.out w12 _ (HW1.out _ HRa.out) HR12.out.ms HXX.out).mono ?_; rintro e w13 ⟨rfl,hb⟩; have HRb:=hid (HRa.out.trans (hb.mono HRa.out.size)); clear hb))
    all_goals
      have HB13:=hid (HW1.out _ HRb.out)
      have HM13:=hid ((HRb.out.block _ (lt_of_blk HM11.out)).trans HM11.out)
      clear q0 q1 qf
      obtain ⟨q0,q1,qf⟩:=box2J HM13.out
      go_wp2_with fail
      refine (HFO.out _ (HBW.out _ HB13.out)).mono ?_
      rintro e w14 ⟨rfl,hb⟩
      have HB14:=hid (HBW.out _ (HB13.out.trans (hb.mono HB13.out.size)))
      clear hb
      go_wp2_with fail
      go_ret
      exact ⟨rfl,HB14.out⟩
set_option maxRecDepth 100000 in
set_option maxHeartbeats 2000000 in
theorem un_long1 (Q0 : List Raw) (L : List Ent) (roots : List Bm) (x : Bm) (v u : Value) (A : Nat -> Addr) (m : Int) (w : World) (S : Te w A m) (htab : Lib.TabIs Tryz.prog w powName .u64 Lib.pow10Tab) (I : Ixs w v Q0 L) (hr : MsAt w u roots) (hok : okI L = false) :
    Calls Tryz.prog 8 #[v,u,.agg #[.string x.1,.string x.2]] w fun e w'=>e = .returned (.bool true) /\ Below w.heap.size w w':=by
  obtain ⟨xp,xq⟩:=x
  simp only
  obtain ⟨a0,c0,hv0,-⟩:=id I.es
  subst hv0
  obtain ⟨ra,rc,hu0,-⟩:=id hr
  subst hu0
  have HB0:=hid ((Below.refl w.heap.size w).alloc (Nat.le_refl _) (.cells #[.string xp,.string xq] 25))
  have HM0:=hid (heap_new w (.cells #[.string xp,.string xq] 25))
  have HIN:=hid (upped_any A m _ (S.below HB0.out) (tab_below htab HB0.out))
  have HLO:=hid (fun W (h : Below w.heap.size w W)=>longI_any Q0 L _ W (I.below h))
  rw [hok] at HLO
  clear S htab I hok hr
  go_enter Tryz.func8,Tryz.ntmps8
  go_wp2_with fail
  refine HIN.out.mono ?_
  rintro e w1 ⟨rfl,hb⟩
  have HB1:=hid (HB0.out.trans (hb.mono HB0.out.size))
  have HM1:=hid ((hb.block _ (lt_of_blk HM0.out)).trans HM0.out)
  clear hb
  go_wp2_with fail
  refine (HLO.out w1 HB1.out).mono ?_
  rintro e w2 ⟨rfl,hb⟩
  have HB2:=hid (HB1.out.trans (hb.mono HB1.out.size))
  have HM2:=hid ((hb.block _ (lt_of_blk HM1.out)).trans HM1.out)
  clear hb
  go_wp2_with fail
  go_ret
  exact ⟨rfl,HB2.out⟩
set_option maxRecDepth 100000 in
set_option maxHeartbeats 2000000 in
theorem un_long2 (Q0 : List Raw) (L : List Ent) (roots : List Bm) (x : Bm) (v u : Value) (A : Nat -> Addr) (m : Int) (w : World) (S : Te w A m) (htab : Lib.TabIs Tryz.prog w powName .u64 Lib.pow10Tab) (I : Ixs w v Q0 L) (hr : MsAt w u roots) (hok : okI L = true) (hrk : okLN 15 roots = false) :
    Calls Tryz.prog 8 #[v,u,.agg #[.string x.1,.string x.2]] w fun e w'=>e = .returned (.bool true) /\ Below w.heap.size w w':=by
  obtain ⟨xp,xq⟩:=x
  simp only
  obtain ⟨a0,c0,hv0,-⟩:=id I.es
  subst hv0
  obtain ⟨ra,rc,hu0,-⟩:=id hr
  subst hu0
  have HB0:=hid ((Below.refl w.heap.size w).alloc (Nat.le_refl _) (.cells #[.string xp,.string xq] 25))
  have HM0:=hid (heap_new w (.cells #[.string xp,.string xq] 25))
  have HIN:=hid (upped_any A m _ (S.below HB0.out) (tab_below htab HB0.out))
  have HLO:=hid (fun W (h : Below w.heap.size w W)=>longI_any Q0 L _ W (I.below h))
  rw [if_pos hok] at HLO
  have HLM:=hid (fun W (h : Below w.heap.size w W)=>longN_any 15 (by decide) roots _ W (hr.below h))
  rw [hrk] at HLM
  clear S htab I hok hr hrk
  go_enter Tryz.func8,Tryz.ntmps8
  go_wp2_with fail
  refine HIN.out.mono ?_
  rintro e w1 ⟨rfl,hb⟩
  have HB1:=hid (HB0.out.trans (hb.mono HB0.out.size))
  have HM1:=hid ((hb.block _ (lt_of_blk HM0.out)).trans HM0.out)
  clear hb
  go_wp2_with fail
  refine (HLO.out w1 HB1.out).mono ?_
  rintro e w2 ⟨rfl,hb⟩
  have HB2:=hid (HB1.out.trans (hb.mono HB1.out.size))
  have HM2:=hid ((hb.block _ (lt_of_blk HM1.out)).trans HM1.out)
  clear hb
  go_wp2_with fail
  refine (HLM.out w2 HB2.out).mono ?_
  rintro e w2' ⟨rfl,rfl⟩
  go_wp2_with fail
  go_ret
  exact ⟨rfl,HB2.out⟩
set_option maxRecDepth 100000 in
set_option maxHeartbeats 2000000 in
theorem un_long3 (Q0 : List Raw) (L : List Ent) (roots : List Bm) (x : Bm) (v u : Value) (A : Nat -> Addr) (m : Int) (w : World) (S : Te w A m) (htab : Lib.TabIs Tryz.prog w powName .u64 Lib.pow10Tab) (I : Ixs w v Q0 L) (hr : MsAt w u roots) (hok : okI L = true) (hrk : okLN 15 roots = true) (hx1 : ¬ x.1.size <= 70) :
    Calls Tryz.prog 8 #[v,u,.agg #[.string x.1,.string x.2]] w fun e w'=>e = .returned (.bool true) /\ Below w.heap.size w w':=by
  obtain ⟨xp,xq⟩:=x
  simp only at hx1 ⊢
  obtain ⟨a0,c0,hv0,-⟩:=id I.es
  subst hv0
  obtain ⟨ra,rc,hu0,-⟩:=id hr
  subst hu0
  have HB0:=hid ((Below.refl w.heap.size w).alloc (Nat.le_refl _) (.cells #[.string xp,.string xq] 25))
  have HM0:=hid (heap_new w (.cells #[.string xp,.string xq] 25))
  have HIN:=hid (upped_any A m _ (S.below HB0.out) (tab_below htab HB0.out))
  have HLO:=hid (fun W (h : Below w.heap.size w W)=>longI_any Q0 L _ W (I.below h))
  rw [if_pos hok] at HLO
  have HLM:=hid (fun W (h : Below w.heap.size w W)=>longN_any 15 (by decide) roots _ W (hr.below h))
  rw [if_pos hrk] at HLM
  have hl1 : ¬ (xp.size : Int) <= 70:=by omega
  have hl1' : (70 : Int) < (xp.size : Int):=by omega
  clear S htab I hok hr hrk
  go_enter Tryz.func8,Tryz.ntmps8
  go_wp2_with fail
  refine HIN.out.mono ?_
  rintro e w1 ⟨rfl,hb⟩
  have HB1:=hid (HB0.out.trans (hb.mono HB0.out.size))
  have HM1:=hid ((hb.block _ (lt_of_blk HM0.out)).trans HM0.out)
  clear hb
  go_wp2_with fail
  refine (HLO.out w1 HB1.out).mono ?_
  rintro e w2 ⟨rfl,hb⟩
  have HB2:=hid (HB1.out.trans (hb.mono HB1.out.size))
  have HM2:=hid ((hb.block _ (lt_of_blk HM1.out)).trans HM1.out)
  clear hb
  go_wp2_with fail
  refine (HLM.out w2 HB2.out).mono ?_
  rintro e w2' ⟨rfl,rfl⟩
  obtain ⟨p0,p1,pf⟩:=box2J HM2.out
  go_wp2_with fail
  go_ret
  exact ⟨rfl,HB2.out⟩
set_option maxRecDepth 100000 in
set_option maxHeartbeats 2000000 in
theorem un_long4 (Q0 : List Raw) (L : List Ent) (roots : List Bm) (x : Bm) (v u : Value) (A : Nat -> Addr) (m : Int) (w : World) (S : Te w A m) (htab : Lib.TabIs Tryz.prog w powName .u64 Lib.pow10Tab) (I : Ixs w v Q0 L) (hr : MsAt w u roots) (hok : okI L = true) (hrk : okLN 15 roots = true) (hx1 : x.1.size <= 70) (hx2 : ¬ x.2.size <= 60) :
    Calls Tryz.prog 8 #[v,u,.agg #[.string x.1,.string x.2]] w fun e w'=>e = .returned (.bool true) /\ Below w.heap.size w w':=by
  obtain ⟨xp,xq⟩:=x
  simp only at hx1 hx2 ⊢
  obtain ⟨a0,c0,hv0,-⟩:=id I.es
  subst hv0
  obtain ⟨ra,rc,hu0,-⟩:=id hr
  subst hu0
  have HB0:=hid ((Below.refl w.heap.size w).alloc (Nat.le_refl _) (.cells #[.string xp,.string xq] 25))
  have HM0:=hid (heap_new w (.cells #[.string xp,.string xq] 25))
  have HIN:=hid (upped_any A m _ (S.below HB0.out) (tab_below htab HB0.out))
  have HLO:=hid (fun W (h : Below w.heap.size w W)=>longI_any Q0 L _ W (I.below h))
  rw [if_pos hok] at HLO
  have HLM:=hid (fun W (h : Below w.heap.size w W)=>longN_any 15 (by decide) roots _ W (hr.below h))
  rw [if_pos hrk] at HLM
  have hl1 : (xp.size : Int) <= 70:=by omega
  have hl2 : ¬ (xq.size : Int) <= 60:=by omega
  have hl2' : (60 : Int) < (xq.size : Int):=by omega
  clear S htab I hok hr hrk
  go_enter Tryz.func8,Tryz.ntmps8
  go_wp2_with fail
  refine HIN.out.mono ?_
  rintro e w1 ⟨rfl,hb⟩
  have HB1:=hid (HB0.out.trans (hb.mono HB0.out.size))
  have HM1:=hid ((hb.block _ (lt_of_blk HM0.out)).trans HM0.out)
  clear hb
  go_wp2_with fail
  refine (HLO.out w1 HB1.out).mono ?_
  rintro e w2 ⟨rfl,hb⟩
  have HB2:=hid (HB1.out.trans (hb.mono HB1.out.size))
  have HM2:=hid ((hb.block _ (lt_of_blk HM1.out)).trans HM1.out)
  clear hb
  go_wp2_with fail
  refine (HLM.out w2 HB2.out).mono ?_
  rintro e w2' ⟨rfl,rfl⟩
  obtain ⟨p0,p1,pf⟩:=box2J HM2.out
  go_wp2_with fail
  go_ret
  exact ⟨rfl,HB2.out⟩
theorem upNews_any (Q0 : List Raw) (L : List Ent) (roots : List Bm) (x : Bm) (v u : Value) (A : Nat → Addr) (m : Int) (w : World) (S : Te w A m) (htab : Lib.TabIs Tryz.prog w powName .u64 Lib.pow10Tab) (I : Ixs w v Q0 L) (em : EmI Q0 L) (hr : MsAt w u roots) (her : Em u roots) :
    Calls Tryz.prog 8 #[v,u,.agg #[.string x.1,.string x.2]] w fun e w'=>e = .returned (.bool true) /\ Below w.heap.size w w':=by
  cases hok : okI L with
  | false=>exact un_long1 Q0 L roots x v u A m w S htab I hr hok
  | true=>
    cases hrk : okLN 15 roots with
    | false=>exact un_long2 Q0 L roots x v u A m w S htab I hr hok hrk
    | true=>
      by_cases hx1 : x.1.size <= 70
      · by_cases hx2 : x.2.size <= 60
        · exact un_main Q0 L roots x v u A m w S htab I em hr her hok hrk hx1 hx2
        · exact un_long4 Q0 L roots x v u A m w S htab I hr hok hrk hx1 hx2
      · exact un_long3 Q0 L roots x v u A m w S htab I hr hok hrk hx1
end Ve
end Go.Proofs.YtlcffhadobhfkaaGreatDoor
