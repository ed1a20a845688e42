/-
  GrF GrH GrI GwA GaA MvG MvH MvJ MlP
-/
import Derived.Test.YtlcffhadobhfkaaGreatDoorMq3
import Derived.Test.YtlcffhadobhfkaaGreatDoorMq5
import Derived.Test.YtlcffhadobhfkaaGreatDoorMq6
import Derived.Test.YtlcffhadobhfkaaGreatDoorMq9
import Derived.Test.YtlcffhadobhfkaaGreatDoorMq11
import Derived.Test.YtlcffhadobhfkaaGreatDoorMq2
import Derived.Test.YtlcffhadobhfkaaGreatDoorMq18
import Derived.Test.YtlcffhadobhfkaaGreatDoorMq19
import Derived.Test.YtlcffhadobhfkaaGreatDoorMq20
import Derived.Test.YtlcffhadobhfkaaGreatDoorMq23
import Derived.Test.YtlcffhadobhfkaaGreatDoorMq22
import Derived.Test.YtlcffhadobhfkaaGreatDoorMq34
namespace Go.Proofs.YtlcffhadobhfkaaGreatDoor
open Go.RowKit Go.Maps
namespace Ve
set_option maxRecDepth 100000 in
set_option maxHeartbeats 2000000 in
theorem reached_bad (Q : List Raw) (L : List Ent) (roots : List Bm) (v rv : Value) (A : Nat -> Addr) (m : Int) (w : World) (hn : L.length <= 1000) (hrn : roots.length <= 1000000) (sh : ∀ e,e ∈ L -> ShE e) (S : Te w A m) (I : Ixs w v Q L) (hr : MsAt w rv roots) (h0 : (chkG Q L roots).1 ≠ 0) :
    Calls Tryz.prog 60 #[v,rv] w fun e w'=>∃ T a,e = .returned (.tuple #[.slice none 0 0,.iface T (.pointer (some a))]) /\ ErrAt w' A (.iface T (.pointer (some a))) (chkG Q L roots).1 (chkG Q L roots).2 /\ Below w.heap.size w w':=by
  have HCK:=hid (gcheck_any Q L roots v rv A m w hn hrn sh S I hr)
  obtain ⟨a,c,hv,-⟩:=id I.es
  subst hv
  obtain ⟨ra,rc,hrv,-⟩:=id hr
  subst hrv
  have HH0:=hid h0
  clear S I hr sh h0
  go_enter Tryz.func60,Tryz.ntmps60
  go_wp2_with fail
  refine HCK.out.mono ?_
  rintro e w1 ⟨x,rfl,he,hb⟩
  have HB:=hid hb
  have HE:=hid he
  rcases he.kind with ⟨h,_⟩ | ⟨_,T,xa,rfl⟩
  · exact absurd h HH0.out
  clear hb he HCK
  go_wp2_with fail
  go_ret2
  exact ⟨_,_,rfl,HE.out,HB.out⟩
set_option maxRecDepth 100000 in
set_option maxHeartbeats 2000000 in
theorem reach_bad (Q : List Raw) (L : List Ent) (roots : List Bm) (v rv : Value) (A : Nat -> Addr) (m : Int) (w : World) (hn : L.length <= 1000) (hrn : roots.length <= 1000000) (sh : ∀ e,e ∈ L -> ShE e) (S : Te w A m) (I : Ixs w v Q L) (hr : MsAt w rv roots) (h0 : (chkG Q L roots).1 ≠ 0) :
    Calls Tryz.prog 20 #[v,rv] w fun e w'=>∃ T a,e = .returned (.tuple #[.slice none 0 0,.iface T (.pointer (some a))]) /\ ErrAt w' A (.iface T (.pointer (some a))) (chkG Q L roots).1 (chkG Q L roots).2 /\ Below w.heap.size w w':=by
  have HCK:=hid (reached_bad Q L roots v rv A m w hn hrn sh S I hr h0)
  obtain ⟨a,c,hv,-⟩:=id I.es
  subst hv
  obtain ⟨ra,rc,hrv,-⟩:=id hr
  subst hrv
  clear S I hr sh h0
  go_enter Tryz.func20,Tryz.ntmps20
  go_wp2_with fail
  refine HCK.out.mono ?_
  rintro e w1 ⟨T,xa,rfl,he,hb⟩
  have HB:=hid hb
  have HE:=hid he
  clear hb he HCK
  go_wp2_with fail
  go_ret2
  exact ⟨_,_,rfl,HE.out,HB.out⟩
theorem goM_next {X : List Raw} {k : Nat} (hk : k < X.length) : flatM ((X.take (k + 1)).map fun r=>r.1) = flatM ((X.take k).map fun r=>r.1) ++ [.string X[k].1.1,.string X[k].1.2]:=by
  rw [List.take_succ_eq_append_getElem hk,List.map_append,flatM_app]
  simp [flatM]
theorem rel_app2 {B : Nat} {w wr w2 w3 : World} {e : TypeId} {v : Value} {n : Nat} {xs : List Value} {o : Obj} (hB : B <= wr.heap.size) (hb : Below B w wr) (hown : wr.ownsRow B e 2 v n xs) (hb2 : Below wr.heap.size wr w2)
    (hg : (w2.alloc o).grownBy w3 v.ownBlock) : Below B w w3:=by
  have h2 : Below B w w2:=hb.trans (hb2.mono hB)
  have h3 : Below B w (w2.alloc o):=h2.alloc (Nat.le_trans hB hb2.size) o
  exact h3.grown hg (by simp; exact Nat.le_succ_of_le (Nat.le_trans hB hb2.size)) (fun k hk=>(hown.lt k hk).1)
set_option maxRecDepth 100000 in
set_option maxHeartbeats 2000000 in
theorem reach_good (Q : List Raw) (L : List Ent) (roots : List Bm) (v rv : Value) (A : Nat -> Addr) (m : Int) (w : World) (hn : L.length <= 1000) (hrn : roots.length <= 1000000) (sh : ∀ e,e ∈ L -> ShE e) (S : Te w A m) (I : Ixs w v Q L) (hr : MsAt w rv roots) (h0 : (chkG Q L roots).1 = 0) :
    Calls Tryz.prog 20 #[v,rv] w fun e w'=>∃ u,e = .returned (.tuple #[u,.nilIface]) /\ ∃ T,Came (reqQ Q L) (univ L) roots T /\ w'.ownsRow w.heap.size 25 2 u (goM T Q).length (flatM (goM T Q)) /\ Below w.heap.size w w':=by
  have HRE:=hid (reached_some Q L roots v rv A m w hn hrn sh S I hr h0)
  obtain ⟨a,c,hv,-,hs,-⟩:=id I.es
  subst hv
  obtain ⟨ra,rc,hrv,-⟩:=id hr
  subst hrv
  obtain ⟨i0,hi0,hz0,hz1,hz2⟩:=info_parts infoMod
  have HSL:=hid hs
  have HLN:=hid I.ln
  clear S I hr sh h0 hs
  go_enter Tryz.func20,Tryz.ntmps20
  go_wp2_with fail
  refine HRE.out.mono ?_
  rintro e w1 ⟨u,rfl,T,hcm,hown,hb⟩
  have HCM:=hid hcm
  have HB:=hid hb
  have HES:=hid (show EsAt w1 u (goQ T Q) from own_es (fun r hr=>HSL.out r (List.mem_filter.1 hr).1) hown)
  obtain ⟨ua,uc,hu⟩:=own_slN hown
  subst hu
  have HXL:=hid (show (goQ T Q).length <= 1000 from Nat.le_trans (List.length_filter_le _ _) (by rw [HLN.out]; exact hn))
  have HSX:=hid (show ∀ r,r ∈ goQ T Q -> slR r from fun r hr=>HSL.out r (List.mem_filter.1 hr).1)
  have HGM:=hid (show goM T Q = (goQ T Q).map fun r=>r.1 from rfl)
  clear hcm hb hown HRE HSL
  generalize goQ T Q = X at *
  go_wp2_with fail
  go_loopw [8,22] (fun ov i wr=>∃ k : Nat,k <= X.length /\ i = .int .i64 k /\ Hid (wr.ownsRow w1.heap.size 25 2 ov k (flatM ((X.take k).map fun r=>r.1))) /\ Hid (Below w1.heap.size w1 wr)) (fun _ i _=>X.length - (intOf i).toNat)
  case atStart=>exact ⟨0,Nat.zero_le _,rfl,hid (World.ownsRow_nil _ _ _ _),hid (Below.refl _ _)⟩
  case round=>
    obtain ⟨k,hk,rfl,HO,HBr⟩:=hrel
    by_cases hlt : k < X.length
    · obtain ⟨ua',uc',hue,-,-,hce⟩:=HES.out.below HBr.out
      injection hue with hu1 hu2 hu3
      subst hu1
      subst hu3
      clear hu2
      obtain ⟨eb,eo,ha,hce2⟩:=hce (by intro h; rw [h] at hlt; simp at hlt)
      subst ha
      obtain ⟨x0,x1,x2,x3,x4⟩:=hce2 k hlt
      have hsl:=HSX.out X[k] (List.getElem_mem hlt)
      have hkI : (k : Int) < (X.length : Int):=by omega
      have HLT:=hid hlt
      have HNX:=hid (goM_next hlt)
      clear hce hce2
      generalize X[k] = r at *
      obtain ⟨⟨p,q⟩,rv,pv,bk⟩:=r
      obtain ⟨⟨ra2,rn2,rc2,hrv⟩,pa,pn,pc,hpv⟩:=hsl
      simp only at hrv hpv
      subst hrv
      subst hpv
      have HBa:=hid ((Below.refl wr.heap.size wr).alloc (Nat.le_refl _) (.cells #[.string p,.string q,.slice ra2 rn2 rc2,.slice pa pn pc,.bool bk] 45))
      have HBB:=hid (HBr.out.trans (HBa.out.mono HBr.out.size))
      have HOa:=hid (HO.out.alloc (.cells #[.string p,.string q,.slice ra2 rn2 rc2,.slice pa pn pc,.bool bk] 45))
      have hs1:=HBr.out.size
      clear hlt
      go_wp2_with (at_builtin; refine wpList_append_own _ rfl _ _ 23 rfl w1.heap.size 25 i0 _ 2 32 Tryz.underlying23 hi0 hz0 hz1 hz2 rfl (by decide) _ _ _ rfl (HOa.out.alloc _) ⟨wr.heap.size + 1,0,none⟩ 1 1 [.string p,.string q] rfl rfl ?c1 ?c2 ?c3 ?c4 ?c5 ?_)
      case c2=>first | rfl | exact ⟨rfl,rfl⟩ | (intro u hu; simp at hu; rcases hu with rfl | rfl <;> rfl) | simp
      case c3=>have:=HLT.out; have:=HXL.out; unfold maxLen; omega
      case c4=>have:=HLT.out; have:=HXL.out; omega
      case c5=>first | omega | (simp; omega)
      intro v' w4 hown hgrow _
      have HR3:=hid (rel_app2 HBB.out.size HBB.out HOa.out (Below.refl _ _) hgrow)
      have HO4:=hid hown
      clear hown hgrow
      go_wp2_with fail
      go_roundw
      case rel=>first | exact ⟨k + 1,HLT.out,nr_idx k,hid (by rw [HNX.out,List.map_take]; exact HO4.out),HR3⟩ | exact ⟨k + 1,HLT.out,nx_idx HLT.out (by have:=HXL.out; omega),hid (by rw [HNX.out,List.map_take]; exact HO4.out),HR3⟩
      case measure=>first | exact nr_meas HLT.out | exact nx_meas HLT.out (by have:=HXL.out; omega)
    · have HTR:=hid (show X.take k = X from List.take_of_length_le (by omega))
      have HKE:=hid (show k = X.length by omega)
      rw [HTR.out] at HO
      have hkI : ¬ (k : Int) < (X.length : Int):=by omega
      obtain ⟨oa,oc,hov⟩:=own_slN HO.out
      subst hov
      clear hlt
      go_wp2_with fail
      go_ret2
      exact ⟨_,rfl,T,HCM.out,by rw [HGM.out,List.length_map,<- HKE.out]; exact own_baseN HO.out HB.out.size,HB.out.trans (HBr.out.mono HB.out.size)⟩
structure Rgt (Q : List Raw) (L : List Ent) (roots : List Bm) : Prop where
  c : (chk Q L).1 = 0
  r : ∀ m,m ∈ roots -> m ∈ univ L
theorem rgt_of {w : World} {v : Value} {Q : List Raw} {L : List Ent} {roots : List Bm} (I : Ixs w v Q L) (h0 : (chkG Q L roots).1 = 0) : Rgt Q L roots:=by
  have hc0 : (chk Q L).1 = 0:=by
    by_cases hc : (chk Q L).1 = 0
    · exact hc
    · rw [chkG_bad hc] at h0; exact absurd h0 hc
  exact ⟨hc0,by rw [chkG_ok hc0] at h0; exact nonE_found I h0⟩
structure WayOk (req : Bm -> List Bm) (U roots : List Bm) (x : Bm) (Y : List Bm) : Prop where
  un : ∀ y,y ∈ Y -> y ∈ U
  pos : 0 < Y.length
  first : Y[0]'pos ∈ roots
  last : Y.getLast? = some x
  nd : Y.Nodup
  ch : ∀ a (ha : a + 1 < Y.length),Y[a + 1] ∈ req Y[a]
  ds : Dst req roots x Y.length
structure Wst (w0 W : World) (req : Bm -> List Bm) (T : By) (x : Bm) (mb : Nat) (yv : Value) (k : Nat) (V : List Bm) : Prop where
  bl : Below w0.heap.size w0 W
  wy : Wy req T x k V.reverse
  ln : V.length + k <= T.length
  xc : ∃ h : k < T.length,W.heap[w0.heap.size]? = some (.cells #[.string (T[k]'h).1.1,.string (T[k]'h).1.2] 25 (0,0))
  mp : ByAt W mb T
  row : W.ownsRow (w0.heap.size + 1) 25 2 yv V.length (flatM V)
theorem Wst.below {w0 W W' : World} {req : Bm -> List Bm} {T : By} {x : Bm} {mb : Nat} {yv : Value} {k : Nat} {V : List Bm} (h : Wst w0 W req T x mb yv k V) (hb : Below W.heap.size W W') : Wst w0 W' req T x mb yv k V:=by
  obtain ⟨hk,hc⟩:=h.xc
  exact ⟨h.bl.trans (hb.mono h.bl.size),h.wy,h.ln,⟨hk,(hb.block _ (lt_of_blk hc)).trans hc⟩,h.mp.below hb,owns_below h.row hb⟩
theorem Wst.ok {w0 W : World} {Q : List Raw} {L : List Ent} {roots : List Bm} {T : By} {x : Bm} {mb : Nat} {yv : Value} {k : Nat} {V : List Bm} (h : Wst w0 W (reqQ Q L) T x mb yv k V) (hc : Came (reqQ Q L) (univ L) roots T) (hk : k < T.length) (e : T[k].1 = T[k].2) : WayOk (reqQ Q L) (univ L) roots x V.reverse := by
  refine ⟨fun y hy=>by
    obtain ⟨p,hp,_,e⟩:=h.wy.far y hy
    exact hc.b.un y (whoT_mem.2 ⟨p,hp,e⟩),h.wy.pos,?_,h.wy.last,h.wy.nd hc.b.nd,h.wy.chain,?_⟩
  · rw [h.wy.head]
    rcases hc.b.by_ k hk with h1 | ⟨j,hj,h2,_⟩
    · exact h1.2
    · have:=nd_get hc.b.nd (by omega) hk (h2.trans e.symm)
      omega
  · obtain ⟨G,hG⟩:=hc.l
    obtain ⟨t,ht,ht',hk',e1,e2⟩:=hG.way hc.b.nd h.wy
    have h1 : G[k] = 1:=by
      rcases hG.st k hk hk' with h1 | ⟨j,hj,h2,_⟩
      · exact h1.2
      · have:=nd_get hc.b.nd (by omega) hk (h2.trans e.symm)
        omega
    have h2:=hG.dst hc.b.nd hc.r ht ht'
    rw [e1] at h2
    rw [show V.reverse.length = G[t] by omega]
    exact h2
def ma0 : Bm:=(⟨#[97]⟩,⟨#[118,49,46,48,46,48]⟩)
def ma1 : Bm:=(⟨#[97]⟩,⟨#[118,49,46,49,46,48]⟩)
def mb0 : Bm:=(⟨#[98]⟩,⟨#[118,48,46,49,46,48]⟩)
def smL : List Ent:=[(ma0,[],[],false),(ma1,[mb0],[],false),(mb0,[],[],false)]
def smQ (g : Nat) : List Raw:=[(ma0,.slice none 0 0,.slice none 0 0,false),(ma1,.slice (some ⟨g,0,none⟩) 1 1,.slice none 0 0,false),(mb0,.slice none 0 0,.slice none 0 0,false)]
theorem pk_nilS : packErr (bl []) = 0:=pk_ok (by decide) rfl (by simp [risB,srtB,bl,Lib.compact,Lib.compactUpTo])
theorem sm_e0 : entE smL 0 = 0:=by
  show entW none _ = 0
  rw [entW_none (by kernel_rfl),entR_pack (by decide) (by kernel_rfl)]
  exact pk_nilS
theorem sm_e1 : entE smL 1 = 0:=by
  show entW (some _) _ = 0
  rw [entW_some (by kernel_rfl) (by kernel_rfl),entR_pack (by decide) (by kernel_rfl)]
  exact pk_nilS
theorem sm_e2 : entE smL 2 = 0:=by
  show entW (some _) _ = 0
  rw [entW_some (by kernel_rfl) (by kernel_rfl),entR_pack (by decide) (by kernel_rfl)]
  exact pk_nilS
theorem sm_chk (g : Nat) : chk (smQ g) smL = (0,none):=by
  have h2 : ∀ j,j < 3 -> entE smL j = 0:=fun j hj=>by
    rcases (by omega : j = 0 \/ j = 1 \/ j = 2) with rfl | rfl | rfl
    · exact sm_e0
    · exact sm_e1
    · exact sm_e2
  have h : fstE (entE smL) smL.length = none:=fstE_none h2
  rw [chk_reqs (by decide) h]
  exact Prod.ext (show codeE (reqE2 (smQ g) smL) smL.length = 0 by kernel_rfl) (show fstE (reqE2 (smQ g) smL) smL.length = none by kernel_rfl)
theorem sm_r1 (g : Nat) : reqQ (smQ g) smL ma1 = [mb0]:=by kernel_rfl
theorem sm_rb (g : Nat) : reqQ (smQ g) smL mb0 = []:=by kernel_rfl
theorem sm_ixs {W : World} {g q : Nat} (hb : W.heap[q]? = some (.cells #[.string ⟨#[97]⟩,.string ⟨#[118,49,46,48,46,48]⟩,.slice none 0 0,.slice none 0 0,.bool false,.string ⟨#[97]⟩,.string ⟨#[118,49,46,49,46,48]⟩,.slice (some ⟨g,0,none⟩) 1 1,.slice none 0 0,.bool false,.string ⟨#[98]⟩,.string ⟨#[118,48,46,49,46,48]⟩,.slice none 0 0,.slice none 0 0,.bool false] 45 (0,0)))
    (hg : W.heap[g]? = some (.cells #[.string ⟨#[98]⟩,.string ⟨#[118,48,46,49,46,48]⟩] 25 (0,0))) :
    Ixs W (.slice (some ⟨q,0,none⟩) 3 3) (smQ g) smL:=by
  have msn : MsAt W (.slice none 0 0) []:=⟨none,0,rfl,Nat.le_refl _,fun h=>absurd rfl h⟩
  have txn : TxAt W (.slice none 0 0) []:=⟨none,0,rfl,Nat.le_refl _,fun h=>absurd rfl h⟩
  have msb : MsAt W (.slice (some ⟨g,0,none⟩) 1 1) [mb0]:=⟨some ⟨g,0,none⟩,1,rfl,Nat.le_refl _,fun _=>⟨g,0,rfl,fun j hj=>by
    have : j = 0:=by simp at hj; exact hj
    subst this
    refine ⟨?_,?_⟩ <;> (rw [Lib.cell_of_heap hg]; rfl)⟩⟩
  refine ⟨⟨some ⟨q,0,none⟩,3,rfl,Nat.le_refl _,fun r hr=>?_,fun _=>⟨q,0,rfl,fun j hj=>?_⟩⟩,rfl,fun j h1 h2=>?_⟩
  · have : r = (ma0,.slice none 0 0,.slice none 0 0,false) \/ r = (ma1,.slice (some ⟨g,0,none⟩) 1 1,.slice none 0 0,false) \/ r = (mb0,.slice none 0 0,.slice none 0 0,false):=by simpa [smQ] using hr
    rcases this with rfl | rfl | rfl
    · exact ⟨⟨none,0,0,rfl⟩,none,0,0,rfl⟩
    · exact ⟨⟨_,_,_,rfl⟩,none,0,0,rfl⟩
    · exact ⟨⟨none,0,0,rfl⟩,none,0,0,rfl⟩
  · have hj2 : j < 3:=hj
    rcases (by omega : j = 0 \/ j = 1 \/ j = 2) with rfl | rfl | rfl
    · refine ⟨?_,?_,?_,?_,?_⟩ <;> (rw [Lib.cell_of_heap hb]; rfl)
    · refine ⟨?_,?_,?_,?_,?_⟩ <;> (rw [Lib.cell_of_heap hb]; rfl)
    · refine ⟨?_,?_,?_,?_,?_⟩ <;> (rw [Lib.cell_of_heap hb]; rfl)
  · have hj2 : j < 3:=h1
    rcases (by omega : j = 0 \/ j = 1 \/ j = 2) with rfl | rfl | rfl
    · exact ⟨rfl,msn,txn,rfl⟩
    · exact ⟨rfl,msb,txn,rfl⟩
    · exact ⟨rfl,msn,txn,rfl⟩
theorem sm_sh : ∀ e,e ∈ smL -> ShE e:=fun e he=>by
  have : e = smL[0] \/ e = smL[1] \/ e = smL[2]:=by simpa [smL] using he
  rcases this with rfl | rfl | rfl
  · exact ⟨by decide,by decide,by decide,fun m hm=>(by cases hm),by decide,fun x hx=>(by cases hx)⟩
  · exact ⟨by decide, by decide, by decide, fun m hm => (by have : m = mb0 := List.mem_singleton.1 hm
                                                            subst this; exact ⟨by decide,by decide⟩),by decide,fun x hx=>(by cases hx)⟩
  · exact ⟨by decide,by decide,by decide,fun m hm=>(by cases hm),by decide,fun x hx=>(by cases hx)⟩
set_option maxHeartbeats 2000000 in
theorem smallI_any (w : World) : Calls Tryz.prog 59 #[] w fun e w'=>∃ g q,e = .returned (.slice (some ⟨q,0,none⟩) 3 3) /\ Ixs w' (.slice (some ⟨q,0,none⟩) 3 3) (smQ g) smL /\ Below w.heap.size w w':=by
  go_enter Tryz.func59,Tryz.ntmps59
  go_wp2_with fail
  go_ret
  refine ⟨w.heap.size,w.heap.size + 1,rfl,?_,((Below.refl w.heap.size w).alloc (Nat.le_refl _) _).alloc (by simp) _⟩
  have h2:=heap_alloc_new (w.alloc (.cells #[.string ⟨#[98]⟩,.string ⟨#[118,48,46,49,46,48]⟩] 25)) (.cells #[.string ⟨#[97]⟩,.string ⟨#[118,49,46,48,46,48]⟩,.slice none 0 0,.slice none 0 0,.bool false,.string ⟨#[97]⟩,.string ⟨#[118,49,46,49,46,48]⟩,.slice (some ⟨w.heap.size,0,none⟩) 1 1,.slice none 0 0,.bool false,.string ⟨#[98]⟩,.string ⟨#[118,48,46,49,46,48]⟩,.slice none 0 0,.slice none 0 0,.bool false] 45)
  rw [show (w.alloc (.cells #[.string ⟨#[98]⟩,.string ⟨#[118,48,46,49,46,48]⟩] 25)).heap.size = w.heap.size + 1 by simp] at h2
  exact sm_ixs h2 (heap_old _ _ (heap_new w _))
theorem goM_mem {w : World} {v : Value} {Q : List Raw} {L : List Ent} {roots : List Bm} {T : By} (I : Ixs w v Q L) (h : Came (reqQ Q L) (univ L) roots T) {m : Bm} : m ∈ goM T Q ↔ Rch (reqQ Q L) roots m:=by
  constructor
  · intro hm
    obtain ⟨r,hr,rfl⟩:=List.mem_map.1 hm
    exact (h.cameB _).1 (List.mem_filter.1 hr).2
  · intro hm
    have hc:=(h.cameB m).2 hm
    have hu:=h.b.un m (cameB_iff.1 hc)
    obtain ⟨e,he,rfl⟩:=List.mem_map.1 hu
    obtain ⟨j,hj,rfl⟩:=List.getElem_of_mem he
    have hjq : j < Q.length:=by rw [I.ln]; exact hj
    have hm1:=(I.ok j hjq hj).m
    refine List.mem_map.2 ⟨Q[j],List.mem_filter.2 ⟨List.getElem_mem hjq,?_⟩,hm1⟩
    show cameB T Q[j].1 = true
    rw [hm1]
    exact hc
theorem univ_eq {w : World} {v : Value} {Q : List Raw} {L : List Ent} (I : Ixs w v Q L) : Q.map (fun r=>r.1) = univ L:=by
  apply List.ext_getElem
  · simp [univ,I.ln]
  · intro j h1 h2
    have hq : j < Q.length:=by simpa using h1
    have hl : j < L.length:=by rw [<- I.ln]; exact hq
    simp only [univ,List.getElem_map]
    exact (I.ok j hq hl).m
theorem univ_rises {Q : List Raw} {L : List Ent} (h : (chk Q L).1 = 0) : (univ L).Pairwise fun a b=>mAhead a b = true:=by
  rw [List.pairwise_iff_getElem]
  intro i j hi hj hij
  have hi2 : i < L.length:=by simpa [univ] using hi
  have hj2 : j < L.length:=by simpa [univ] using hj
  obtain ⟨d,rfl⟩ : ∃ d,j = i + d + 1:=⟨j - i - 1,by omega⟩
  have:=ahead_all (chk_each0 h).2 d i hj2
  simpa [univ] using this
def Mr (w0 W : World) (v : Value) (D : List Bm) : Prop:=Below w0.heap.size w0 W /\ ∃ a cap,v = .slice a D.length cap /\ D.length <= cap /\ ((D = [] /\ (a = none -> cap = 0)) \/ ∃ g,a = some ⟨g,0,none⟩ /\ Mw w0 W g D)
theorem Jn.nil : Jn [] []:=⟨List.Pairwise.nil,fun _ h=>absurd h (by simp),fun _ h=>absurd h (by simp)⟩
theorem goM_lenJ {w : World} {v : Value} {Q : List Raw} {L : List Ent} (I : Ixs w v Q L) (T : By) : (goM T Q).length <= L.length:=by
  unfold goM goQ
  rw [List.length_map,<- I.ln]
  exact List.length_filter_le _ _
structure Bt (Q : List Raw) (L : List Ent) (roots E : List Bm) : Prop where
  c : ∃ T,Came (reqQ Q L) (univ L) roots T /\ Jn (goM T Q) E /\ E.length <= (goM T Q).length
theorem univ_right {Q : List Raw} {L : List Ent} (h : (chk Q L).1 = 0) : ∀ m,m ∈ univ L -> mErr m = 0:=fun m hm=>by
  obtain ⟨e,he,rfl⟩:=List.mem_map.1 hm
  obtain ⟨j,hj,rfl⟩:=List.getElem_of_mem he
  exact entE_mod hj ((chk_each0 h).2 j hj)
theorem bt_mem {w : World} {v : Value} {Q : List Raw} {L : List Ent} {roots : List Bm} {T : By} (I : Ixs w v Q L) (h : Came (reqQ Q L) (univ L) roots T) {m : Bm} : m ∈ goM T Q ↔ Rch (reqQ Q L) roots m:=goM_mem I h
theorem rch_univ {w : World} {v : Value} {Q : List Raw} {L : List Ent} {roots : List Bm} (I : Ixs w v Q L) (h : (chkG Q L roots).1 = 0) {m : Bm} (hm : Rch (reqQ Q L) roots m) : m ∈ univ L:=by
  have r:=rgt_of I h
  induction hm with
  | root hr=>exact r.r _ hr
  | step _ hr ih=>exact chk_reqs0 I r.c _ ih _ hr
theorem Bt.in_ {w : World} {v : Value} {Q : List Raw} {L : List Ent} {roots E : List Bm} (I : Ixs w v Q L) (h : Bt Q L roots E) {m : Bm} (hm : m ∈ E) : Rch (reqQ Q L) roots m:=by
  obtain ⟨T,c,j,_⟩:=h.c
  exact (bt_mem I c).1 (j.sub m hm).1
end Ve
end Go.Proofs.YtlcffhadobhfkaaGreatDoor
