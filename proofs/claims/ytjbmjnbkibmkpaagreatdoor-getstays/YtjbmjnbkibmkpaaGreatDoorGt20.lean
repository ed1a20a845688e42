
import Derived.Test.YtjbmjnbkibmkpaaGreatDoorGt18
import Derived.Test.YtjbmjnbkibmkpaaGreatDoorGt19
import Derived.Test.YtjbmjnbkibmkpaaGreatDoorGt11
import Derived.Test.YtjbmjnbkibmkpaaGreatDoorGt13
set_option maxHeartbeats 8000000
namespace Go.Proofs.YtjbmjnbkibmkpaaGreatDoor
open Go.RowKit Go.Shelf
namespace Ve
attribute [local go_sem] Oper.semAt_some
def dfr (D : Nat) : Deferred:={ target:=.collected D,args:=#[] }
theorem leaves_dfr {F : Fence} {n : Nat} {P : Program} {fn : Func} {tmps : Array Value} {R : Ending -> World -> Prop} (K : World -> Prop) (B : Nat) (hK : OwnFrom B (fun (_ : Unit) W=>K W)) (hE : ∀ W,K W -> LeavesInM F n P fn tmps R [] .returning W) :
  ∀ (ds : List Nat) (W : World),ds.Nodup -> (∀ D,D ∈ ds -> B <= D /\ W.heap[D]? = some (.deferred (some []))) -> K W -> LeavesInM F n P fn tmps R (ds.map dfr) .returning W
 | [],W,_,_,h=>hE W h
 | D :: ds,W,hn,hd,h=>by
  obtain ⟨h1,h2⟩:=hd D (by simp)
  obtain ⟨hn1,hn2⟩:=List.nodup_cons.1 hn
  refine ⟨by simp,.inl ⟨D,_,rfl,run_takeDeferred h2,?_⟩⟩
  refine leaves_dfr K B hK hE ds _ hn2 (fun D' hD'=>?_) (OwnFrom.putObj (s:=()) hK _ h h1 h2 rfl)
  obtain ⟨h3,h4⟩:=hd D' (by simp [hD'])
  exact ⟨h3,(World.putObj_heap_other (by intro e; subst e; exact hn1 hD')).trans h4⟩
def tF (Q : List Raw) (L : List Ent) (roots caps : List Bm) : Nat × Option Nat:=if (bF Q L caps).1 = 0 then chkG Q L roots else bF Q L caps
theorem tF_ok {Q : List Raw} {L : List Ent} {roots caps : List Bm} (h : (tF Q L roots caps).1 = 0) : (bF Q L caps).1 = 0 /\ (chkG Q L roots).1 = 0:=by
 unfold tF at h
 by_cases hc : (bF Q L caps).1 = 0
 ·rw [if_pos hc] at h; exact ⟨hc,h⟩
 ·rw [if_neg hc] at h; exact absurd h hc
noncomputable def toL (Q : List Raw) (L : List Ent) (roots caps : List Bm) : List Bm:=selO (kpN (univ L) (bdL Q L caps) roots) (univ L)
structure Ts (w5 W : World) (tb : Nat) (T : List Bool) (ds : List Nat) : Prop where
 kx : Kx w5.heap.size (fun b=>b = tb) w5 W
 mr : W.heap[tb]? = some (.cells (bwc T) 4 (0,0))
 nd : ds.Nodup
 df : ∀ D,D ∈ ds -> w5.heap.size <= D /\ W.heap[D]? = some (.deferred (some []))
structure Tr (W0 W : World) (tb : Nat) (T : List Bool) : Prop where
 kx : Kx W0.heap.size (fun b=>b = tb) W0 W
 mr : W.heap[tb]? = some (.cells (bwc T) 4 (0,0))
theorem Tr.own {W0 : World} {tb : Nat} {β : Type} (hm : tb < W0.heap.size) (C : β -> List Bool -> Prop) : OwnFrom W0.heap.size (fun (s : β) W=>∃ T,Tr W0 W tb T /\ C s T):=by
 rintro s W W' row ⟨T,h,hC⟩ hg hr
 have hn : W0.heap.size <= W.heap.size:=h.kx.size
 have k : Kx W0.heap.size (fun b=>b = tb) W W':=Kx.grown hg hn (fun r e=>(hr r e).1)
 have hb : ∀ b,b < W0.heap.size -> W'.heap[b]? = W.heap[b]?:=fun b hb=>hg.block b (Nat.lt_of_lt_of_le hb hn) (fun e=>by have:=(hr b e.symm).1; omega)
 exact ⟨T,⟨h.kx.trans k,(hb tb hm).trans h.mr⟩,hC⟩
theorem Ts.next {w5 wr W0 W : World} {tb D : Nat} {T T' : List Bool} {ds : List Nat} (h : Ts w5 wr tb T ds) (hb : Below wr.heap.size wr W0) (r : Tr W0 W tb T') (hD : W0.heap.size <= D) (hK : W.heap[D]? = some (.deferred (some []))) (ht : tb < w5.heap.size) : Ts w5 W tb T' (D :: ds):=by
 have hz : w5.heap.size <= W0.heap.size:=Nat.le_trans h.kx.size hb.size
 refine ⟨(h.kx.trans (Kx.below hb h.kx.size)).trans (r.kx.less hz (fun b _ e=>e)),r.mr,List.nodup_cons.2 ⟨fun hm=>?_,h.nd⟩,fun D' hD'=>?_⟩
 ·have:=lt_of_blk (h.df D hm).2
  have:=hb.size
  omega
 ·rcases List.mem_cons.1 hD' with rfl | hm
  ·exact ⟨by omega,hK⟩
  ·obtain ⟨h1,h2⟩:=h.df D' hm
   have hl:=lt_of_blk h2
   refine ⟨h1,?_⟩
   rw [r.kx.block D' (Nat.lt_of_lt_of_le hl hb.size) (by omega),hb.block D' hl]
   exact h2
theorem take_nextB {roots : List Bm} {k : Nat} (hk : k < roots.length) : roots.take (k + 1) = roots.take k ++ [roots[k]]:=List.take_succ_eq_append_getElem hk
set_option maxRecDepth 100000 in
theorem to_good (Q : List Raw) (L : List Ent) (roots caps : List Bm) (v rv cv : Value) (A : Nat -> Addr) (m : Int) (w : World) (hn : L.length <= 1000) (hrn : roots.length <= 1000000) (hcn : caps.length <= 1000000) (sh : ∀ e,e ∈ L -> ShE e) (hs : shortL caps) (S : Te w A m) (I : Ixs w v Q L) (hr : MsAt w rv roots) (hc : MsAt w cv caps) (h0 : (tF Q L roots caps).1 = 0) :
  Calls Tryz.prog 107 #[v,rv,cv] w fun e w'=>∃ u,e = .returned (.tuple #[u,.nilIface]) /\ w'.ownsRow w.heap.size 47 2 u (toL Q L roots caps).length (flatM (toL Q L roots caps)) /\ Below w.heap.size w w':=by
 obtain ⟨hb0,hg0⟩:=tF_ok h0
 obtain ⟨k0,k1⟩:=bF_chk hb0
 have hqn : Q.length <= 1000:=by rw [I.ln]; exact hn
 have HU:=hid (show Un (univ L) from ⟨univ_rises k0,univ_right k0⟩)
 have HRU:=hid (rgt_of I hg0).r
 have HIU:=hid (fun x (hx : x ∈ univ L)=>idx_univ I hx)
 have HUL:=hid (show (univ L).length = Q.length by rw [univ_len,I.ln])
 have HQU:=hid (univ_eq I)
 have HUM:=hid (fun i (hi : i < Q.length) (hi' : i < (univ L).length)=>show Q[i].1 = (univ L)[i] by
  have:=(I.ok i hi (by rw [<- I.ln]; exact hi)).m
  simp only [univ,List.getElem_map]
  exact this)
 have HBD:=hid (bad_good Q L caps v cv A m w hn hcn sh hs S I hc hb0)
 have HCM:=hid (fun W (h : Below w.heap.size w W)=>cmods_any Q roots v rv A m W (by omega) hrn (S.below h) (I.below h).es (hr.below h))
 have hcg : (codeE (nonE Q roots) roots.length,fstE (nonE Q roots) roots.length) = chkG Q L roots:=(chkG_ok k0).symm
 have HZ0:=hid (show codeE (nonE Q roots) roots.length = 0 by
  have h:=congrArg Prod.fst hcg
  exact h.trans hg0)
 have HES:=hid (fun W (h : Below w.heap.size w W)=>(I.below h).es)
 have HMS:=hid (fun W (h : Below w.heap.size w W)=>hr.below h)
 have HBL:=hid (show (bdL Q L caps).length = Q.length by rw [bdL_len,I.ln])
 have HTL:=hid (show toL Q L roots caps = selO (kpN (univ L) (bdL Q L caps) roots) (univ L) from rfl)
 obtain ⟨a,c,hv,-⟩:=id I.es
 subst hv
 obtain ⟨ra,rc,hrv,-⟩:=id hr
 subst hrv
 obtain ⟨ca,cn,cc,hcv⟩:=hc.slice
 subst hcv
 clear S I hr hc sh hs h0 k0 k1 hb0 hg0 hcg hn
 generalize toL Q L roots caps = TL at *
 generalize bdL Q L caps = BL at *
 refine (callsIn_wide (n:=8)).1 ?_
 refine callsIn_of_wp_marks Tryz.func107 rfl trivial ?_ rfl
 simp only [Tryz.ntmps107,List.size_toArray,List.length_cons,List.length_nil,Nat.reduceAdd,Nat.reduceSub,Array.replicate_succ,Array.replicate_zero,List.push_toArray,List.append_toArray,List.nil_append,List.cons_append]
 gi_wp2_with (refine ⟨trivial,?_⟩; gi_at_call 148; refine (callsIn_wide.2 HBD.out).mono ?_; rintro e w1 ⟨gB,rfl,hM1⟩; rw [HBL.out])
 have HA2:=hid ((Below.refl w1.heap.size w1).alloc (Nat.le_refl _) (.cells #[.slice (some ⟨gB,0,none⟩) Q.length Q.length] 190))
 have HN2:=hid (heap_new w1 (.cells #[.slice (some ⟨gB,0,none⟩) Q.length Q.length] 190))
 have HM2:=hid (hM1.below HA2.out)
 have hz12 : (w1.alloc (.cells #[.slice (some ⟨gB,0,none⟩) Q.length Q.length] 190)).heap.size = w1.heap.size + 1:=by simp
 generalize hw2 : w1.alloc (.cells #[.slice (some ⟨gB,0,none⟩) Q.length Q.length] 190) = w2 at *
 generalize hbB : w1.heap.size = bB at *
 refine ⟨trivial,?_⟩
 refine (callsIn_wide.2 (HCM.out w2 HM2.out.bl)).mono ?_
 rintro e w3 ⟨x3,rfl,he,hb3⟩
 rcases he.kind with ⟨-,rfl⟩ | ⟨h,-⟩
 rotate_left
 ·exact absurd HZ0.out h
 have HM3:=hid (HM2.out.below hb3)
 have HN3:=hid ((hb3.block _ (lt_of_blk HN2.out)).trans HN2.out)
 have hmk:=fun W=>make_bools Q.length W (by omega)
 clear he hb3 HM2 HN2 HA2 hM1 HBD HCM hw2 hz12 hbB
 gi_wp2
 clear hmk
 obtain ⟨tb,htb⟩ : ∃ tb,w3.heap.size = tb:=⟨_,rfl⟩
 have hB5 : Below w3.heap.size w3 ((w3.alloc (.cells (bwc (List.replicate Q.length false)) 4)).alloc (.cells #[.slice (some ⟨w3.heap.size,0,none⟩) Q.length Q.length] 190)):=((Below.refl w3.heap.size w3).alloc (Nat.le_refl _) _).alloc (by simp) _
 have hT5:=heap_old (w3.alloc (.cells (bwc (List.replicate Q.length false)) 4)) (.cells #[.slice (some ⟨w3.heap.size,0,none⟩) Q.length Q.length] 190) (heap_new w3 (.cells (bwc (List.replicate Q.length false)) 4))
 have hX5:=heap_new (w3.alloc (.cells (bwc (List.replicate Q.length false)) 4)) (.cells #[.slice (some ⟨w3.heap.size,0,none⟩) Q.length Q.length] 190)
 have hz3 : (w3.alloc (.cells (bwc (List.replicate Q.length false)) 4)).heap.size = w3.heap.size + 1:=by simp
 have hz5 : ((w3.alloc (.cells (bwc (List.replicate Q.length false)) 4)).alloc (.cells #[.slice (some ⟨w3.heap.size,0,none⟩) Q.length Q.length] 190)).heap.size = w3.heap.size + 1 + 1:=by simp
 rw [hz3] at hX5
 generalize (w3.alloc (.cells (bwc (List.replicate Q.length false)) 4)).alloc (.cells #[.slice (some ⟨w3.heap.size,0,none⟩) Q.length Q.length] 190) = w5 at *
 have HM5:=hid (HM3.out.below hB5)
 have HN5:=hid ((hB5.block _ (lt_of_blk HN3.out)).trans HN3.out)
 have hgB:=lt_of_blk HM3.out.hp
 have hbB:=lt_of_blk HN3.out
 have hwB:=HM3.out.bl.size
 rw [htb] at hT5 hX5 hz5 hgB hbB hwB ⊢
 have HT5:=hid hT5
 have HX5:=hid hX5
 have HTS:=hid (show Ts w5 w5 tb (kpN (univ L) BL (roots.take 0)) [] from ⟨Kx.refl _ _ _,by rw [List.take_zero,kpN_zero,HUL.out]; exact HT5.out,List.nodup_nil,fun D hD=>by cases hD⟩)
 have HBW:=hid (fun W T ds (h : Ts w5 W tb T ds)=>show Below w.heap.size w W from ⟨h.kx.os.trans HM5.out.bl.os,h.kx.tape.trans HM5.out.bl.tape,h.kx.output.trans HM5.out.bl.output,Nat.le_trans HM5.out.bl.size h.kx.size,fun b hb=>(h.kx.block b (by omega) (by omega)).trans (HM5.out.bl.block b hb)⟩)
 clear hB5 hT5 hX5 hz3 htb HM3 HN3
 refine wpIn_loop (fun a' W=>∃ (k : Nat) (ds : List Nat) (u13 u35 u36 u37 u38 u39 u40 u41 u51 : Value),(k <= roots.length /\ u35 = .int .i64 (k : Int) /\ Ts w5 W tb (kpN (univ L) BL (roots.take k)) ds) /\ a' = { tmps:=#[.slice a Q.length c,.slice ra roots.length rc,.slice ca cn cc,undef,undef,undef,.slice none 0 0,.nilIface,.pointer (some ⟨bB,0,none⟩),.nilIface,.nilIface,.pointer (some ⟨tb + 1,0,none⟩),undef,u13,undef,.tuple #[.slice (some ⟨gB,0,none⟩) Q.length Q.length,.nilIface],.slice a Q.length c,.slice ca cn cc,.tuple #[.slice (some ⟨gB,0,none⟩) Q.length Q.length,.nilIface],.slice (some ⟨gB,0,none⟩) Q.length Q.length,.nilIface,.nilIface,.bool false,undef,.slice a Q.length c,.slice ra roots.length rc,.nilIface,.nilIface,.bool false,undef,.slice a Q.length c,.int .i64 (Q.length : Int),.slice (some ⟨tb,0,none⟩) Q.length Q.length,.slice ra roots.length rc,.int .i64 (roots.length : Int),u35,u36,u37,u38,u39,u40,u41,undef,undef,undef,undef,undef,undef,undef,undef,undef,u51,undef,undef,undef],defers:=ds.map dfr }) (fun a' _=>roots.length - (intOf (a'.tmps.getD 35 undef)).toNat) ?start ?round
 case start=>
  refine ⟨0,[],?_⟩
  repeat apply Exists.intro
  exact ⟨⟨Nat.zero_le _,rfl,HTS.out⟩,rfl⟩
 case round=>
  rintro a' W ⟨k,ds,u13,u35,u36,u37,u38,u39,u40,u41,u51,⟨hk,rfl,hT⟩,rfl⟩
  have hBw:=HBW.out W _ ds hT
  by_cases hlt : k < roots.length
  ·have hkI : (k : Int) < (roots.length : Int):=by omega
   have hk0 : (0 : Int) <= (k : Int):=by omega
   obtain ⟨xb,xo,hxa,yy0,yy1⟩:=(HMS.out _ hBw).cells hlt
   subst hxa
   obtain ⟨r,hr,htk,y0,y1,hrU⟩ : ∃ r : Bm,roots[k] = r /\ roots.take (k + 1) = roots.take k ++ [r] /\ W.cell? ⟨xb,xo + k * 2,none⟩ = some (.string r.1) /\ W.cell? ⟨xb,xo + k * 2 + 1,none⟩ = some (.string r.2) /\ r ∈ univ L:=⟨_,rfl,take_nextB hlt,yy0,yy1,HRU.out _ (List.getElem_mem hlt)⟩
   obtain ⟨kq,hkU,e1,e2⟩:=HIU.out r hrU
   have hkq : kq < Q.length:=by rw [<- HUL.out]; exact hkU
   have hes:=HES.out _ hBw
   obtain ⟨b,o,hab⟩ : ∃ b o,a = some ⟨b,o,none⟩:=by
    obtain ⟨a',c',e,_,_,h⟩:=hes
    injection e with q1 q2 q3
    obtain ⟨b,o,h4,_⟩:=h (fun h=>by rw [h] at hkq; simp at hkq)
    exact ⟨b,o,by rw [q1,h4]⟩
   subst hab
   have hbw : b < w.heap.size:=lt_of_cell (es_all (HES.out w (Below.refl _ _)) hkq).2.1
   obtain ⟨p,q⟩:=r
   clear yy0 yy1 hes hr
   have HLT:=hid hlt
   have HKN:=hid (show bst (univ L) BL (p,q) (univ L).length < 0 -> kpN (univ L) BL (roots.take (k + 1)) = kpN (univ L) BL (roots.take k) from fun h=>by rw [htk]; exact kpN_none h)
   have HKS:=hid (show ∀ j : Nat,bst (univ L) BL (p,q) (univ L).length = (j : Int) -> kpN (univ L) BL (roots.take (k + 1)) = (kpN (univ L) BL (roots.take k)).set j true from fun j h=>by rw [htk]; exact kpN_some h)
   have HKL:=hid (show (kpN (univ L) BL (roots.take k)).length = Q.length by rw [kpN_len,HUL.out])
   have HTT:=hid hT
   have hlu : BL.length = (univ L).length:=by rw [HBL.out,HUL.out]
   have HBN:=hid (show ∀ t,t <= kq + 1 -> (∀ x,x ∈ dnL kq t -> ∀ (h : x < BL.length),BL[x] = true) -> (t = kq + 1 \/ ∀ (h : kq - t < (univ L).length),(univ L)[kq - t].1 ≠ p) -> bst (univ L) BL (p,q) (univ L).length < 0 from fun t ht hb he=>by
    have h:=bst_no HU.out hlu hkU ht hb (he.imp id (fun h h'=>by rw [e2]; exact h h'))
    rw [e2] at h; exact h)
   have HBY:=hid (show ∀ t,t <= kq -> (∀ x,x ∈ dnL kq t -> ∀ (h : x < BL.length),BL[x] = true) -> (∀ (h : kq - t < (univ L).length),(univ L)[kq - t].1 = p) -> (∀ (h : kq - t < BL.length),BL[kq - t] = false) -> bst (univ L) BL (p,q) (univ L).length = ((kq - t : Nat) : Int) from fun t ht hb hp ho=>by
    have h:=bst_yes HU.out hlu hkU ht hb (by rw [e2]; exact hp (by omega)) (ho (by omega))
    rw [e2] at h; exact h)
   have HPU:=hid (fun j (h : j < Q.length) (h' : j < (univ L).length)=>show Q[j].1.1 = (univ L)[j].1 from congrArg Prod.fst (HUM.out j h h'))
   clear hT hlt htk hlu e2
   generalize kpN (univ L) BL (roots.take k) = T at *
   have hA1:=(Below.refl W.heap.size W).alloc (Nat.le_refl _) (.cells #[.string p,.string q] 47)
   have HA1:=hid hA1
   clear hA1
   gi_wp2
   refine ⟨trivial,?_⟩
   refine (callsIn_wide.2 (fid_any (some ⟨b,o,none⟩) Q.length c p q _)).mono ?_
   rintro e W' ⟨rfl,rfl⟩
   have hz1 : (W.alloc (.cells #[.string p,.string q] 47)).heap.size = W.heap.size + 1:=by simp
   have hB0 : Below W.heap.size W (((W.alloc (.cells #[.string p,.string q] 47)).alloc (.cells #[.slice (some ⟨b,o,none⟩) Q.length c] 22)).alloc (.cells #[.string p,.string q] 47)):=(HA1.out.alloc HA1.out.size _).alloc (by simp; omega) _
   have s1:=heap_old ((W.alloc (.cells #[.string p,.string q] 47)).alloc (.cells #[.slice (some ⟨b,o,none⟩) Q.length c] 22)) (.cells #[.string p,.string q] 47) (heap_new (W.alloc (.cells #[.string p,.string q] 47)) (.cells #[.slice (some ⟨b,o,none⟩) Q.length c] 22))
   have s2:=heap_new ((W.alloc (.cells #[.string p,.string q] 47)).alloc (.cells #[.slice (some ⟨b,o,none⟩) Q.length c] 22)) (.cells #[.string p,.string q] 47)
   have hz2 : ((W.alloc (.cells #[.string p,.string q] 47)).alloc (.cells #[.slice (some ⟨b,o,none⟩) Q.length c] 22)).heap.size = W.heap.size + 1 + 1:=by simp
   have hz0 : (((W.alloc (.cells #[.string p,.string q] 47)).alloc (.cells #[.slice (some ⟨b,o,none⟩) Q.length c] 22)).alloc (.cells #[.string p,.string q] 47)).heap.size = W.heap.size + 1 + 1 + 1:=by simp
   rw [hz1] at s1
   rw [hz2] at s2
   rw [hz1]
   have HB0:=hid hB0
   have HS1:=hid s1
   have HS2:=hid s2
   have HZ:=hid hz0
   clear hB0 s1 s2 hz0 hz1 hz2 y0 y1 HA1
   generalize ((W.alloc (.cells #[.string p,.string q] 47)).alloc (.cells #[.slice (some ⟨b,o,none⟩) Q.length c] 22)).alloc (.cells #[.string p,.string q] 47) = W0 at *
   gi_wp2
   have hz0:=HZ.out
   have hw5:=HTT.out.kx.size
   have htbl : tb < W0.heap.size:=by omega
   have hes0:=HES.out W0 (hBw.trans (HB0.out.mono hBw.size))
   refine wpIn_rangeFunc_ownG rfl (by omega) (gf:=206) (lb:=#[.pointer (some ⟨W.heap.size + 1,0,none⟩),.pointer (some ⟨W.heap.size + 1 + 1,0,none⟩)]) rfl trivial (enters_of Tryz.func206 (by kernel_rfl) rfl)
    (encs:=encX (n:=Q.length)) (Kp:=Kx W0.heap.size (fun b=>b = tb)) (S:=fun ys=>∃ t,t <= kq + 1 /\ atX ys = dnL kq t /\ (t = kq + 1 \/ ∀ (h : kq - t < Q.length),Q[kq - t].1.1 ≠ p)) (Sp:=fun pre=>∃ t,t <= kq /\ atX pre = dnL kq (t + 1) /\ ∀ (h : kq - t < Q.length),Q[kq - t].1.1 = p) (N:=Q.length) (w0:=W0)
    (fun l J Jx W' hW hJ _ hY h0=>fid1_in _ (by omega) l (W.heap.size + 1) (W.heap.size + 1 + 1) W0.heap.size b o c Q (p,q) kq (by omega) e1 (fun b=>b = tb) J Jx (fun s A B hs hb=>hJ s A B none hs (gr_of_below hb) (fun r e=>by cases e)) hY W' hW.size (cell_below hW (by rw [Lib.cell_of_heap HS1.out]; rfl)) (cell_below hW (by rw [Lib.cell_of_heap HS2.out]; rfl)) (cell_below hW (by rw [Lib.cell_of_heap HS2.out]; rfl)) (hes0.below hW) (by omega) (by omega) (by omega) (by omega) (by omega) (by omega) h0)
    (fun h k=>h.trans k) (fun W l o o' hl _ _ _=>Kx.put W l o' hl) (Below.refl _ _) (fun _=>rfl)
    (fun pre W1=>∃ T',Tr W0 W1 tb T' /\ (T' = T /\ ∀ x,x ∈ atX pre -> ∀ (h : x < BL.length),BL[x] = true))
    (fun cd pre W1=>∃ T',Tr W0 W1 tb T' /\ (cd = .exit 2 /\ ∃ (qs : List (Px Q.length)) (x : Px Q.length),pre = qs ++ [x] /\ (∀ y,y ∈ atX qs -> ∀ (h : y < BL.length),BL[y] = true) /\ (∀ (h : x.1 < BL.length),BL[x.1] = false) /\ T' = T.set x.1 true))
    (Tr.own htbl _) (fun cd=>Tr.own htbl _)
    ⟨T,⟨Kx.refl _ _ _,(HB0.out.block _ (lt_of_blk HTT.out.mr)).trans HTT.out.mr⟩,rfl,fun x hx=>by cases hx⟩
    (fun x=>{ tmps:=#[.slice (some ⟨b,o,none⟩) Q.length c,.slice (some ⟨xb,xo,none⟩) roots.length rc,.slice ca cn cc,undef,undef,undef,.slice none 0 0,.nilIface,.pointer (some ⟨bB,0,none⟩),.nilIface,.nilIface,.pointer (some ⟨tb + 1,0,none⟩),undef,.pointer (some ⟨W.heap.size,0,none⟩),.int .i64 (x.1 : Int),.tuple #[.slice (some ⟨gB,0,none⟩) Q.length Q.length,.nilIface],.slice (some ⟨b,o,none⟩) Q.length c,.slice ca cn cc,.tuple #[.slice (some ⟨gB,0,none⟩) Q.length Q.length,.nilIface],.slice (some ⟨gB,0,none⟩) Q.length Q.length,.nilIface,.nilIface,.bool false,undef,.slice (some ⟨b,o,none⟩) Q.length c,.slice (some ⟨xb,xo,none⟩) roots.length rc,.nilIface,.nilIface,.bool false,undef,.slice (some ⟨b,o,none⟩) Q.length c,.int .i64 (Q.length : Int),.slice (some ⟨tb,0,none⟩) Q.length Q.length,.slice (some ⟨xb,xo,none⟩) roots.length rc,.int .i64 (roots.length : Int),.int .i64 (k : Int),.bool true,.pointer (some ⟨xb,xo + k * 2,none⟩),.agg #[.string p,.string q],.slice (some ⟨b,o,none⟩) Q.length c,.agg #[.string p,.string q],.func (.func 206) #[] #[.pointer (some ⟨W.heap.size + 1,0,none⟩),.pointer (some ⟨W.heap.size + 1 + 1,0,none⟩)],.int .i64 (x.1 : Int),undef,undef,undef,undef,undef,undef,undef,undef,u51,undef,undef,undef],defers:=[] }) ?assign ?body ?done ?stop
   case assign=>
    intro l x W1 K hK
    unfold encX
    gi_wp2
    exact hK
   case body=>
    rintro l pre x W1 ⟨T',hTr,rfl,hbd⟩ _
    obtain ⟨j,hj⟩:=x
    have hjB : j < BL.length:=by rw [HBL.out]; exact hj
    have hjT : j < T'.length:=by rw [HKL.out]; exact hj
    have hjI : (j : Int) < (Q.length : Int):=by omega
    have hj0 : (0 : Int) <= (j : Int):=by omega
    have k5 : Kx w5.heap.size (fun b=>b = tb) w5 W1:=(HTT.out.kx.trans (Kx.below HB0.out HTT.out.kx.size)).trans (hTr.kx.less (by omega) (fun _ _ e=>e))
    have c8:=k5.cell (a:=⟨bB,0,none⟩) (by rw [Lib.cell_of_heap HN5.out]; rfl) (by show bB < w5.heap.size; omega) (by show ¬ bB = tb; omega)
    have cB:=k5.cell (a:=⟨gB,j,none⟩) (bwc_at HM5.out.hp hjB) (by show gB < w5.heap.size; omega) (by show ¬ gB = tb; omega)
    have c11:=k5.cell (a:=⟨tb + 1,0,none⟩) (by rw [Lib.cell_of_heap HX5.out]; rfl) (by show tb + 1 < w5.heap.size; omega) (by show ¬ tb + 1 = tb; omega)
    have cT:=bwc_at hTr.mr hjT
    have cf:=fun o=>Lib.frozen_of_heap hTr.mr o
    have HTr:=hid hTr
    have HBD:=hid hbd
    cases hbj : BL[j] with
    | true=>
     rw [hbj] at cB
     have HBJ:=hid hbj
     clear hbj hTr hbd k5
     gi_wp2
     exact ⟨KeepsFrom.refl _ _,Kx.refl _ _ _,T',HTr.out,rfl,fun y hy h=>by
      rw [atX_app] at hy
      rcases List.mem_append.1 hy with h1 | h1
      ·exact HBD.out y h1 h
      ·have:=List.mem_singleton.1 h1
       subst this; exact HBJ.out⟩
    | false=>
     rw [hbj] at cB
     have HBJ:=hid hbj
     clear hbj hTr hbd k5
     gi_wp2
     exact ⟨(KeepsOthers.setCell _ _ _).from _,_,⟨HTr.out.kx.trans (Kx.set W1 _ rfl),by rw [set_block HTr.out.mr,bwc_put]⟩,rfl,pre,⟨j,hj⟩,rfl,HBD.out,fun _=>HBJ.out,rfl⟩
   case done=>
    rintro D ys W1 hD ⟨t,ht,hat,hend⟩ ⟨T',hTr,rfl,hbd⟩ hK
    have hkn:=HKN.out (HBN.out t ht (fun x hx h=>hbd x (by rw [hat]; exact hx) h) (hend.imp id (fun h h'=>by rw [<- HPU.out (kq - t) (by rw [<- HUL.out]; exact h') h']; exact h _)))
    have HNX:=hid (show Ts w5 W1 tb (kpN (univ L) BL (roots.take (k + 1))) (D :: ds) by rw [hkn]; exact HTT.out.next HB0.out hTr hD hK (by omega))
    clear hkn hTr hbd hend hat hK
    gi_wp2
    refine ⟨?_,?_⟩
    ·refine ⟨k + 1,D :: ds,?_⟩
     repeat apply Exists.intro
     refine ⟨?rel,rfl⟩
     first | exact ⟨HLT.out,nr_idx k,HNX.out⟩ | exact ⟨HLT.out,nx_idx HLT.out hrn,HNX.out⟩
    ·first | exact nr_meas HLT.out | exact nx_meas HLT.out hrn
   case stop=>
    rintro D cd pre W1 hD ⟨t,ht,hat,hpt⟩ ⟨T',hTr,rfl,qs,x,hpre,hq,hx,hT'⟩ hK
    subst hpre
    subst hT'
    rw [atX_app] at hat
    obtain ⟨ha1,ha2⟩:=List.append_inj' (show atX qs ++ [x.1] = dnL kq t ++ [kq - t] from hat) rfl
    have hx1 : x.1 = kq - t:=by simpa using ha2
    have hks:=HKS.out x.1 (by rw [hx1]; exact HBY.out t ht (fun y hy h=>hq y (by rw [ha1]; exact hy) h) (fun h=>by rw [<- HPU.out (kq - t) (by rw [<- HUL.out]; exact h) h]; exact hpt _) (fun h=>by have:=hx (by rw [hx1]; exact h); simp only [hx1] at this; exact this))
    have HNX:=hid (show Ts w5 W1 tb (kpN (univ L) BL (roots.take (k + 1))) (D :: ds) by rw [hks]; exact HTT.out.next HB0.out hTr hD hK (by omega))
    clear hks hTr hq hx hat ha1 ha2 hpt hK hx1
    gi_wp2
    refine ⟨?_,?_⟩
    ·refine ⟨k + 1,D :: ds,?_⟩
     repeat apply Exists.intro
     refine ⟨?rel2,rfl⟩
     first | exact ⟨HLT.out,nr_idx k,HNX.out⟩ | exact ⟨HLT.out,nx_idx HLT.out hrn,HNX.out⟩
    ·first | exact nr_meas HLT.out | exact nx_meas HLT.out hrn
  ·have hke : k = roots.length:=by omega
   have hkI : ¬ (k : Int) < (roots.length : Int):=by omega
   rw [List.take_of_length_le (show roots.length <= k by omega)] at hT
   have HTT:=hid hT
   have c11:=hT.kx.cell (a:=⟨tb + 1,0,none⟩) (by rw [Lib.cell_of_heap HX5.out]; rfl) (by show tb + 1 < w5.heap.size; omega) (by show ¬ tb + 1 = tb; omega)
   have HMD:=hid (marked_any Q (kpN (univ L) BL roots) (.slice a Q.length c) tb Q.length W hqn (by rw [kpN_len,HUL.out]) (HES.out _ hBw) hT.mr)
   rw [HQU.out,<- HTL.out] at HMD
   have HBQ:=hid hBw
   clear hT hke hlt hBw
   gi_wp2
   refine ⟨trivial,?_⟩
   refine (callsIn_wide.2 HMD.out).mono ?_
   rintro e W7 ⟨u,rfl,ho,hb⟩
   have HO:=hid (own_base ho HBQ.out.size)
   have HB7:=hid (HBQ.out.trans (hb.mono HBQ.out.size))
   have HDF:=hid (fun D (hD : D ∈ ds)=>show w5.heap.size <= D /\ W7.heap[D]? = some (.deferred (some [])) from ⟨(HTT.out.df D hD).1,(hb.block _ (lt_of_blk (HTT.out.df D hD).2)).trans (HTT.out.df D hD).2⟩)
   obtain ⟨ua,un,uc,hu⟩:=own_sl ho
   subst hu
   clear ho hb
   gi_wp2
   refine leaves_dfr (fun W'=>W'.ownsRow w.heap.size 47 2 (.slice ua un uc) TL.length (flatM TL) /\ Below w.heap.size w W') w5.heap.size ?own ?fin ds W7 HTT.out.nd HDF.out ⟨HO.out,HB7.out⟩
   case own=>
    rintro _ X Y row ⟨h1,h2⟩ hg hrow
    refine ⟨h1.kept hg ?_,h2.grown hg h2.size (fun k e=>by have:=(hrow k e).1; omega)⟩
    rcases h1.2 with ⟨e,_⟩ | ⟨g,cap,cur,e,_,hgb,_⟩
    ·exact .inl (by rw [e]; rfl)
    ·refine .inr fun e'=>?_
     rw [e] at e'
     obtain ⟨_,o,ho,hc⟩:=hrow g (by simpa [Value.ownBlock] using e'.symm)
     rw [hgb] at ho; cases ho; cases hc
   case fin=>
    rintro W' ⟨h1,h2⟩
    exact ⟨.tuple #[.slice ua un uc,.nilIface],by simp [results,Tryz.results107,go_sem],_,rfl,h1,h2⟩
set_option maxRecDepth 100000 in
theorem to_bad (Q : List Raw) (L : List Ent) (roots caps : List Bm) (v rv cv : Value) (A : Nat -> Addr) (m : Int) (w : World) (hn : L.length <= 1000) (hrn : roots.length <= 1000000) (hcn : caps.length <= 1000000) (sh : ∀ e,e ∈ L -> ShE e) (hs : shortL caps) (S : Te w A m) (I : Ixs w v Q L) (hr : MsAt w rv roots) (hc : MsAt w cv caps) (h0 : ¬ (tF Q L roots caps).1 = 0) :
  Calls Tryz.prog 107 #[v,rv,cv] w fun e w'=>∃ T a,e = .returned (.tuple #[.slice none 0 0,.iface T (.pointer (some a))]) /\ ErrAt w' A (.iface T (.pointer (some a))) (tF Q L roots caps).1 (tF Q L roots caps).2 /\ Below w.heap.size w w':=by
 by_cases hb0 : (bF Q L caps).1 = 0
 ·have hbf : tF Q L roots caps = chkG Q L roots:=if_pos hb0
  rw [hbf] at h0 ⊢
  obtain ⟨k0,-⟩:=bF_chk hb0
  have hcg : chkG Q L roots = (codeE (nonE Q roots) roots.length,fstE (nonE Q roots) roots.length):=chkG_ok k0
  rw [hcg] at h0 ⊢
  have HBD:=hid (bad_good Q L caps v cv A m w hn hcn sh hs S I hc hb0)
  have HCM:=hid (fun W (h : Below w.heap.size w W)=>cmods_any Q roots v rv A m W (by rw [I.ln]; omega) hrn (S.below h) (I.below h).es (hr.below h))
  obtain ⟨a,c,hv,-⟩:=id I.es
  subst hv
  obtain ⟨ra,rn,rc,hrv⟩:=hr.slice
  subst hrv
  obtain ⟨ca,cn,cc,hcv⟩:=hc.slice
  subst hcv
  have H0:=hid h0
  clear S I hr hc sh hs h0 hbf hcg k0 hb0
  generalize codeE (nonE Q roots) roots.length = R1 at *
  generalize fstE (nonE Q roots) roots.length = R2 at *
  generalize bdL Q L caps = BL at *
  go_enter Tryz.func107,Tryz.ntmps107
  go_wp2_with fail
  refine HBD.out.mono ?_
  rintro e w1 ⟨gB,rfl,hM1⟩
  have HA2:=hid (hM1.bl.trans (((Below.refl w1.heap.size w1).alloc (Nat.le_refl _) (.cells #[.slice (some ⟨gB,0,none⟩) BL.length BL.length] 190)).mono hM1.bl.size))
  clear hM1
  go_wp2_with fail
  refine (HCM.out _ HA2.out).mono ?_
  rintro e w3 ⟨x3,rfl,he,hb3⟩
  have HB3:=hid (HA2.out.trans (hb3.mono HA2.out.size))
  have HE:=hid he
  rcases he.kind with ⟨h,-⟩ | ⟨-,T,xa,rfl⟩
  ·exact absurd h H0.out
  clear he hb3
  go_wp2_with fail
  go_ret2
  exact ⟨_,_,rfl,HE.out,HB3.out⟩
 ·have hbf : tF Q L roots caps = bF Q L caps:=if_neg hb0
  rw [hbf]
  have HBD:=hid (bad_bad Q L caps v cv A m w hn hcn sh hs S I hc hb0)
  obtain ⟨a,c,hv,-⟩:=id I.es
  subst hv
  obtain ⟨ra,rn,rc,hrv⟩:=hr.slice
  subst hrv
  obtain ⟨ca,cn,cc,hcv⟩:=hc.slice
  subst hcv
  clear S I hr hc sh hs h0 hbf hb0
  generalize bF Q L caps = R at *
  go_enter Tryz.func107,Tryz.ntmps107
  go_wp2_with fail
  refine HBD.out.mono ?_
  rintro e w1 ⟨T,xa,rfl,he,hb⟩
  have HE:=hid he
  have HB1:=hid hb
  have HN1:=hid (heap_new w1 (.cells #[.slice none 0 0] 190))
  clear he hb HBD
  have HA1:=hid ((Below.refl w1.heap.size w1).alloc (Nat.le_refl _) (.cells #[.slice none 0 0] 190))
  go_wp2_with fail
  go_ret2
  exact ⟨_,_,rfl,HE.out.below HA1.out,HB1.out.trans (HA1.out.mono HB1.out.size)⟩
end Ve
end Go.Proofs.YtjbmjnbkibmkpaaGreatDoor


namespace Go.Proofs.YtjbmjnbkibmkpaaGreatDoor
open Go.RowKit Go.Maps
namespace Ve
theorem txs_mem {X : List ByteArray} {t : ByteArray} : t ∈ tx (srtB (bl X)) ↔ t ∈ X:=by
 unfold tx
 rw [List.mem_map]
 constructor
 ·rintro ⟨z,hz,rfl⟩
  have:=(List.mergeSort_perm (bl X) (fun x y=>decide (x <= y))).mem_iff.1 hz
  unfold bl at this
  obtain ⟨x,hx,rfl⟩:=List.mem_map.1 this
  have : ba' x.data.toList = x:=by cases x; simp [ba']
  rw [this]; exact hx
 ·intro h
  exact ⟨t.data.toList,(List.mergeSort_perm (bl X) (fun x y=>decide (x <= y))).mem_iff.2 (List.mem_map.2 ⟨t,h,rfl⟩),by cases t; simp [ba']⟩
theorem txs_len (X : List ByteArray) : (tx (srtB (bl X))).length = X.length:=by rw [tx_len,srtB_len,bl_len]
theorem selO_leG : ∀ (O : List Bool) (U : List Bm),(selO O U).length <= U.length
 | [],_=>Nat.zero_le _
 | _ :: _,[]=>Nat.zero_le _
 | b :: O,u :: U=>by
  have:=selO_leG O U
  cases b
  ·show (selO O U).length <= U.length + 1
   omega
  ·show (selO O U).length + 1 <= U.length + 1
   omega
theorem toL_leG (Q : List Raw) (L : List Ent) (S C : List Bm) : (toL Q L S C).length <= L.length:=by
 unfold toL
 exact Nat.le_trans (selO_leG _ _) (by rw [univ_len]; exact Nat.le_refl _)
noncomputable def rbR (Q : List Raw) (L : List Ent) (S C : List Bm) : List Bm:=toL Q L S C ++ capN C
noncomputable def rbV (Q : List Raw) (L : List Ent) (S C : List Bm) : Option (List Bm):=
 if (tF Q L S C).1 ≠ 0 then none else if (chkG Q L (rbR Q L S C)).1 ≠ 0 then none else some (bX Q L (rbR Q L S C))
def pkSz (K : Pk) : Prop:=∀ x,x ∈ K -> x.1.size < 999999 /\ x.2.1.size < 999999 /\ x.2.2.size < 999999
theorem pkP_size {K : Pk} (h : pkSz K) (t : ByteArray) : (pkP K t).1.size < 999999 /\ (pkP K t).2.size < 999999:=by
 unfold pkP pkG
 cases e : K.find? (fun x=>decide (x.1 = t)) with
 | none=>exact ⟨by decide,by decide⟩
 | some x=>exact (h x (List.mem_of_find?_eq_some e)).2
theorem pnV_size {x : Bm} (h : x.1.size < 999999 /\ x.2.size < 999999) : (pnV x).size < 999999:=by
 unfold pnV
 split
 ·exact h.2
 ·exact h.1
theorem capsV_short {K : Pk} (h : pkSz K) : shortL (capsV K):=fun m hm=>by
 obtain ⟨t,ht,rfl⟩:=List.mem_map.1 hm
 have:=txs_mem.1 ht
 obtain ⟨x,hx,rfl⟩:=List.mem_map.1 this
 exact ⟨(h x hx).1,pnV_size (pkP_size h _)⟩
theorem capsV_len (K : Pk) : (capsV K).length = K.length:=by unfold capsV; rw [List.length_map,txs_len,pkT_len]
theorem capN_yes {C : List Bm} {k : Nat} (hk : k < C.length) (h : ¬ C[k].2 = bNone) : capN (C.take (k + 1)) = capN (C.take k) ++ [C[k]]:=by
 unfold capN
 rw [List.take_succ_eq_append_getElem hk,List.filter_append]; simp [h]
theorem capN_no {C : List Bm} {k : Nat} (hk : k < C.length) (h : C[k].2 = bNone) : capN (C.take (k + 1)) = capN (C.take k):=by
 unfold capN
 rw [List.take_succ_eq_append_getElem hk,List.filter_append]; simp [h]
theorem capN_len (C : List Bm) : (capN C).length <= C.length:=List.length_filter_le _ _
def RbP (w : World) (e : Ending) (w' : World) : Option (List Bm) -> Prop
 | none=>∃ a n c Ty ea,e = .returned (.tuple #[.slice a n c,.iface Ty (.pointer (some ea))]) /\ Below w.heap.size w w'
 | some N=>∃ a c,e = .returned (.tuple #[.slice a N.length c,.nilIface]) /\ Mr w w' (.slice a N.length c) N
set_option maxRecDepth 100000 in
theorem rebuild_any (Q : List Raw) (L : List Ent) (S : List Bm) (v sv : Value) (b : Nat) (K : Pk) (B : List Nat) (A : Nat -> Addr) (m : Int) (w0 w : World) (hn : L.length <= 1000) (sh : ∀ e,e ∈ L -> ShE e) (hS : S.length <= 1000) (hK : K.length <= 1000) (hz : pkSz K) (S0 : Te w0 A m) (I : Ixs w0 v Q L) (hsv : MsAt w0 sv S) (P : PinsAt w0 w b K B) :
  Calls Tryz.prog 54 #[v,sv,.map (some b)] w fun e w'=>RbP w e w' (rbV Q L S (capsV K)):=by
 obtain ⟨i0,hi0,hz0,hz1,hz2⟩:=info_parts infoMod
 have HBW:=hid (fun W (h : Below w.heap.size w W)=>show Below w0.heap.size w0 W from P.bl.trans (h.mono P.bl.size))
 have HKE:=hid (keysP_any (some b) w)
 have HSO:=hid (sortedP_any w0 w b K B hK P)
 have HPP:=hid (fun W (h : Below w.heap.size w W)=>P.below h)
 have HTM:=hid (fun t (ht : t ∈ tx (srtB (bl (pkT K))))=>txs_mem.1 ht)
 have HTL:=hid (show (tx (srtB (bl (pkT K)))).length <= 1000 by rw [txs_len,pkT_len]; exact hK)
 have HCE:=hid (show capsV K = (tx (srtB (bl (pkT K)))).map fun t=>(t,pnV (pkP K t)) from rfl)
 have HTO:=hid (fun C (hC : capsV K = C) cv W (h : Below w.heap.size w W) (hc : MsAt W cv C) (h0 : (tF Q L S C).1 = 0)=>to_good Q L S C v sv cv A m W hn (by omega) (by rw [<- hC,capsV_len]; omega) sh (by rw [<- hC]; exact capsV_short hz) (S0.below (HBW.out W h)) (I.below (HBW.out W h)) (hsv.below (HBW.out W h)) hc h0)
 have HTB:=hid (fun C (hC : capsV K = C) cv W (h : Below w.heap.size w W) (hc : MsAt W cv C) (h0 : ¬ (tF Q L S C).1 = 0)=>to_bad Q L S C v sv cv A m W hn (by omega) (by rw [<- hC,capsV_len]; omega) sh (by rw [<- hC]; exact capsV_short hz) (S0.below (HBW.out W h)) (I.below (HBW.out W h)) (hsv.below (HBW.out W h)) hc h0)
 have HBU:=hid (fun (Z : List Bm) rv W (h : Below w.heap.size w W) (hl : Z.length <= 1000000) (hr : MsAt W rv Z)=>build_all Q L Z v rv A m W hn hl sh (S0.below (HBW.out W h)) (I.below (HBW.out W h)) hr)
 obtain ⟨va,vc,hvs,-⟩:=id I.es
 obtain ⟨sa,sc,hss,-⟩:=id hsv
 subst hvs
 subst hss
 have HQL:=hid I.ln
 have HCL:=hid (show (capsV K).length <= 1000 by rw [capsV_len]; exact hK)
 clear S0 I hsv P hz sh
 generalize tx (srtB (bl (pkT K))) = TT at *
 obtain ⟨C,hC⟩ : ∃ C,capsV K = C:=⟨_,rfl⟩
 rw [hC]
 rw [hC] at HCE HCL
 have HCC:=hid hC
 clear hC
 go_enter Tryz.func54,Tryz.ntmps54
 go_wp2_with fail
 refine HKE.out.mono ?_
 rintro e w1 ⟨rfl,rfl⟩
 go_wp2_with fail
 refine HSO.out.mono ?_
 rintro e w2 ⟨u,rfl,hu,hb⟩
 have HB2:=hid hb
 have HU2:=hid (own_tx hu)
 obtain ⟨ua,uc,hus⟩:=own_slN hu
 subst hus
 clear hu hb HKE HSO
 go_wp2_with fail
 go_loopw [8,19] (fun ov iv wr=>∃ k : Nat,k <= TT.length /\ iv = .int .i64 k /\ Hid (wr.ownsRow w2.heap.size 47 2 ov ((TT.take k).map fun t=>(t,pnV (pkP K t))).length (flatM ((TT.take k).map fun t=>(t,pnV (pkP K t))))) /\ Hid (Below w2.heap.size w2 wr)) (fun _ iv _=>TT.length - (intOf iv).toNat)
 case atStart=>exact ⟨0,Nat.zero_le _,rfl,hid (World.ownsRow_nil _ _ _ _),hid (Below.refl _ _)⟩
 case round=>
  obtain ⟨k,hk,rfl,HO,HN⟩:=hrel
  have HB:=hid (HB2.out.trans (HN.out.mono HB2.out.size))
  by_cases hlt : k < TT.length
  ·have hkI:=ix_lt hlt
   have hk0:=ix_pos k
   have HLT:=hid hlt
   obtain ⟨xb,xo,hxa,y9⟩:=tx_cellK HU2.out hlt
   subst hxa
   have y0:=cell_below HN.out y9
   have HNX:=hid (show (TT.take (k + 1)).map (fun t=>(t,pnV (pkP K t))) = (TT.take k).map (fun t=>(t,pnV (pkP K t))) ++ [(TT[k],pnV (pkP K TT[k]))] by rw [List.take_succ_eq_append_getElem hlt,List.map_append]; rfl)
   have htm:=HTM.out TT[k] (List.getElem_mem hlt)
   have HLN:=hid (show ((TT.take k).map fun t=>(t,pnV (pkP K t))).length <= 1000 by rw [List.length_map,List.length_take]; have:=HTL.out; omega)
   generalize TT[k] = t at *
   obtain ⟨j,hj,g,hjt,hjp,hpn,hlo,hgB,hgm,hlk⟩:=(HPP.out wr HB.out).of htm
   have HPV:=hid (pver_any (pkP K t) g wr hpn)
   generalize pnV (pkP K t) = pv at *
   generalize (TT.take k).map (fun t=>(t,pnV (pkP K t))) = Y at *
   clear hlt y9 htm hjt hjp hpn hlo hgB hgm hj
   go_wp2_with fail
   refine HPV.out.mono ?_
   rintro e w3 ⟨rfl,hw3⟩
   subst hw3
   go_wp2_with (at_builtin; refine wpList_append_own _ rfl _ _ 23 rfl w2.heap.size 47 i0 _ 2 32 Tryz.underlying23 hi0 hz0 hz1 hz2 rfl (by decide) _ _ _ rfl (HO.out.alloc _) ⟨w3.heap.size,0,none⟩ 1 1 [.string t,.string pv] rfl rfl ?c1 ?c2 ?c3 ?c4 ?c5 ?_)
   case c1=>exact World.news_of_block (cs:=#[.string t,.string pv]) (heap_new _ _)
   case c2=>intro u hu; simp at hu; rcases hu with rfl | rfl <;> rfl
   case c3=>have:=HLN.out; unfold maxLen; omega
   case c4=>have:=HLN.out; omega
   case c5=>have:=HN.out.size; simp; omega
   intro v' w6 hown hgrow _
   have HR3:=hid (rel_app2 HN.out.size HN.out HO.out (Below.refl _ _) hgrow)
   have HO4:=hid (show w6.ownsRow w2.heap.size 47 2 v' (Y ++ [(t,pv)]).length (flatM (Y ++ [(t,pv)])) by rw [List.length_append,flatM_app]; exact hown)
   clear hown hgrow
   go_wp2_with fail
   go_roundw
   case rel=>exact ⟨k + 1,HLT.out,by first | exact nr_idx k | exact nx_idx HLT.out (by have:=HTL.out; omega),by rw [HNX.out]; exact HO4,HR3⟩
   case measure=>first | exact nr_meas HLT.out | exact nx_meas HLT.out (by have:=HTL.out; omega)
  ·have hkI:=ix_nlt hlt
   rw [show TT.take k = TT from List.take_of_length_le (by omega),<- HCE.out] at HO
   have HCM:=hid (own_ms HO.out)
   obtain ⟨ca,cc,hcs⟩:=own_slN HO.out
   subst hcs
   clear hlt HO HPP HTM
   obtain ⟨wq,rfl⟩ : ∃ W : World,W = wr:=⟨_,rfl⟩
   by_cases h0 : (tF Q L S C).1 = 0
   rotate_left
   ·have HV:=hid (show rbV Q L S C = none by unfold rbV; rw [if_pos h0])
    have HBD:=hid (HTB.out C HCC.out _ wq HB.out HCM.out h0)
    clear h0
    go_wp2_with fail
    refine HBD.out.mono ?_
    rintro e w3 ⟨Ty,ea,rfl,-,hb⟩
    have HB3:=hid (HB.out.trans (hb.mono HB.out.size))
    clear hb
    go_wp2_with fail
    go_ret2
    rw [HV.out]
    exact ⟨none,0,0,_,_,rfl,HB3.out⟩
   ·have HV:=hid (show rbV Q L S C = if (chkG Q L (rbR Q L S C)).1 ≠ 0 then none else some (bX Q L (rbR Q L S C)) by unfold rbV; rw [if_neg (by simp [h0])])
    have HGD:=hid (HTO.out C HCC.out _ wq HB.out HCM.out h0)
    have HRR:=hid (show rbR Q L S C = toL Q L S C ++ capN C from rfl)
    have HTLN:=hid (toL_leG Q L S C)
    clear h0 HTO HTB
    generalize toL Q L S C = TL at *
    go_wp2_with fail
    refine HGD.out.mono ?_
    rintro e w3 ⟨u,rfl,hu,hb⟩
    have HB3:=hid (HB.out.trans (hb.mono HB.out.size))
    have HU3:=hid hu
    have HC3:=hid (HCM.out.below hb)
    obtain ⟨ta,tc,hts⟩:=own_slN hu
    subst hts
    have HN3:=hid hb
    clear hu hb HGD HN
    go_wp2_with fail
    go_loopw [11,45] (fun ov iv wx=>∃ k : Nat,k <= C.length /\ iv = .int .i64 k /\ Hid (wx.ownsRow wq.heap.size 47 2 ov (TL ++ capN (C.take k)).length (flatM (TL ++ capN (C.take k)))) /\ Hid (Below wq.heap.size wq wx)) (fun _ iv _=>C.length - (intOf iv).toNat)
    case atStart=>exact ⟨0,Nat.zero_le _,rfl,hid (by simpa [capN] using HU3.out),HN3⟩
    case round=>
     obtain ⟨k,hk,rfl,HO,HN⟩:=hrel
     have HBx:=hid (HB.out.trans (HN.out.mono HB.out.size))
     by_cases hlt : k < C.length
     ·have hkI:=ix_lt hlt
      have hk0:=ix_pos k
      have HLT:=hid hlt
      obtain ⟨la,lc,hla,-,hcells⟩:=HCM.out.below HN.out
      obtain ⟨lb,lo,hlb,hcc⟩:=hcells (by intro h; rw [h] at hlt; simp at hlt)
      injection hla with hla1 hla2 hla3
      rw [hlb] at hla1
      subst hla1
      have y0:=(hcc k hlt).1
      have y1:=(hcc k hlt).2
      have HLN:=hid (show (TL ++ capN (C.take k)).length <= 100000 by
       rw [List.length_append]
       have h1:=capN_len (C.take k)
       rw [List.length_take] at h1
       have:=HTLN.out
       have:=HCL.out
       omega)
      have HYE:=hid (fun h=>capN_yes hlt h)
      have HNO:=hid (fun h=>capN_no hlt h)
      clear hcells hcc hla2 hla3 hlb
      generalize C[k] = x at *
      obtain ⟨x1,x2⟩:=x
      simp only at y0 y1 HYE HNO
      have HO2:=hid (HO.out.alloc (.cells #[.string x1,.string x2] 47))
      have HN2:=hid (HN.out.alloc HN.out.size (.cells #[.string x1,.string x2] 47))
      clear hlt
      by_cases hx : x2 = bNone
      ·have hq : (x2.toList == [110,111,110,101]) = true:=by rw [show ([110,111,110,101] : List UInt8) = bNone.data.toList from rfl,<- eqW]; exact decide_eq_true hx
       have HF:=hid (HNO.out hx)
       clear hx HYE HNO
       go_wp2_with fail
       go_roundw
       case rel=>exact ⟨k + 1,HLT.out,by first | exact nr_idx k | exact nx_idx HLT.out (by have:=HCL.out; omega),by rw [HF.out]; exact HO2,HN2⟩
       case measure=>first | exact nr_meas HLT.out | exact nx_meas HLT.out (by have:=HCL.out; omega)
      ·have hq : (x2.toList == [110,111,110,101]) = false:=by rw [show ([110,111,110,101] : List UInt8) = bNone.data.toList from rfl,<- eqW]; exact decide_eq_false hx
       have HF:=hid (HYE.out hx)
       have HF2:=hid (show TL ++ capN (C.take (k + 1)) = (TL ++ capN (C.take k)) ++ [(x1,x2)] by rw [HF.out,List.append_assoc])
       generalize TL ++ capN (C.take k) = Y at *
       clear hx HYE HNO
       go_wp2_with (at_builtin; refine wpList_append_own _ rfl _ _ 23 rfl wq.heap.size 47 i0 _ 2 32 Tryz.underlying23 hi0 hz0 hz1 hz2 rfl (by decide) _ _ _ rfl (HO2.out.alloc _) ⟨wr.heap.size + 1,0,none⟩ 1 1 [.string x1,.string x2] rfl rfl ?c1 ?c2 ?c3 ?c4 ?c5 ?_)
       case c1=>exact World.news_of_block (cs:=#[.string x1,.string x2]) (by have:=heap_new (wr.alloc (.cells #[.string x1,.string x2] 47)) (.cells #[.string x1,.string x2] 47); simpa using this)
       case c2=>intro u hu; simp at hu; rcases hu with rfl | rfl <;> rfl
       case c3=>have:=HLN.out; unfold maxLen; omega
       case c4=>have:=HLN.out; omega
       case c5=>have:=HN2.out.size; simp at this ⊢; omega
       intro v' w6 hown hgrow _
       have HR3:=hid (rel_app2 HN2.out.size HN2.out HO2.out (Below.refl _ _) hgrow)
       have HO4:=hid (show w6.ownsRow wq.heap.size 47 2 v' (Y ++ [(x1,x2)]).length (flatM (Y ++ [(x1,x2)])) by rw [List.length_append,flatM_app]; exact hown)
       clear hown hgrow
       go_wp2_with fail
       go_roundw
       case rel=>exact ⟨k + 1,HLT.out,by first | exact nr_idx k | exact nx_idx HLT.out (by have:=HCL.out; omega),by rw [HF2.out]; exact HO4,HR3⟩
       case measure=>first | exact nr_meas HLT.out | exact nx_meas HLT.out (by have:=HCL.out; omega)
     ·have hkI:=ix_nlt hlt
      rw [show C.take k = C from List.take_of_length_le (by omega),<- HRR.out] at HO
      have HZL:=hid (show (rbR Q L S C).length <= 1000000 by
       rw [HRR.out,List.length_append]
       have h1:=capN_len C
       have:=HTLN.out
       have:=HCL.out
       omega)
      generalize rbR Q L S C = Z at *
      have HBZ:=hid (HBU.out Z _ wr HBx.out HZL.out (own_ms HO.out))
      obtain ⟨za,zc,hzs⟩:=own_slN HO.out
      subst hzs
      clear hlt HO
      go_wp2_with fail
      refine HBZ.out.mono ?_
      rintro e w7 ⟨na,nc,x,rfl,hm,he⟩
      have HM7:=hid hm
      have HB7:=hid (HBx.out.trans (hm.1.mono HBx.out.size))
      rcases he.kind with ⟨hc,hx⟩ | ⟨hc,Ty,ea,hx⟩
      ·have HV2:=hid (show rbV Q L S C = some (bX Q L Z) by
        rw [HV.out,if_neg]
        intro h
        rw [rF_bad h] at hc
        exact h hc)
       subst hx
       clear hm he hc
       generalize bX Q L Z = N at *
       go_wp2_with fail
       go_ret2
       rw [HV2.out]
       exact ⟨_,_,rfl,Mr.base HM7.out HBx.out⟩
      ·have HV2:=hid (show rbV Q L S C = none by
        rw [HV.out,if_pos]
        intro h
        rw [rF_good h] at hc
        exact hc rfl)
       subst hx
       clear hm he hc
       generalize bX Q L Z = N at *
       go_wp2_with fail
       go_ret2
       rw [HV2.out]
       exact ⟨_,_,_,_,_,rfl,HB7.out⟩
end Ve
end Go.Proofs.YtjbmjnbkibmkpaaGreatDoor


namespace Go.Proofs.YtjbmjnbkibmkpaaGreatDoor
open Go.RowKit Go.Maps
namespace Ve
theorem wOk_bad {S N : List Bm} {K : Pk} {x : Bm} {k : Nat} (hk : k < (wPt S x.1).length) (h : ¬ vIn N (wPt S x.1)[k] = pnB (pkP K (wPt S x.1)[k])) : wOk S N K x = false:=by
 cases e : wOk S N K x
 ·rfl
 ·exact absurd (of_decide_eq_true (List.all_eq_true.1 e _ (List.getElem_mem hk))) h
theorem wOk_yes {S N : List Bm} {K : Pk} {x : Bm} (h : ∀ j (hj : j < (wPt S x.1).length),vIn N (wPt S x.1)[j] = pnB (pkP K (wPt S x.1)[j])) : wOk S N K x = true:=by
 unfold wOk
 rw [List.all_eq_true]
 intro t ht
 obtain ⟨j,hj,rfl⟩:=List.getElem_of_mem ht
 exact decide_eq_true (h j hj)
set_option maxRecDepth 100000 in
theorem chkW_any (S N : List Bm) (sv nv : Value) (p q : ByteArray) (b : Nat) (K : Pk) (B : List Nat) (A : Nat -> Addr) (m : Int) (w0 w : World) (hp : p.size <= 100) (hS : S.length <= 1000) (hs : ∀ x,x ∈ S -> x.1.size <= 100) (hN : N.length <= 1000) (S0 : Te w A m) (hsv : MsAt w sv S) (hnv : MsAt w nv N) (P : PinsAt w0 w b K B) (hm : ∀ t,t ∈ wPt S p -> t ∈ pkT K) :
  Calls Tryz.prog 56 #[sv,nv,.agg #[.string p,.string q],.map (some b)] w fun e w'=>((wOk S N K (p,q) = true /\ e = .returned .nilIface) \/ (wOk S N K (p,q) = false /\ ∃ Ty a,e = .returned (.iface Ty (.pointer (some a))))) /\ Below w.heap.size w w':=by
 have HBa:=hid ((Below.refl w.heap.size w).alloc (Nat.le_refl _) (.cells #[.string p,.string q] 78))
 have HPT:=hid (paths_w S p q sv m (w.alloc (.cells #[.string p,.string q] 78)) hp hS hs (cell_below HBa.out S0.ml) (hsv.below HBa.out))
 have HXL:=hid (show (wPt S p).length <= 1001 from Nat.le_trans wPt_len (by omega))
 have HPP:=hid (fun W (h : Below w.heap.size w W)=>P.below h)
 have HVI:=hid (fun t W (h : Below w.heap.size w W)=>verIn_any N t nv W (by omega) (hnv.below h))
 have HG8:=hid (fun W (h : Below w.heap.size w W)=>(S0.below h).sen.g8)
 have HMM:=hid hm
 have HOB:=hid (fun k (hk : k < (wPt S p).length) h=>wOk_bad (S:=S) (N:=N) (K:=K) (x:=(p,q)) hk h)
 have HOY:=hid (fun h=>wOk_yes (S:=S) (N:=N) (K:=K) (x:=(p,q)) h)
 obtain ⟨sa,sc,hss,-⟩:=id hsv
 obtain ⟨na,nc,hns,-⟩:=id hnv
 subst hss
 subst hns
 generalize wOk S N K (p,q) = z at *
 simp only at HOB HOY
 generalize wPt S p = X at *
 clear hp hs S0 hsv hnv P hm
 go_enter Tryz.func56,Tryz.ntmps56
 go_wp2_with fail
 refine HPT.out.mono ?_
 rintro e w1 ⟨u,rfl,hu,hb⟩
 have HB1:=hid (HBa.out.trans (hb.mono HBa.out.size))
 have HU1:=hid (own_tx hu)
 obtain ⟨ua,uc,hus⟩:=own_slN hu
 subst hus
 clear hu hb HPT
 go_wp2_with fail
 go_loopw [15] (fun iv wr=>∃ k : Nat,k <= X.length /\ iv = .int .i64 k /\ Hid (∀ j (h : j < X.length),j < k -> vIn N X[j] = pnB (pkP K X[j])) /\ Hid (Below w1.heap.size w1 wr)) (fun iv _=>X.length - (intOf iv).toNat)
 case atStart=>exact ⟨0,Nat.zero_le _,rfl,hid (fun j _ hj=>absurd hj (Nat.not_lt_zero _)),hid (Below.refl _ _)⟩
 case round=>
  obtain ⟨k,hk,rfl,HA,HN⟩:=hrel
  have HB:=hid (HB1.out.trans (HN.out.mono HB1.out.size))
  by_cases hlt : k < X.length
  ·have hkI:=ix_lt hlt
   have hk0:=ix_pos k
   have HLT:=hid hlt
   obtain ⟨xb,xo,hxa,y9⟩:=tx_cellK HU1.out hlt
   subst hxa
   have y0:=cell_below HN.out y9
   have htm:=HMM.out X[k] (List.getElem_mem hlt)
   have HBD:=hid (HOB.out k hlt)
   have HNX:=hid (fun (h : vIn N X[k] = pnB (pkP K X[k]))=>show ∀ j (h : j < X.length),j < k + 1 -> vIn N X[j] = pnB (pkP K X[j]) from fun j hj hjk=>by
    rcases Nat.lt_or_ge j k with h1 | h1
    ·exact HA.out j hj h1
    ·have : j = k:=by omega
     subst this; exact h)
   generalize X[k] = t at *
   obtain ⟨j,hj,g,hjt,hjp,hpn,hlo,hgB,hgm,-⟩:=(HPP.out wr HB.out).of htm
   have HJT:=hid (show (pkT K)[j]? = some t by rw [List.getElem?_eq_getElem (by rw [pkT_len]; exact hj),pkT_at hj,hjt])
   have HTb:=hid (fun W (h : Below wr.heap.size wr W)=>show (Instr.lookup 88 (.map (some b)) (.string t) false).run Tryz.prog W = .ok (.pointer (some ⟨g,0,none⟩)) W /\ Hid (Below wr.heap.size wr W) from ⟨((HPP.out wr HB.out).below h).look2 HJT.out hgB,hid h⟩)
   have HPI:=hid (fun W (h : Below wr.heap.size wr W)=>pinb_any (pkP K t) g W (hpn.below h))
   have HVV:=hid (fun W (h : Below wr.heap.size wr W)=>HVI.out t W (HB.out.trans (h.mono HB.out.size)))
   have HEQ:=hid (show vIn N t = pnB (pkP K t) \/ ¬ vIn N t = pnB (pkP K t) from Classical.em _)
   generalize pnB (pkP K t) = pb at *
   generalize vIn N t = vn at *
   clear hlt y9 htm hjt hjp hpn hlo hgB hgm hj HJT HMM HOB HA
   rcases HEQ.out with heq | heq
   ·have hq : (vn.toList == pb.toList) = true:=by rw [heq]; exact str_refl pb
    have HN2:=hid (HNX.out heq)
    clear heq HEQ HNX HBD
    go_wp2_with fail
    go_region_held (fun W=>(Instr.lookup 88 (.map (some b)) (.string t) false).run Tryz.prog W = .ok (.pointer (some ⟨g,0,none⟩)) W /\ Hid (Below wr.heap.size wr W)) (first | exact HTb.out _ HRb.out | exact HTb.out _ (below_drawn _ 1)) (first
     | (go_at_call 102; refine (HVV.out _ (below_drawn _ 1)).mono ?_; rintro e w3 ⟨rfl,hb⟩; have HRb:=hid ((below_drawn wr 1).trans (hb.mono (Nat.le_refl _))); clear hb)
     | (go_at_call 108; refine (HPI.out _ (by first | exact HRb.out | exact below_drawn _ 1)).mono ?_; rintro e w4 ⟨rfl,rfl⟩))
    all_goals
     have HBF:=hid (HN.out.trans (HRb.out.mono HN.out.size))
     go_wp2_with fail
     go_roundw
     case rel=>exact ⟨k + 1,HLT.out,by first | exact nr_idx k | exact nx_idx HLT.out (by have:=HXL.out; omega),HN2,HBF⟩
     case measure=>first | exact nr_meas HLT.out | exact nx_meas HLT.out (by have:=HXL.out; omega)
   ·have hq:=str_ne heq
    have HZ:=hid (HBD.out heq)
    clear heq HEQ HNX HBD
    go_wp2_with fail
    go_region_held (fun W=>(Instr.lookup 88 (.map (some b)) (.string t) false).run Tryz.prog W = .ok (.pointer (some ⟨g,0,none⟩)) W /\ Hid (Below wr.heap.size wr W)) (first | exact HTb.out _ HRb.out | exact HTb.out _ (below_drawn _ 1)) (first
     | (go_at_call 102; refine (HVV.out _ (below_drawn _ 1)).mono ?_; rintro e w3 ⟨rfl,hb⟩; have HRb:=hid ((below_drawn wr 1).trans (hb.mono (Nat.le_refl _))); clear hb)
     | (go_at_call 108; refine (HPI.out _ (by first | exact HRb.out | exact below_drawn _ 1)).mono ?_; rintro e w4 ⟨rfl,rfl⟩))
    all_goals
     have HBF:=hid (HB.out.trans (HRb.out.mono HB.out.size))
     have gg:=HG8.out _ HBF.out
     go_wp2_with fail
     go_ret
     exact ⟨Or.inr ⟨HZ.out,_,_,rfl⟩,HBF.out⟩
  ·have hkI:=ix_nlt hlt
   have HZ:=hid (HOY.out (fun j hj=>HA.out j hj (by omega)))
   clear hlt
   go_wp2_with fail
   go_ret
   exact ⟨Or.inl ⟨HZ.out,rfl⟩,HB.out⟩
set_option maxRecDepth 100000 in
theorem firstW_any (K : Nat) (cb : Array Value) (D : List Bm) (v : Value) (St : Nat -> World -> Prop) (Bd : World -> Prop) (w : World) (eg : ∀ args w,(callFunc K args).run Tryz.prog w = .ok (.enter K args) w) (hD : D.length <= 1000000)
  (hv : ∀ k W,St k W -> MsAt W v D) (hS : ∀ k W W',St k W -> Below W.heap.size W W' -> St k W') (hB : ∀ W o,Bd W -> Bd (W.alloc o))
  (hK : ∀ k (hk : k < D.length) W,St k W -> Calls Tryz.prog K (#[.int .i64 (k : Int),.agg #[.string D[k].1,.string D[k].2]] ++ cb) W fun e w'=>(e = .returned .nilIface /\ St (k + 1) w') \/ ((∃ Ty a,e = .returned (.iface Ty (.pointer (some a)))) /\ Bd w')) (h0 : St 0 w) :
  Calls Tryz.prog 51 #[v,.func (.func K) #[] cb] w fun e w'=>(e = .returned .nilIface /\ St D.length w') \/ ((∃ Ty a,e = .returned (.iface Ty (.pointer (some a)))) /\ Bd w'):=by
 have HK:=hid hK
 have HV:=hid hv
 have HSS:=hid hS
 have HB:=hid hB
 have HS0:=hid h0
 obtain ⟨va,vc,hvs,-⟩:=id (hv 0 w h0)
 subst hvs
 clear hK hv hB h0 hS
 go_enter Tryz.func51,Tryz.ntmps51
 go_wp2_with fail
 go_loopw [10] (fun iv wr=>∃ k : Nat,k <= D.length /\ iv = .int .i64 k /\ Hid (St k wr)) (fun iv _=>D.length - (intOf iv).toNat)
 case atStart=>exact ⟨0,Nat.zero_le _,rfl,HS0⟩
 case round=>
  obtain ⟨k,hk,rfl,HS⟩:=hrel
  by_cases hlt : k < D.length
  ·have hkI:=ix_lt hlt
   have hk0:=ix_pos k
   have HLT:=hid hlt
   obtain ⟨la,lc,hla,-,hcells⟩:=HV.out k wr HS.out
   obtain ⟨lb,lo,hlb,hcc⟩:=hcells (by intro h; rw [h] at hlt; simp at hlt)
   injection hla with hla1 hla2 hla3
   rw [hlb] at hla1
   subst hla1
   have y0:=(hcc k hlt).1
   have y1:=(hcc k hlt).2
   have HKK:=hid (HK.out k hlt (wr.alloc (.cells #[.string D[k].1,.string D[k].2] 78)) (HSS.out k wr _ HS.out ((Below.refl _ _).alloc (Nat.le_refl _) _)))
   clear hcells hcc hla2 hla3 hlb HK HV
   generalize D[k] = x at *
   obtain ⟨x1,x2⟩:=x
   simp only at y0 y1 HKK
   clear hlt
   go_wp2_with fail
   refine HKK.out.mono ?_
   rintro e w1 (⟨rfl,hs⟩ | ⟨⟨Ty,ea,rfl⟩,hs⟩)
   ·have HS1:=hid hs
    clear hs
    go_wp2_with fail
    go_roundw
    case rel=>exact ⟨k + 1,HLT.out,by first | exact nr_idx k | exact nx_idx HLT.out (by omega),HS1⟩
    case measure=>first | exact nr_meas HLT.out | exact nx_meas HLT.out (by omega)
   ·have HS1:=hid (HB.out w1 (.cells #[.int .i64 (k : Int),.iface Ty (.pointer (some ea))] 84) hs)
    clear hs
    go_wp2_with fail
    go_ret
    exact Or.inr ⟨⟨_,_,rfl⟩,HS1.out⟩
  ·have hkI:=ix_nlt hlt
   have hkX : k = D.length:=by omega
   rw [hkX] at HS
   clear hlt
   go_wp2_with fail
   go_ret
   exact Or.inl ⟨rfl,HS.out⟩
set_option maxRecDepth 100000 in
theorem ch1_any (i : Int) (p q : ByteArray) (lb bb pb b : Nat) (v sv : Value) (W : World) (Po : Ending -> World -> Prop) (hv : ∃ a n c,v = .slice a n c) (hsv : ∃ a n c,sv = .slice a n c)
  (h1 : W.cell? ⟨lb,0,none⟩ = some v) (h2 : W.cell? ⟨bb,0,none⟩ = some sv) (h3 : W.cell? ⟨pb,0,none⟩ = some (.map (some b)))
  (hP : Calls Tryz.prog 53 #[v,sv,.agg #[.string p,.string q],.map (some b)] (W.alloc (.cells #[.string p,.string q] 78)) fun e w'=>(∃ x,e = .returned x /\ (x = .nilIface \/ ∃ Ty a,x = .iface Ty (.pointer (some a)))) /\ Po e w') :
  Calls Tryz.prog 52 (#[.int .i64 i,.agg #[.string p,.string q]] ++ #[.pointer (some ⟨lb,0,none⟩),.pointer (some ⟨bb,0,none⟩),.pointer (some ⟨pb,0,none⟩)]) W fun e w'=>Po e w':=by
 show Calls Tryz.prog 52 #[.int .i64 i,.agg #[.string p,.string q],.pointer (some ⟨lb,0,none⟩),.pointer (some ⟨bb,0,none⟩),.pointer (some ⟨pb,0,none⟩)] W _
 have HB0:=hid ((Below.refl W.heap.size W).alloc (Nat.le_refl _) (.cells #[.string p,.string q] 78))
 have c1:=cell_below HB0.out h1
 have c2:=cell_below HB0.out h2
 have c3:=cell_below HB0.out h3
 have l1:=lt_of_cell h1
 have l2:=lt_of_cell h2
 have l3:=lt_of_cell h3
 have HP:=hid hP
 obtain ⟨va,vn,vc,hvs⟩:=hv
 obtain ⟨sa,sn,sc,hss⟩:=hsv
 subst hvs
 subst hss
 clear h1 h2 h3 hP
 go_enter Tryz.func52,Tryz.ntmps52
 go_wp2_with fail
 refine HP.out.mono ?_
 rintro e w1 ⟨⟨x,rfl,hx⟩,hp⟩
 have HPo:=hid hp
 rcases hx with rfl | ⟨Ty,ea,rfl⟩
 ·clear hp
  go_wp2_with fail
  exact HPo.out
 ·clear hp
  go_wp2_with fail
  exact HPo.out
set_option maxRecDepth 100000 in
theorem ch2_any (i : Int) (p q : ByteArray) (bb nb pb b : Nat) (sv nv : Value) (W : World) (Po : Ending -> World -> Prop) (hsv : ∃ a n c,sv = .slice a n c) (hnv : ∃ a n c,nv = .slice a n c)
  (h1 : W.cell? ⟨bb,0,none⟩ = some sv) (h2 : W.cell? ⟨nb,0,none⟩ = some nv) (h3 : W.cell? ⟨pb,0,none⟩ = some (.map (some b)))
  (hP : Calls Tryz.prog 56 #[sv,nv,.agg #[.string p,.string q],.map (some b)] (W.alloc (.cells #[.string p,.string q] 78)) fun e w'=>(∃ x,e = .returned x /\ (x = .nilIface \/ ∃ Ty a,x = .iface Ty (.pointer (some a)))) /\ Po e w') :
  Calls Tryz.prog 55 (#[.int .i64 i,.agg #[.string p,.string q]] ++ #[.pointer (some ⟨bb,0,none⟩),.pointer (some ⟨nb,0,none⟩),.pointer (some ⟨pb,0,none⟩)]) W fun e w'=>Po e w':=by
 show Calls Tryz.prog 55 #[.int .i64 i,.agg #[.string p,.string q],.pointer (some ⟨bb,0,none⟩),.pointer (some ⟨nb,0,none⟩),.pointer (some ⟨pb,0,none⟩)] W _
 have HB0:=hid ((Below.refl W.heap.size W).alloc (Nat.le_refl _) (.cells #[.string p,.string q] 78))
 have c1:=cell_below HB0.out h1
 have c2:=cell_below HB0.out h2
 have c3:=cell_below HB0.out h3
 have l1:=lt_of_cell h1
 have l2:=lt_of_cell h2
 have l3:=lt_of_cell h3
 have HP:=hid hP
 obtain ⟨sa,sn,sc,hss⟩:=hsv
 obtain ⟨na,nn,nc,hns⟩:=hnv
 subst hns
 subst hss
 clear h1 h2 h3 hP
 go_enter Tryz.func55,Tryz.ntmps55
 go_wp2_with fail
 refine HP.out.mono ?_
 rintro e w1 ⟨⟨x,rfl,hx⟩,hp⟩
 have HPo:=hid hp
 rcases hx with rfl | ⟨Ty,ea,rfl⟩
 ·clear hp
  go_wp2_with fail
  exact HPo.out
 ·clear hp
  go_wp2_with fail
  exact HPo.out
end Ve
end Go.Proofs.YtjbmjnbkibmkpaaGreatDoor
