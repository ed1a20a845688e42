
import Derived.Test.YtjbmjnbkibmkpaaGreatDoorGt16
import Derived.Deep.RegionLaw
import Derived.Deep.AppendLies
import Derived.RangeFuncBox
import Derived.RangeFuncLeaves
import Derived.RangeFuncCalls
import Derived.Shelf.Abstract
import Derived.OwnWalkIn
import Derived.TacticsInMore
import Derived.LoopNIn
import Derived.LoopIn
import Derived.Maps.AppendAt
import Derived.Test.YtjbmjnbkibmkpaaGreatDoorGt9
set_option maxHeartbeats 8000000
namespace Go.Proofs.YtjbmjnbkibmkpaaGreatDoor
open Go.RowKit
namespace Ve
theorem infoIntD : (Tryz.prog.info? 3).map (fun i=>(i.zero,i.size,i.bytes)) = some (some (.int .i64 0),1,8):=by kernel_rfl
theorem infoInts : (Tryz.prog.info? 101).map (fun i=>(i.zero,i.size,i.bytes)) = some (some (.slice none 0 0),1,24):=by kernel_rfl
theorem made_slices (n : Nat) : madeCells (Value.slice none 0 0).cells n = (List.replicate n (Value.slice none 0 0)).toArray:=by
 unfold madeCells
 simp [Value.cells]
 apply Array.ext
 ·simp
 ·intro i h1 h2
  simp [Nat.mod_one]
theorem make_slices (n : Nat) (w : World) (hn : n <= 1000000) : (Instr.makeSlice 231 (.int .i64 (n : Int)) (.int .i64 (n : Int))).run Tryz.prog w = .ok (.slice (some ⟨w.heap.size,0,none⟩) n n) (w.alloc (.cells (List.replicate n (Value.slice none 0 0)).toArray 101)):=by
 obtain ⟨i0,hi,hz0,hz1,hz2⟩:=info_parts infoInts
 have h:=run_makeSlice (P:=Tryz.prog) w 231 101 i0 (.slice none 0 0) Tryz.underlying231 hi hz0 .i64 .i64 (n : Int) (n : Int) (by omega) (by omega) (by rw [hz1]; simp; omega) (by rw [hz2]; omega) (by omega)
 rw [hz1] at h
 simp only [Int.toNat_natCast,Nat.mul_one] at h
 rw [made_slices] at h
 exact h
def plV (P : List Nat) : List Value:=P.map fun (k : Nat)=>Value.int .i64 (k : Int)
theorem plV_app (P : List Nat) (k : Nat) : plV (P ++ [k]) = plV P ++ [.int .i64 (k : Int)]:=by simp [plV]
theorem own_ia {W : World} {B : Nat} {v : Value} {P : List Nat} (h : W.ownsRow B 3 1 v P.length (plV P)) : IaAt W v P:=by
 obtain ⟨_,⟨hv,hn0⟩ | ⟨g,cap,cur,hv,hg,hblk,hcap,hcm,hcs,hct⟩⟩:=h
 ·exact ⟨none,0,by rw [hv,hn0],fun hP=>absurd (List.length_eq_zero_iff.1 hn0) hP⟩
 ·refine ⟨_,cap,hv,fun _=>⟨g,0,rfl,fun j hj=>?_⟩⟩
  have h1 : (plV P)[j]? = some (.int .i64 (P[j] : Int)):=by simp [plV,hj]
  rw [<- hct,List.getElem?_take,if_pos (by omega)] at h1
  simp only [World.cell?,hblk]
  rw [Nat.zero_add,<- h1]; simp
theorem own_neK {w : World} {B k : Nat} {e T : TypeId} {v : Value} {n : Nat} {xs : List Value} {b : Nat} {cs : Array Value} {fr : Nat × Nat} (hown : w.ownsRow B e k v n xs) (hb : w.heap[b]? = some (.cells cs T fr)) (hTe : T ≠ e) : v.ownBlock ≠ some b:=by
 rcases hown.2 with ⟨rfl,_⟩ | ⟨g,cap,cur,rfl,_,hg,_⟩
 ·simp [Value.ownBlock]
 ·intro h
  simp only [Value.ownBlock,Option.some.injEq] at h
  subst h
  rw [hg] at hb
  simp at hb
  exact hTe hb.2.1.symm
theorem gr_below {A B C : World} {row : Option Nat} (h : A.grownBy B row) (k : Below B.heap.size B C) : A.grownBy C row:=
 ⟨k.os.trans h.os,k.tape.trans h.tape,k.output.trans h.output,Nat.le_trans h.size k.size,fun b hb hne=>(k.block b (Nat.lt_of_lt_of_le hb h.size)).trans (h.block b hb hne)⟩
theorem gr_far {A B C : World} {row : Option Nat} {r2 : Option Nat} (h : A.grownBy B row) (k : B.grownBy C r2) (hr : ∀ g,r2 = some g -> A.heap.size <= g) : A.grownBy C row:=
 ⟨k.os.trans h.os,k.tape.trans h.tape,k.output.trans h.output,Nat.le_trans h.size k.size,fun b hb hne=>(k.block b (Nat.lt_of_lt_of_le hb h.size) (fun e=>by have:=hr b e.symm; omega)).trans (h.block b hb hne)⟩
theorem gr_set {A B : World} {g o : Nat} {x : Value} (h : A.grownBy B (some g)) : A.grownBy (B.setCell ⟨g,o,none⟩ x) (some g):=
 ⟨h.os,h.tape,h.output,by simp [World.setCell]; exact h.size,fun b hb hne=>(Below.heap_setCell _ _ _ _ (fun e=>hne (by rw [e]))).trans (h.block b hb hne)⟩
theorem gr_self (W : World) (row : Option Nat) : W.grownBy W row:=⟨rfl,rfl,rfl,Nat.le_refl _,fun _ _ _=>rfl⟩
theorem IaAt.grown {W W' : World} {g : Nat} {v : Value} {P : List Nat} {vs : List Value} {T : TypeId} (h : IaAt W v P) (hg : W.heap[g]? = some (.cells vs.toArray T (0,0))) (hs : ∀ x,x ∈ vs -> ∃ a n c,x = .slice a n c) (k : W.grownBy W' (some g)) : IaAt W' v P:=by
 obtain ⟨a,c,rfl,h1⟩:=h
 refine ⟨a,c,rfl,fun hP=>?_⟩
 obtain ⟨b,o,rfl,h2⟩:=h1 hP
 refine ⟨b,o,rfl,fun j hj=>?_⟩
 have h3:=h2 j hj
 have hne : b ≠ g:=fun e=>by
  subst e
  rw [Lib.cell_of_heap hg] at h3
  have h4 : vs[o + j]? = some (.int .i64 (P[j] : Int)):=by simpa using h3
  obtain ⟨a,n,c,e⟩:=hs _ (List.mem_of_getElem? h4)
  cases e
 rw [World.cell?_of_block (k.block b (lt_of_cell h3) (by simpa using hne))]
 exact h3
structure Nv (W : World) (g : Nat) (vs : List Value) (NV : List (List Nat)) : Prop where
 hp : W.heap[g]? = some (.cells vs.toArray 101 (0,0))
 ln : vs.length = NV.length
 sl : ∀ x,x ∈ vs -> ∃ a n c,x = .slice a n c
 ia : ∀ j (h : j < vs.length) (h' : j < NV.length),IaAt W vs[j] NV[j]
structure Nw (w W : World) (g : Nat) (vs : List Value) (NV : List (List Nat)) (i : Nat) : Prop where
 bl : Below w.heap.size w W
 lo : w.heap.size <= g
 hp : W.heap[g]? = some (.cells vs.toArray 101 (0,0))
 ln : vs.length = NV.length
 sl : ∀ x,x ∈ vs -> ∃ a n c,x = .slice a n c
 ia : ∀ j (h : j < vs.length) (h' : j < NV.length),j < i -> IaAt W vs[j] NV[j]
 ze : ∀ j (h : j < vs.length),i <= j -> vs[j] = .slice none 0 0
theorem Nw.below {w W W' : World} {g i : Nat} {vs : List Value} {NV : List (List Nat)} (h : Nw w W g vs NV i) (hb : Below W.heap.size W W') : Nw w W' g vs NV i:=
 ⟨h.bl.trans (hb.mono h.bl.size),h.lo,(hb.block _ (lt_of_blk h.hp)).trans h.hp,h.ln,h.sl,fun j a b c=>(h.ia j a b c).below hb,h.ze⟩
structure RqD (W1 W : World) (g i : Nat) (vs : List Value) (P : List Nat) (v : Value) : Prop where
 gr : W1.grownBy W (some g)
 hp : W.heap[g]? = some (.cells (vs.set i v).toArray 101 (0,0))
 ow : W.ownsRow W1.heap.size 3 1 v P.length (plV P)
theorem RqD.below {W1 W W' : World} {g i : Nat} {vs : List Value} {P : List Nat} {v : Value} (h : RqD W1 W g i vs P v) (hb : Below W.heap.size W W') : RqD W1 W' g i vs P v:=
 ⟨gr_below h.gr hb,(hb.block _ (lt_of_blk h.hp)).trans h.hp,owns_below h.ow hb⟩
theorem RqD.more {W1 W w3 w4 : World} {g i k : Nat} {vs : List Value} {P : List Nat} {v v' : Value} {o : Obj} (h : RqD W1 W g i vs P v) (hb : Below W.heap.size W w3) (hown : w4.ownsRow W1.heap.size 3 1 v' (P.length + 1) (plV P ++ [.int .i64 (k : Int)])) (hg : (w3.alloc o).grownBy w4 v.ownBlock) :
  RqD W1 (w4.setCell ⟨g,i,none⟩ v') g i vs (P ++ [k]) v':=by
 have h3:=(h.below hb).below ((Below.refl w3.heap.size w3).alloc (Nat.le_refl _) o)
 have hne : v.ownBlock ≠ some g:=own_neK h3.ow h3.hp (by decide)
 have h4 : w4.heap[g]? = some (.cells (vs.set i v).toArray 101 (0,0)):=(hg.block g (lt_of_blk h3.hp) (fun e=>hne e.symm)).trans h3.hp
 refine ⟨gr_set (gr_far h3.gr hg (fun b e=>(h3.ow.lt b e).1)),?_,?_⟩
 ·rw [set_block h4,List.setIfInBounds_toArray,List.set_set]
 ·rw [plV_app,List.length_append]
  exact own_setN hown h4 (by decide)
theorem Nw.next {w W1 W : World} {g i : Nat} {vs : List Value} {NV : List (List Nat)} {P : List Nat} {v : Value} (h : Nw w W1 g vs NV i) (r : RqD W1 W g i vs P v) (hP : ∀ (h' : i < NV.length),NV[i] = P) : Nw w W g (vs.set i v) NV (i + 1):=by
 have hsl : ∃ a n c,v = .slice a n c:=by
  obtain ⟨_,⟨e,_⟩ | ⟨g,cap,cur,e,_⟩⟩:=r.ow
  ·exact ⟨_,_,_,e⟩
  ·exact ⟨_,_,_,e⟩
 refine ⟨h.bl.grown r.gr h.bl.size (fun b e=>by cases e; exact h.lo),h.lo,r.hp,by rw [List.length_set]; exact h.ln,fun x hx=>?_,fun j h1 h2 h3=>?_,fun j h1 h2=>?_⟩
 ·rcases List.mem_or_eq_of_mem_set hx with hx | rfl
  ·exact h.sl x hx
  ·exact hsl
 ·rw [List.getElem_set]
  by_cases e : i = j
  ·subst e
   rw [if_pos rfl,hP h2]
   exact own_ia r.ow
  ·rw [if_neg e]
   exact (h.ia j (by simpa using h1) h2 (by omega)).grown h.hp h.sl r.gr
 ·rw [List.getElem_set,if_neg (by omega)]
  exact h.ze j (by simpa using h1) (by omega)
def nvL (Q : List Raw) (L : List Ent) : List (List Nat):=L.map fun e=>e.2.1.map fun m=>(idxOf (isM m) Q).toNat
theorem nvL_nd {w : World} {v : Value} {Q : List Raw} {L : List Ent} (I : Ixs w v Q L) (h : (chk Q L).1 = 0) : Nd (reqQ Q L) (univ L) (nvL Q L):=by
 have hU : (univ L).length = L.length:=univ_len L
 refine ⟨by simp [nvL,univ],fun i hi hi' r hr=>?_,fun i hi hi' k hk=>?_⟩
 ·obtain ⟨k,hk,e1,e2⟩:=idx_univ I (chk_reqs0 I h _ (List.getElem_mem hi) r hr)
  refine ⟨k,hk,?_,e2⟩
  rw [req_at I h (by omega) hi] at hr
  simp only [nvL,List.getElem_map]
  exact List.mem_map.2 ⟨r,hr,by rw [e1]; rfl⟩
 ·simp only [nvL,List.getElem_map] at hk
  obtain ⟨m,hm,rfl⟩:=List.mem_map.1 hk
  have hm2 : m ∈ reqQ Q L (univ L)[i]:=by rw [req_at I h (by omega) hi]; exact hm
  obtain ⟨k,hk,e1,e2⟩:=idx_univ I (chk_reqs0 I h _ (List.getElem_mem hi) m hm2)
  rw [e1]
  exact ⟨hk,by simp only [Int.toNat_natCast]; rw [e2]; exact hm2⟩
set_option maxRecDepth 100000 in
theorem required_any (Q : List Raw) (L : List Ent) (v : Value) (w : World) (hn : L.length <= 1000) (sh : ∀ e,e ∈ L -> ShE e) (I : Ixs w v Q L) (h0 : (chk Q L).1 = 0) :
  Calls Tryz.prog 204 #[v] w fun e w'=>e = .returned (.slice (some ⟨w.heap.size,0,none⟩) Q.length Q.length) /\ ∃ vs,Nv w' w.heap.size vs (nvL Q L) /\ Below w.heap.size w w':=by
 have hqn : Q.length <= 1000:=by rw [I.ln]; exact hn
 have HLN:=hid I.ln
 have HI:=hid (fun W (h : Below w.heap.size w W)=>I.below h)
 have HFI:=hid (fun (x : Bm) W (h : Below w.heap.size w W)=>find_any Q x v W (by omega) (I.below h).es)
 have HSZ:=hid (fun i (h : i < L.length)=>(sh L[i] (List.getElem_mem h)).rn)
 have HK:=hid (fun i (h : i < L.length) (m : Bm) (hm : m ∈ L[i].2.1)=>show ∃ k : Nat,idxOf (isM m) Q = (k : Int) by
  have hi : i < (univ L).length:=by rw [univ_len]; exact h
  obtain ⟨k,_,e,_⟩:=idx_univ I (chk_reqs0 I h0 _ (List.getElem_mem hi) m (by rw [req_at I h0 h hi]; exact hm))
  exact ⟨k,e⟩)
 have HNL:=hid (show (nvL Q L).length = Q.length by rw [I.ln]; simp [nvL])
 have HNV:=hid (fun i (h : i < L.length) (h' : i < (nvL Q L).length)=>show (nvL Q L)[i] = L[i].2.1.map fun m=>(idxOf (isM m) Q).toNat by simp [nvL])
 have hmk:=make_slices Q.length w (by omega)
 have HN0:=hid (show Nw w (w.alloc (.cells (List.replicate Q.length (Value.slice none 0 0)).toArray 101)) w.heap.size (List.replicate Q.length (Value.slice none 0 0)) (nvL Q L) 0 from
  ⟨(Below.refl w.heap.size w).alloc (Nat.le_refl _) _,Nat.le_refl _,heap_new w _,by rw [HNL.out]; simp,fun x hx=>⟨none,0,0,(List.mem_replicate.1 hx).2⟩,fun j _ _ h=>absurd h (Nat.not_lt_zero _),fun j _ _=>by simp⟩)
 obtain ⟨i0,hi0,hz0,hz1,hz2⟩:=info_parts infoIntD
 obtain ⟨a,c,hv1,-⟩:=id I.es
 subst hv1
 clear I sh h0 hn
 generalize nvL Q L = NV at *
 go_enter Tryz.func204,Tryz.ntmps204
 go_wp2_with fail
 clear hmk
 go_loopw [13] (fun iv wr=>∃ i : Nat,i <= Q.length /\ iv = .int .i64 i /\ Hid (∃ vs,Nw w wr w.heap.size vs NV i)) (fun iv _=>Q.length - (intOf iv).toNat)
 case atStart=>exact ⟨0,Nat.zero_le _,rfl,hid ⟨_,HN0.out⟩⟩
 case round=>
  obtain ⟨i,hi,rfl,HO⟩:=hrel
  obtain ⟨vs,hN⟩:=HO.out
  by_cases hlt : i < Q.length
  ·have hiI : (i : Int) < (Q.length : Int):=by omega
   have hii : (0 : Int) <= (i : Int):=by omega
   have HLI:=hid hlt
   have hil : i < L.length:=by rw [<- HLN.out]; exact hlt
   have hiv : i < vs.length:=by rw [hN.ln,HNL.out]; exact hlt
   have hin : i < NV.length:=by rw [HNL.out]; exact hlt
   have hes:=(HI.out _ hN.bl).es
   obtain ⟨b,o,hab⟩ : ∃ b o,a = some ⟨b,o,none⟩:=by
    obtain ⟨a',c',e,_,_,h⟩:=hes
    injection e with q1 q2 q3
    obtain ⟨b,o,h4,_⟩:=h (fun h=>by rw [h] at hlt; simp at hlt)
    exact ⟨b,o,by rw [q1,h4]⟩
   subst hab
   obtain ⟨hsl,x0,x1,x2,x3,x4⟩:=es_all hes hlt
   have HMS:=hid (fun W (h : Below w.heap.size w W)=>((HI.out W h).ok i hlt hil).rq)
   have hRl:=HSZ.out i hil
   have HKR:=hid (fun m hm=>HK.out i hil m hm)
   have HNR:=hid (HNV.out i hil hin)
   have HVI:=hid (fun (h : i < vs.length)=>hN.ze i h (Nat.le_refl _))
   generalize (L[i]'hil).2.1 = R at *
   generalize Q[i] = xq at *
   obtain ⟨⟨p,q⟩,rv,pv,bk⟩:=xq
   obtain ⟨⟨ra,rn,rc,hrv⟩,pa,pn,pc,hpv⟩:=hsl
   simp only at hrv hpv x0 x1 x2 x3 x4 HMS
   subst hrv
   subst hpv
   obtain ⟨ra',rc',hrv,-⟩:=HMS.out w (Below.refl _ _)
   injection hrv with e1 e2 e3
   subst e1 e2 e3
   have HBa:=hid ((Below.refl wr.heap.size wr).alloc (Nat.le_refl _) (.cells #[.string p,.string q,.slice ra R.length rc,.slice pa pn pc,.bool bk] 54))
   have HNa:=hid (hN.below HBa.out)
   have HIV:=hid hiv
   clear hlt hil hes hN HO hiv
   go_wp2_with fail
   generalize wr.alloc (.cells #[.string p,.string q,.slice ra R.length rc,.slice pa pn pc,.bool bk] 54) = W1 at *
   have HR0:=hid (show RqD W1 W1 w.heap.size i vs [] (.slice none 0 0) from ⟨gr_self _ _,by
    have e : vs.set i (Value.slice none 0 0) = vs:=by rw [<- HVI.out HIV.out]; exact List.set_getElem_self _
    rw [e]; exact HNa.out.hp,World.ownsRow_nil _ _ _ _⟩)
   clear x0 x1 x2 x3 x4
   go_loopw [21] (fun kv wr=>∃ k : Nat,k <= R.length /\ kv = .int .i64 k /\ Hid (∃ P v,RqD W1 wr w.heap.size i vs P v /\ P = (R.take k).map fun m=>(idxOf (isM m) Q).toNat)) (fun kv _=>R.length - (intOf kv).toNat)
   case atStart=>exact ⟨0,Nat.zero_le _,rfl,hid ⟨[],_,HR0.out,rfl⟩⟩
   case round=>
    clear HBa
    obtain ⟨k,hk,rfl,HS⟩:=hrel
    obtain ⟨P,v,hR,hP⟩:=HS.out
    have hBw : Below w.heap.size w wr:=HNa.out.bl.grown hR.gr HNa.out.bl.size (fun b e=>by cases e; exact HNa.out.lo)
    by_cases hlk : k < R.length
    ·have hkI : (k : Int) < (R.length : Int):=by omega
     have hk0 : (0 : Int) <= (k : Int):=by omega
     have HLK:=hid hlk
     obtain ⟨xb,xo,hxa,yy0,yy1⟩:=(HMS.out _ hBw).cells hlk
     subst hxa
     obtain ⟨x,hx,y0,y1,hxm⟩ : ∃ x : Bm,(R.take (k + 1)).map (fun m=>(idxOf (isM m) Q).toNat) = (R.take k).map (fun m=>(idxOf (isM m) Q).toNat) ++ [(idxOf (isM x) Q).toNat] /\ wr.cell? ⟨xb,xo + k * 2,none⟩ = some (.string x.1) /\ wr.cell? ⟨xb,xo + k * 2 + 1,none⟩ = some (.string x.2) /\ x ∈ R:=⟨_,by rw [List.take_succ_eq_append_getElem hlk,List.map_append]; rfl,yy0,yy1,List.getElem_mem hlk⟩
     clear yy0 yy1
     obtain ⟨n,hn⟩:=HKR.out x hxm
     have HPN:=hid (show P ++ [n] = (R.take (k + 1)).map fun m=>(idxOf (isM m) Q).toNat by
      rw [hx,<- hP,hn]; rfl)
     have HPL:=hid (show P.length <= 1000000 by rw [hP]; simp; omega)
     have HF:=hid (fun W (h : Below w.heap.size w W)=>HFI.out x W h)
     rw [hn] at HF
     clear hx hxm
     obtain ⟨x1,x2⟩:=x
     have HRR:=hid hR
     have HBW:=hid hBw
     obtain ⟨va,vn,vc,hv⟩ : ∃ a n c,v = .slice a n c:=by
      obtain ⟨_,⟨e,_⟩ | ⟨g,cap,cur,e,_⟩⟩:=hR.ow
      ·exact ⟨_,_,_,e⟩
      ·exact ⟨_,_,_,e⟩
     have hgl:=HIV.out
     have HGI:=hid (fun W (h : RqD W1 W w.heap.size i vs P v)=>show W.cell? ⟨w.heap.size,i,none⟩ = some v /\ ∀ o,W.frozen? ⟨w.heap.size,o,none⟩ = false from ⟨by rw [Lib.cell_of_heap h.hp]; simp [hgl],fun o=>Lib.frozen_of_heap h.hp o⟩)
     subst hv
     have HAl:=hid ((Below.refl wr.heap.size wr).alloc (Nat.le_refl _) (.cells #[.string x1,.string x2] 47))
     have HM0:=hid (heap_new wr (.cells #[.string x1,.string x2] 47))
     clear hlk hn hP hR HS hBw hgl
     go_wp2_with fail
     generalize wr.alloc (.cells #[.string x1,.string x2] 47) = wa at *
     have HRa:=hid (HRR.out.below HAl.out)
     have HBa:=hid (HBW.out.trans (HAl.out.mono HBW.out.size))
     obtain ⟨m0,m1,mf⟩:=box_two HM0.out
     obtain ⟨z0,zf⟩:=HGI.out wa HRa.out
     have HRd:=hid (fun W (h : Below wa.heap.size wa W)=>HRa.out.below h)
     go_region_law (first
      | (go_simp; go_at_call 127; refine (HF.out _ (HBa.out.trans ((below_drawn wa 1).mono HBa.out.size))).mono ?_; rintro e w3 ⟨rfl,hb⟩; have HB3:=hid ((below_drawn wa 1).trans (hb.mono (Nat.le_refl _))); obtain ⟨z1,zf1⟩:=HGI.out w3 (HRd.out w3 HB3.out); have hlt3 : w.heap.size < w3.heap.size:=lt_of_blk (HRd.out w3 HB3.out).hp; have hne3 : ¬ w.heap.size = w3.heap.size:=Nat.ne_of_lt hlt3; have hne3' : ¬ w3.heap.size = w.heap.size:=fun h=>hne3 h.symm; have z3:=cell_below ((Below.refl w3.heap.size w3).alloc (Nat.le_refl _) (.cells #[.int .i64 (n : Int)] 3)) z1; clear hb)
      | (refine step_append_lies _ (by rfl) _ _ 101 (by rfl) W1.heap.size 3 i0 _ 1 8 Tryz.underlying101 hi0 hz0 hz1 hz2 rfl (by decide) _ _ _ (by rfl) (((HRd.out w3 HB3.out).ow).alloc _) ⟨w3.heap.size,0,none⟩ 1 1 [.int .i64 (n : Int)] (by rfl) rfl (World.news_of_block (heap_new _ _)) (by intro u hu; simp at hu; subst hu; rfl) (by decide) (Nat.le_trans (Nat.add_le_add_right HPL.out 1) (by unfold maxLen; decide)) (by have:=HPL.out; omega) (Nat.le_trans (HRd.out w3 HB3.out).gr.size (by simp)) (w3.heap.size + 1) (by simp) ?_; intro g cap w4 hown hgrow hat hlt2; have HR4:=hid ((HRa.out).more HB3.out hown hgrow); have HG4:=hid hgrow; obtain ⟨z2,zf2⟩ : w4.cell? ⟨w.heap.size,i,none⟩ = some (.slice va vn vc) /\ ∀ o,w4.frozen? ⟨w.heap.size,o,none⟩ = false:=by
          have h3:=((HRd.out w3 HB3.out).below ((Below.refl w3.heap.size w3).alloc (Nat.le_refl _) (.cells #[.int .i64 (n : Int)] 3)))
          have hne:=own_neK h3.ow h3.hp (by decide)
          have hb:=hgrow.block w.heap.size (lt_of_blk h3.hp) (fun e=>hne e.symm)
          obtain ⟨c1,c2⟩:=HGI.out _ h3
          exact ⟨(World.cell?_of_block hb).trans c1,fun o=>(World.frozen?_of_block hb).trans (c2 o)⟩))
     all_goals
      have HNX:=hid (show ∃ P' v',RqD W1 (w4.setCell ⟨w.heap.size,i,none⟩ (.slice (some ⟨g,0,none⟩) (P.length + 1) cap)) w.heap.size i vs P' v' /\ P' = (R.take (k + 1)).map fun m=>(idxOf (isM m) Q).toNat from ⟨_,_,HR4.out,HPN.out⟩)
      clear hown hgrow hat hlt2 m0 m1 mf z0 zf z1 zf1 z2 zf2 z3 hlt3 hne3 hne3'
      go_wp2_with fail
      go_roundw
      case rel=>first | exact ⟨k + 1,HLK.out,nr_idx k,HNX⟩ | exact ⟨k + 1,HLK.out,nx_idx HLK.out (by omega),HNX⟩
      case measure=>first | exact nr_meas HLK.out | exact nx_meas HLK.out (by omega)
    ·have hkI : ¬ (k : Int) < (R.length : Int):=by omega
     have HNX:=hid (show ∃ vs,Nw w wr w.heap.size vs NV (i + 1) from ⟨_,HNa.out.next hR (fun h'=>by rw [HNR.out,hP,List.take_of_length_le (by omega)])⟩)
     clear hlk hR hP HS hBw
     go_wp2_with fail
     go_roundw
     case rel=>first | exact ⟨i + 1,HLI.out,nr_idx i,HNX⟩ | exact ⟨i + 1,HLI.out,nx_idx HLI.out (by omega),HNX⟩
     case measure=>first | exact nr_meas HLI.out | exact nx_meas HLI.out (by omega)
  ·have hiI : ¬ (i : Int) < (Q.length : Int):=by omega
   have HE:=hid (show ∃ vs,Nv wr w.heap.size vs NV /\ Below w.heap.size w wr from ⟨vs,⟨hN.hp,hN.ln,hN.sl,fun j h1 h2=>hN.ia j h1 h2 (by rw [HNL.out] at h2; omega)⟩,hN.bl⟩)
   clear hlt hN HO
   go_wp2_with fail
   go_ret
   exact ⟨rfl,let ⟨vs,h1,h2⟩:=HE.out; ⟨⟨vs,h1⟩,h2⟩⟩
end Ve
end Go.Proofs.YtjbmjnbkibmkpaaGreatDoor


namespace Go.Proofs.YtjbmjnbkibmkpaaGreatDoor
open Go.RowKit Go.Shelf
namespace Ve
attribute [local go_sem] Oper.semAt_some
structure Kx (n1 : Nat) (E : Nat -> Prop) (W W' : World) : Prop where
 os : W'.os = W.os
 tape : W'.tape = W.tape
 output : W'.output = W.output
 size : W.heap.size <= W'.heap.size
 block : ∀ b,b < n1 -> ¬ E b -> W'.heap[b]? = W.heap[b]?
theorem Kx.refl (n1 : Nat) (E : Nat -> Prop) (W : World) : Kx n1 E W W:=⟨rfl,rfl,rfl,Nat.le_refl _,fun _ _ _=>rfl⟩
theorem Kx.trans {n1 : Nat} {E : Nat -> Prop} {A B C : World} (h : Kx n1 E A B) (k : Kx n1 E B C) : Kx n1 E A C:=
 ⟨k.os.trans h.os,k.tape.trans h.tape,k.output.trans h.output,Nat.le_trans h.size k.size,fun b hb he=>(k.block b hb he).trans (h.block b hb he)⟩
theorem Kx.below {n1 : Nat} {E : Nat -> Prop} {W W' : World} (h : Below W.heap.size W W') (hn : n1 <= W.heap.size) : Kx n1 E W W':=
 ⟨h.os,h.tape,h.output,h.size,fun b hb _=>h.block b (Nat.lt_of_lt_of_le hb hn)⟩
theorem Kx.set {n1 g o : Nat} {E : Nat -> Prop} (W : World) (x : Value) (he : E g) : Kx n1 E W (W.setCell ⟨g,o,none⟩ x):=
 ⟨rfl,rfl,rfl,by simp [World.setCell],fun b _ hb=>Below.heap_setCell _ _ _ _ (fun e=>hb (by rw [e]; exact he))⟩
theorem Kx.grown {n1 : Nat} {E : Nat -> Prop} {W W' : World} {row : Option Nat} (h : W.grownBy W' row) (hn : n1 <= W.heap.size) (hr : ∀ r,row = some r -> n1 <= r) : Kx n1 E W W':=
 ⟨h.os,h.tape,h.output,h.size,fun b hb _=>h.block b (Nat.lt_of_lt_of_le hb hn) (fun e=>by have:=hr b e.symm; omega)⟩
theorem Kx.less {n1 n2 : Nat} {E E' : Nat -> Prop} {W W' : World} (h : Kx n1 E W W') (hn : n2 <= n1) (hE : ∀ b,b < n2 -> E b -> E' b) : Kx n2 E' W W':=
 ⟨h.os,h.tape,h.output,h.size,fun b hb he=>h.block b (Nat.lt_of_lt_of_le hb hn) (fun h2=>he (hE b hb h2))⟩
theorem Kx.put {n1 : Nat} {E : Nat -> Prop} (W : World) (l : Nat) (o' : Obj) (hl : n1 <= l) : Kx n1 E W (W.putObj l o'):=
 ⟨rfl,rfl,rfl,by simp,fun b hb _=>World.putObj_heap_other (by omega)⟩
theorem Kx.cell {n1 : Nat} {E : Nat -> Prop} {W W' : World} {a : Addr} {v : Value} (h : Kx n1 E W W') (hc : W.cell? a = some v) (hb : a.block < n1) (he : ¬ E a.block) : W'.cell? a = some v:=(World.cell?_of_block (h.block _ hb he)).trans hc
def ivD : Nat -> Value
 | 0=>.int .i64 (-1)
 | k + 1=>.int .i64 (k : Int)
theorem ivD_next (k : Nat) : Value.int .i64 ((k : Int) - 1) = ivD k:=by
 cases k with
 | zero=>rfl
 | succ k=>show Value.int .i64 (((k + 1 : Nat) : Int) - 1) = .int .i64 (k : Int); congr 1; omega
theorem ivD_start (n : Nat) : Value.int .i64 ((n : Int) - 1) = ivD n:=ivD_next n
abbrev Pl (vs : List Value) : Type:={ i : Nat // i < vs.length }
def encP (vs : List Value) (x : Pl vs) : Array Value:=#[.int .i64 (x.1 : Int),vs[x.1]'x.2]
set_option maxRecDepth 100000 in
theorem back1_in (F : Fence) (n : Nat) (hf : F.fn 287) (hro : F.round = none) (hn : 1 <= n) (l Bs n1 g c : Nat) (vs : List Value) (hreach : vs.length <= 1000000) (E : Nat -> Prop) (hsl : ∀ x,x ∈ vs -> ∃ a n c,x = .slice a n c) (J Jx : List (Pl vs) -> World -> Prop)
  (hY : ∀ pre x W,J pre W -> pre.length < vs.length -> YieldAt F (n - 1) Tryz.prog l (encP vs x) W fun e W'=>
   (e = .returned (.bool true) /\ J (pre ++ [x]) W' /\ Kx n1 E W W') \/ (e = .returned (.bool false) /\ Jx (pre ++ [x]) W'))
  (W : World) (hBs : W.cell? ⟨Bs,0,none⟩ = some (.slice (some ⟨g,0,none⟩) vs.length c)) (hg : ∀ j (h : j < vs.length),W.cell? ⟨g,j,none⟩ = some vs[j]) (hb1 : Bs < n1) (hb2 : ¬ E Bs) (hg1 : g < n1) (hg2 : ¬ E g) (h0 : J [] W) :
  CallsIn F n Tryz.prog 287 #[.func (.yield l) #[] #[],.pointer (some ⟨Bs,0,none⟩)] W fun e W'=>(∃ v,e = .returned v) /\
   ((∃ ys : List (Pl vs),(∀ x : Pl vs,x ∈ ys) /\ J ys W') \/ (∃ pre,True /\ Jx pre W')):=by
 refine callsIn_of_wp Tryz.func287 rfl hf ?_ hro
 simp only [Tryz.ntmps287,List.size_toArray,List.length_cons,List.length_nil,Nat.reduceAdd,Nat.reduceSub,Array.replicate_succ,Array.replicate_zero,List.push_toArray,List.append_toArray,List.nil_append,List.cons_append]
 have hst : wrap64 ((vs.length : Int) - 1) = (vs.length : Int) - 1:=IntWalk.wrap64_in _ (by omega)
 have HST:=hid (ivD_start vs.length)
 gi_wp2
 gi_loopw [3] (fun iv wr=>∃ (k : Nat) (pre : List (Pl vs)),k <= vs.length /\ iv = ivD k /\ Hid (pre.length + k = vs.length /\ (∀ x : Pl vs,k <= x.1 -> x ∈ pre) /\ J pre wr /\ Kx n1 E W wr))
  (fun iv _=>(intOf iv + 1).toNat)
 case atStart=>exact ⟨vs.length,[],Nat.le_refl _,by rw [<- HST.out],hid ⟨by simp,fun x h=>absurd x.2 (by omega),h0,Kx.refl _ _ _⟩⟩
 case round=>
  obtain ⟨k,pre,hk,rfl,HJ⟩:=hrel
  cases k with
  | zero=>
   show Code.wpIn _ _ _ _ _ _ _
   unfold ivD
   gi_wp2
   go_end0
   exact ⟨⟨_,rfl⟩,.inl ⟨pre,fun x=>HJ.out.2.1 x (Nat.zero_le _),HJ.out.2.2.1⟩⟩
  | succ k=>
   have hkl : k < vs.length:=by omega
   obtain ⟨fn,tmps,assign,body,hy,hR⟩:=hY pre ⟨k,hkl⟩ wr HJ.out.2.2.1 (by have:=HJ.out.1; omega)
   have c1:=HJ.out.2.2.2.cell hBs hb1 hb2
   have c2:=HJ.out.2.2.2.cell (hg k hkl) hg1 hg2
   obtain ⟨sa,sn,sc,hsx⟩:=hsl vs[k] (List.getElem_mem hkl)
   unfold encP at hy
   simp only [hsx] at hy c2
   have hkI : (k : Int) < (vs.length : Int):=by omega
   have hk0 : (0 : Int) <= (k : Int):=by omega
   have hw1 : wrap64 ((k : Int) - 1) = (k : Int) - 1:=IntWalk.wrap64_in _ (by omega)
   have HNX:=hid (ivD_next k)
   unfold ivD
   gi_wp2
   refine hR.mono ?_
   rintro e W3 (⟨rfl,hJ3,hk3⟩ | ⟨rfl,hJx3⟩)
   ·gi_wp2
    go_roundw
    case rel=>exact ⟨k,pre ++ [⟨k,hkl⟩],by omega,HNX.out,hid ⟨by have:=HJ.out.1; simp; omega,fun x hx=>by
     rcases Nat.lt_or_ge k x.1 with h | h
     ·exact List.mem_append_left _ (HJ.out.2.1 x h)
     ·have : x = ⟨k,hkl⟩:=Subtype.ext (by have h1 : k <= x.1:=hx; show x.1 = k; omega)
      rw [this]; simp,hJ3,HJ.out.2.2.2.trans hk3⟩⟩
    case measure=>first | (simp [intOf]; done) | (simp [intOf]; omega)
   ·gi_wp2
    refine bodyPost_ret (results_none rfl _ _ _) rfl ?_
    exact ⟨⟨_,rfl⟩,.inr ⟨_,trivial,hJx3⟩⟩
theorem back_any (a : Option Addr) (len cap : Nat) (w : World) :
  Calls Tryz.prog 262 #[.slice a len cap] w fun e w'=>e = .returned (.func (.func 287) #[] #[.pointer (some ⟨w.heap.size,0,none⟩)]) /\ w' = w.alloc (.cells #[.slice a len cap] 231):=by
 go_enter Tryz.func262,Tryz.ntmps262
 go_wp2_with fail
 go_ret
 exact ⟨rfl,rfl⟩
structure Spd (req : Bm -> List Bm) (caps U : List Bm) (NV : List (List Nat)) (O O' : List Bool) (ch : Bool) (D : Nat -> Prop) : Prop where
 sd : Sd req caps U O'
 le : unm O' <= unm O
 lt : ch = true -> unm O' < unm O
 qt : ch = false -> O' = O /\ ∀ i,D i -> Qt NV O i
theorem Spd.start {req : Bm -> List Bm} {caps U : List Bm} {NV : List (List Nat)} {O : List Bool} (S : Sd req caps U O) : Spd req caps U NV O O false (fun _=>False):=
 ⟨S,Nat.le_refl _,fun h=>(by cases h),fun _=>⟨rfl,fun _ h=>h.elim⟩⟩
theorem Spd.more {req : Bm -> List Bm} {caps U : List Bm} {NV : List (List Nat)} {O O' : List Bool} {ch : Bool} {D D' : Nat -> Prop} (h : Spd req caps U NV O O' ch D) (N : Nd req U NV) {i : Nat} (hi : i < U.length) (hi' : i < NV.length) (hO : i < O'.length) (h0 : O'[i] = false) (ha : anyO O' NV[i] = true) : Spd req caps U NV O (O'.set i true) true D':=
 ⟨h.sd.set N hi hi' ha,by have:=unm_set _ _ hO h0; have:=h.le; omega,fun _=>by have:=unm_set _ _ hO h0; have:=h.le; omega,fun e=>(by cases e)⟩
theorem Spd.skip {req : Bm -> List Bm} {caps U : List Bm} {NV : List (List Nat)} {O O' : List Bool} {ch : Bool} {D D' : Nat -> Prop} (h : Spd req caps U NV O O' ch D) {i : Nat} (hD : ∀ j,D' j -> D j \/ j = i) (hq : Qt NV O' i) : Spd req caps U NV O O' ch D':=
 ⟨h.sd,h.le,h.lt,fun e=>⟨(h.qt e).1,fun j hj=>by
  rcases hD j hj with h1 | rfl
  ·exact (h.qt e).2 j h1
  ·have:=(h.qt e).1
   rw [this] at hq; exact hq⟩⟩
theorem Spd.wide {req : Bm -> List Bm} {caps U : List Bm} {NV : List (List Nat)} {O O' : List Bool} {ch : Bool} {D D' : Nat -> Prop} (h : Spd req caps U NV O O' ch D) (hD : ∀ j,D' j -> D j) : Spd req caps U NV O O' ch D':=
 ⟨h.sd,h.le,h.lt,fun e=>⟨(h.qt e).1,fun j hj=>(h.qt e).2 j (hD j hj)⟩⟩
end Ve
end Go.Proofs.YtjbmjnbkibmkpaaGreatDoor


namespace Go.Proofs.YtjbmjnbkibmkpaaGreatDoor
open Go.RowKit Go.Shelf
namespace Ve
attribute [local go_sem] Oper.semAt_some
theorem IaAt.kx {W W' : World} {n1 : Nat} {E : Nat -> Prop} {v : Value} {P : List Nat} (h : IaAt W v P) (k : Kx n1 E W W') (hn : W.heap.size <= n1) (hE : ∀ b,E b -> b < W.heap.size -> ∃ O : List Bool,W.heap[b]? = some (.cells (bwc O) 4 (0,0))) : IaAt W' v P:=by
 obtain ⟨a,c,rfl,h1⟩:=h
 refine ⟨a,c,rfl,fun hP=>?_⟩
 obtain ⟨b,o,rfl,h2⟩:=h1 hP
 refine ⟨b,o,rfl,fun j hj=>?_⟩
 have h3:=h2 j hj
 have hlt:=lt_of_cell h3
 refine k.cell h3 (Nat.lt_of_lt_of_le hlt hn) (fun e=>?_)
 obtain ⟨O,hO⟩:=hE b e hlt
 rw [Lib.cell_of_heap hO] at h3
 have h4 : (O.map Value.bool)[o + j]? = some (.int .i64 (P[j] : Int)):=by
  unfold bwc at h3
  rw [List.getElem?_toArray] at h3
  exact h3
 obtain ⟨x,hx,hx2⟩:=List.mem_map.1 (List.mem_of_getElem? h4)
 cases hx2
structure Sr (W0 W : World) (mb b5 : Nat) (O' : List Bool) (ch : Bool) : Prop where
 kx : Kx W0.heap.size (fun b=>b = mb \/ b = b5) W0 W
 mr : W.heap[mb]? = some (.cells (bwc O') 4 (0,0))
 bx : Boxed W b5 4 (.bool ch)
theorem Sr.own {W0 : World} {mb b5 : Nat} {β : Type} (hm : mb < W0.heap.size) (h5 : b5 < W0.heap.size) (C : β -> List Bool -> Bool -> Prop) : OwnFrom W0.heap.size (fun (s : β) W=>∃ O' ch,Sr W0 W mb b5 O' ch /\ C s O' ch):=by
 rintro s W W' row ⟨O',ch,h,hC⟩ hg hr
 have hn : W0.heap.size <= W.heap.size:=h.kx.size
 have k : Kx W0.heap.size (fun b=>b = mb \/ b = b5) W W':=Kx.grown hg hn (fun r e=>(hr r e).1)
 have hb : ∀ b,b < W0.heap.size -> W'.heap[b]? = W.heap[b]?:=fun b hb=>hg.block b (Nat.lt_of_lt_of_le hb hn) (fun e=>by have:=(hr b e.symm).1; omega)
 exact ⟨O',ch,⟨h.kx.trans k,(hb mb hm).trans h.mr,(hb b5 h5).trans h.bx⟩,hC⟩
theorem bool_box (W : World) (b5 : Nat) (T : TypeId) {x : Value} (v : Value) (h : W.heap[b5]? = some (.cells #[x] T (0,0))) : (W.setCell ⟨b5,0,none⟩ v).heap[b5]? = some (.cells #[v] T (0,0)):=by
 rw [set_block h]; rfl
set_option maxRecDepth 100000 in
theorem spread_any (req : Bm -> List Bm) (caps U : List Bm) (NV : List (List Nat)) (vs : List Value) (O : List Bool) (g mb c1 c2 : Nat) (w : World) (hU : U.length <= 1000) (hNl : ∀ P,P ∈ NV -> P.length <= 1000000) (N : Nd req U NV) (S : Sd req caps U O) (V : Nv w g vs NV) (hmb : w.heap[mb]? = some (.cells (bwc O) 4 (0,0))) :
  Calls Tryz.prog 205 #[.slice (some ⟨g,0,none⟩) vs.length c1,.slice (some ⟨mb,0,none⟩) vs.length c2] w fun e w'=>∃ O' ch,e = .returned (.bool ch) /\ w'.heap[mb]? = some (.cells (bwc O') 4 (0,0)) /\ Kx w.heap.size (fun b=>b = mb) w w' /\ Spd req caps U NV O O' ch (fun i=>i < U.length):=by
 have eg : ∀ args w,(callFunc 261 args).run Tryz.prog w = .ok (.enter 261 args) w:=enters_of Tryz.func261 (by kernel_rfl) rfl
 have HVL:=hid (show vs.length = U.length from V.ln.trans N.ln)
 have hvn : vs.length <= 1000:=by have:=HVL.out; omega
 have hsf:=fun (a : Addr) (c : Array Value) (w : World)=>run_store Tryz.prog w a (.func (.func 261) #[] c) .plain rfl
 have hml:=lt_of_blk hmb
 have hgl:=lt_of_blk V.hp
 have hgm : g ≠ mb:=fun e=>by
  subst e
  have:=V.hp.symm.trans hmb
  simp at this
 have s1:=heap_new w (.cells #[.slice (some ⟨mb,0,none⟩) vs.length c2] 190)
 obtain ⟨w1,hw1⟩ : ∃ w1,w.alloc (.cells #[.slice (some ⟨mb,0,none⟩) vs.length c2] 190) = w1:=⟨_,rfl⟩
 have z1 : w1.heap.size = w.heap.size + 1:=by rw [<- hw1]; simp
 rw [hw1] at s1
 have s2:=heap_new w1 (.cells #[.bool false] 4)
 obtain ⟨w2,hw2⟩ : ∃ w2,w1.alloc (.cells #[.bool false] 4) = w2:=⟨_,rfl⟩
 have z2 : w2.heap.size = w.heap.size + 1 + 1:=by rw [<- hw2]; simp [z1]
 rw [hw2,z1] at s2
 have s1b:=heap_old w1 (.cells #[.bool false] 4) s1
 rw [hw2] at s1b
 have s3:=heap_new w2 (.cells #[.func (.func 261) #[] #[.pointer (some ⟨w.heap.size,0,none⟩)]] 234)
 obtain ⟨w3,hw3⟩ : ∃ w3,w2.alloc (.cells #[.func (.func 261) #[] #[.pointer (some ⟨w.heap.size,0,none⟩)]] 234) = w3:=⟨_,rfl⟩
 have z3 : w3.heap.size = w.heap.size + 1 + 1 + 1:=by rw [<- hw3]; simp [z2]
 rw [hw3,z2] at s3
 have s1c:=heap_old w2 (.cells #[.func (.func 261) #[] #[.pointer (some ⟨w.heap.size,0,none⟩)]] 234) s1b
 have s2b:=heap_old w2 (.cells #[.func (.func 261) #[] #[.pointer (some ⟨w.heap.size,0,none⟩)]] 234) s2
 rw [hw3] at s1c s2b
 have s4:=heap_new w3 (.cells #[.slice (some ⟨g,0,none⟩) vs.length c1] 231)
 obtain ⟨w4,hw4⟩ : ∃ w4,w3.alloc (.cells #[.slice (some ⟨g,0,none⟩) vs.length c1] 231) = w4:=⟨_,rfl⟩
 have z4 : w4.heap.size = w.heap.size + 1 + 1 + 1 + 1:=by rw [<- hw4]; simp [z3]
 rw [hw4,z3] at s4
 have t1:=heap_old w3 (.cells #[.slice (some ⟨g,0,none⟩) vs.length c1] 231) s1c
 have t2:=heap_old w3 (.cells #[.slice (some ⟨g,0,none⟩) vs.length c1] 231) s2b
 have t3:=heap_old w3 (.cells #[.slice (some ⟨g,0,none⟩) vs.length c1] 231) s3
 rw [hw4] at t1 t2 t3
 have hB4 : Below w.heap.size w w4:=by
  rw [<- hw4,<- hw3,<- hw2,<- hw1]
  exact ((((Below.refl w.heap.size w).alloc (Nat.le_refl _) _).alloc (by simp) _).alloc (by simp; omega) _).alloc (by simp; omega) _
 have hm4 : w4.heap[mb]? = some (.cells (bwc O) 4 (0,0)):=(hB4.block mb hml).trans hmb
 have hg4 : ∀ j (h : j < vs.length),w4.cell? ⟨g,j,none⟩ = some vs[j]:=fun j h=>by
  rw [hB4.cell hgl,Lib.cell_of_heap V.hp]; simp [h]
 have hia4 : ∀ j (h : j < vs.length) (h' : j < NV.length),IaAt w4 vs[j] NV[j]:=fun j h h'=>(V.ia j h h').below hB4
 have hE : ∀ b,(b = mb \/ b = w.heap.size + 1) -> b < w4.heap.size -> ∃ O : List Bool,w4.heap[b]? = some (.cells (bwc O) 4 (0,0)):=fun b hb _=>by
  rcases hb with rfl | rfl
  ·exact ⟨O,hm4⟩
  ·exact ⟨[false],t2⟩
 have HW1:=hid hw1
 have HW2:=hid hw2
 have HW3:=hid hw3
 have HW4:=hid hw4
 have Z4:=hid z4
 have S4:=hid s4
 have T1:=hid t1
 have T2:=hid t2
 have T3:=hid t3
 have B4:=hid hB4
 have M4:=hid hm4
 have G4:=hid hg4
 have A4:=hid hia4
 have EE:=hid hE
 clear hw1 hw2 hw3 hw4 z1 z2 z3 z4 s1 s2 s3 s4 s1b s1c s2b t1 t2 t3 hB4 hm4 hg4 hia4 hE
 refine (callsIn_wide (n:=8)).1 ?_
 refine callsIn_of_wp_marks Tryz.func205 rfl trivial ?_ rfl
 simp only [Tryz.ntmps205,List.size_toArray,List.length_cons,List.length_nil,Nat.reduceAdd,Nat.reduceSub,Array.replicate_succ,Array.replicate_zero,List.push_toArray,List.append_toArray,List.nil_append,List.cons_append]
 gi_wp2_with (refine ⟨trivial,?_⟩; gi_at_call 262; refine (callsIn_wide.2 (back_any (some ⟨g,0,none⟩) vs.length c1 _)).mono ?_; rintro e w' ⟨rfl,rfl⟩)
 rw [HW1.out,HW2.out,HW3.out,HW4.out]
 have z4:=Z4.out
 have s4:=S4.out
 have t1:=T1.out
 have t2:=T2.out
 have t3:=T3.out
 have hB4:=B4.out
 have hm4:=M4.out
 have hg4:=G4.out
 have hia4:=A4.out
 have hE:=EE.out
 clear hsf
 refine wpIn_rangeFunc_ownG rfl (by omega) (gf:=287) (lb:=#[.pointer (some ⟨w.heap.size + 1 + 1 + 1,0,none⟩)]) rfl trivial (enters_of Tryz.func287 (by kernel_rfl) rfl)
  (encs:=encP vs) (Kp:=Kx w4.heap.size (fun b=>b = mb \/ b = w.heap.size + 1)) (S:=fun ys=>∀ x : Pl vs,x ∈ ys) (Sp:=fun _=>True) (N:=vs.length) (w0:=w4)
  (fun l J Jx W hW _ _ hY h0=>back1_in Fence.wide _ trivial rfl (by omega) l (w.heap.size + 1 + 1 + 1) w4.heap.size g c1 vs (by omega) (fun b=>b = mb \/ b = w.heap.size + 1) V.sl J Jx hY W (cell_below hW (by rw [Lib.cell_of_heap s4]; rfl)) (fun j h=>cell_below hW (hg4 j h)) (by omega) (by omega) (by omega) (by omega) h0)
  (fun h k=>h.trans k) (fun W l o o' hl _ _ _=>Kx.put W l o' hl) (Below.refl _ _) (fun _=>rfl)
  (fun pre W=>∃ O' ch,Sr w4 W mb (w.heap.size + 1) O' ch /\ Spd req caps U NV O O' ch (fun i=>∃ x : Pl vs,x ∈ pre /\ x.1 = i))
  (fun _ _ _=>False)
  (Sr.own (by omega) (by omega) _)
  (fun _ _ _ _ _ hs _ _=>hs)
  ⟨O,false,⟨Kx.refl _ _ _,hm4,t2⟩,(Spd.start S).wide (fun j ⟨x,hx,_⟩=>by cases hx)⟩
  (fun x=>{ tmps:=#[.slice (some ⟨g,0,none⟩) vs.length c1,.slice (some ⟨mb,0,none⟩) vs.length c2,undef,.pointer (some ⟨w.heap.size,0,none⟩),.bool false,.pointer (some ⟨w.heap.size + 1,0,none⟩),.pointer (some ⟨w.heap.size + 1 + 1,0,none⟩),.int .i64 (x.1 : Int),vs[x.1]'x.2,.func (.func 261) #[] #[.pointer (some ⟨w.heap.size,0,none⟩)],.slice (some ⟨g,0,none⟩) vs.length c1,.func (.func 287) #[] #[.pointer (some ⟨w.heap.size + 1 + 1 + 1,0,none⟩)],.int .i64 (x.1 : Int),vs[x.1]'x.2,undef,undef,undef,undef,undef,undef,undef,undef,undef,undef,undef,undef,undef,undef],defers:=[] }) ?assign ?body ?done ?stop
 case assign=>
  intro l x W K hK
  unfold encP
  gi_wp2
  exact hK
 case body=>
  rintro l pre x W ⟨O',ch,hSr,hSp⟩ _
  obtain ⟨k,hk⟩:=x
  have hkU : k < U.length:=by have:=HVL.out; omega
  have hkN : k < NV.length:=by rw [N.ln]; exact hkU
  have HOl:=hid (show O'.length = U.length from hSp.sd.ln)
  have hkO : k < O'.length:=by have:=HOl.out; omega
  have hkI : (k : Int) < (vs.length : Int):=by omega
  have hk0 : (0 : Int) <= (k : Int):=by omega
  have cm:=hSr.kx.cell (a:=⟨w.heap.size,0,none⟩) (by rw [Lib.cell_of_heap t1]; rfl) (by show w.heap.size < w4.heap.size; omega) (by show ¬ (w.heap.size = mb \/ w.heap.size = w.heap.size + 1); omega)
  have cf:=hSr.kx.cell (a:=⟨w.heap.size + 1 + 1,0,none⟩) (by rw [Lib.cell_of_heap t3]; rfl) (by show w.heap.size + 1 + 1 < w4.heap.size; omega) (by show ¬ (w.heap.size + 1 + 1 = mb \/ w.heap.size + 1 + 1 = w.heap.size + 1); omega)
  have cx:=bwc_at hSr.mr hkO
  have cfz:=fun o=>Lib.frozen_of_heap hSr.mr o
  have bz:=hSr.bx.cell
  have bf:=hSr.bx.frozen
  have hia:=(hia4 k hk hkN).kx hSr.kx (Nat.le_refl _) hE
  have HHI:=hid (hasI_any 261 #[.pointer (some ⟨w.heap.size,0,none⟩)] (fun j=>O'[j]?.getD false) NV[k] vs[k] W eg (hNl _ (List.getElem_mem hkN)) hia (fun i hi W' hW=>by
   obtain ⟨hj,-⟩:=N.bk k hkU hkN _ (List.getElem_mem hi)
   exact spK_any O' _ mb w.heap.size vs.length c2 W' (by have:=HOl.out; omega) (by have:=HOl.out; have:=HVL.out; omega) (cell_below hW cm) ((hW.block _ (lt_of_blk hSr.mr)).trans hSr.mr)))
  have HAN:=hid (show NV[k].any (fun j=>O'[j]?.getD false) = anyO O' NV[k] from rfl)
  rw [HAN.out] at HHI
  have HSr:=hid hSr
  have HSp:=hid hSp
  have HD:=hid (show ∀ j,(∃ y : Pl vs,y ∈ pre ++ [(⟨k,hk⟩ : Pl vs)] /\ y.1 = j) -> (∃ y : Pl vs,y ∈ pre /\ y.1 = j) \/ j = k from fun j ⟨y,hy,e⟩=>by
   rcases List.mem_append.1 hy with h | h
   ·exact Or.inl ⟨y,h,e⟩
   ·have:=List.mem_singleton.1 h
    subst this; exact Or.inr e.symm)
  have hd : 1 <= 8 - 1 - 1:=by omega
  cases hok : O'[k] with
  | true=>
   rw [hok] at cx
   have HQ:=hid (show Qt NV O' k from fun h h' e=>by rw [hok] at e; cases e)
   clear hok hSr hSp
   gi_wp2
   refine ⟨trivial,?_⟩
   gi_wp2
   exact ⟨KeepsFrom.refl _ _,Kx.refl _ _ _,O',ch,HSr.out,HSp.out.skip HD.out HQ.out⟩
  | false=>
   rw [hok] at cx
   cases han : anyO O' NV[k] with
   | false=>
    rw [han] at HHI
    have HQ:=hid (show Qt NV O' k from fun h h' e=>han)
    clear hok hSr hSp han
    gi_wp2_with (refine ⟨trivial,?_⟩; gi_at_call 263; refine (CallsIn.inRound l (callsIn_wide.2 HHI.out)).mono ?_; rintro e W1 ⟨rfl,hb⟩)
    refine ⟨(KeepsFrom.of_grownBy (row:=none) ⟨hb.os,hb.tape,hb.output,hb.size,fun b h _=>hb.block b h⟩ (fun j e=>by cases e)),Kx.below hb HSr.out.kx.size,O',ch,⟨HSr.out.kx.trans (Kx.below hb HSr.out.kx.size),(hb.block _ (lt_of_blk HSr.out.mr)).trans HSr.out.mr,(hb.block _ HSr.out.bx.lt).trans HSr.out.bx⟩,HSp.out.skip HD.out HQ.out⟩
   | true=>
    rw [han] at HHI
    have HMO:=hid (HSp.out.more (D':=fun i=>∃ x : Pl vs,x ∈ pre ++ [(⟨k,hk⟩ : Pl vs)] /\ x.1 = i) N hkU hkN hkO hok han)
    clear hok hSr hSp han
    gi_wp2_with (refine ⟨trivial,?_⟩; gi_at_call 263; refine (CallsIn.inRound l (callsIn_wide.2 HHI.out)).mono ?_; rintro e W1 ⟨rfl,hb⟩; have cm1:=cell_below hb cm; have cx1:=cell_below hb cx; have hmk1:=(hb.block _ (lt_of_blk HSr.out.mr)).trans HSr.out.mr; have hbx1:=(hb.block _ HSr.out.bx.lt).trans HSr.out.bx; have cfz1:=fun o=>Lib.frozen_of_heap hmk1 o; have bz1:=cell_below hb bz; have bf1:=Lib.frozen_of_heap hbx1 0)
    have k1 : Kx w4.heap.size (fun b=>b = mb \/ b = w.heap.size + 1) W W1:=Kx.below hb HSr.out.kx.size
    have k2 : Kx w4.heap.size (fun b=>b = mb \/ b = w.heap.size + 1) W1 (W1.setCell ⟨mb,k,none⟩ (.bool true)):=Kx.set W1 _ (Or.inl rfl)
    have k3 : Kx w4.heap.size (fun b=>b = mb \/ b = w.heap.size + 1) (W1.setCell ⟨mb,k,none⟩ (.bool true)) ((W1.setCell ⟨mb,k,none⟩ (.bool true)).setCell ⟨w.heap.size + 1,0,none⟩ (.bool true)):=Kx.set _ _ (Or.inr rfl)
    have m1 : (W1.setCell ⟨mb,k,none⟩ (.bool true)).heap[mb]? = some (.cells (bwc (O'.set k true)) 4 (0,0)):=by rw [set_block hmk1,bwc_put]
    have m2:=keep_set (fb:=w.heap.size + 1) (o:=0) (x:=.bool true) m1 (by omega)
    have b1:=keep_set (fb:=mb) (o:=k) (x:=.bool true) hbx1 (by omega)
    have b2:=bool_box _ _ _ (.bool true) b1
    refine ⟨((KeepsFrom.of_grownBy (row:=none) ⟨hb.os,hb.tape,hb.output,hb.size,fun b h _=>hb.block b h⟩ (fun j e=>by cases e)).trans ((KeepsOthers.setCell _ _ _).from _)).trans ((KeepsOthers.setCell _ _ _).from _),(k1.trans k2).trans k3,O'.set k true,true,⟨((HSr.out.kx.trans k1).trans k2).trans k3,m2,b2⟩,HMO.out⟩
 case done=>
  rintro D ys W hD hS ⟨O',ch,hSr,hSp⟩ hK
  have hc:=hSr.bx.cell
  have HX:=hid (show Kx w.heap.size (fun b=>b = mb) w (W.putObj D (.deferred none)) from ((Kx.below hB4 (Nat.le_refl _)).trans (hSr.kx.less (by omega) (fun b hb h=>by rcases h with h | h; exact h; omega))).trans (Kx.put W D _ (by omega)))
  have HM:=hid (show (W.putObj D (.deferred none)).heap[mb]? = some (.cells (bwc O') 4 (0,0)) from (World.putObj_heap_other (by omega)).trans hSr.mr)
  have HP:=hid (hSp.wide (D':=fun i=>i < U.length) (fun j hj=>⟨⟨j,by have:=HVL.out; omega⟩,hS _,rfl⟩))
  gi_wp2
  refine ⟨by simp,.inl ⟨_,_,rfl,run_takeDeferred hK,?_⟩⟩
  exact ⟨_,results_tmp rfl _ _ _,O',ch,rfl,HM.out,HX.out,HP.out⟩
 case stop=>
  rintro D c pre W _ _ h _
  exact h.elim
end Ve
end Go.Proofs.YtjbmjnbkibmkpaaGreatDoor


namespace Go.Proofs.YtjbmjnbkibmkpaaGreatDoor
open Go.RowKit Go.Maps
namespace Ve
open Classical in
noncomputable def bdL (Q : List Raw) (L : List Ent) (caps : List Bm) : List Bool:=(univ L).map fun m=>decide (Bd (reqQ Q L) caps m)
theorem bdL_len (Q : List Raw) (L : List Ent) (caps : List Bm) : (bdL Q L caps).length = L.length:=by simp [bdL,univ]
theorem bdL_at {Q : List Raw} {L : List Ent} {caps : List Bm} {i : Nat} (h : i < (univ L).length) (h' : i < (bdL Q L caps).length) : (bdL Q L caps)[i] = true ↔ Bd (reqQ Q L) caps (univ L)[i]:=by
 simp [bdL]
theorem bdL_of {Q : List Raw} {L : List Ent} {caps : List Bm} {O : List Bool} (hl : O.length = (univ L).length) (h : ∀ i (h : i < (univ L).length) (h' : i < O.length),O[i] = true ↔ Bd (reqQ Q L) caps (univ L)[i]) : O = bdL Q L caps:=by
 have hU : (univ L).length = L.length:=univ_len L
 refine List.ext_getElem (by rw [bdL_len,hl,hU]) fun i h1 h2=>?_
 have h3:=h i (by omega) h1
 have h4:=bdL_at (Q:=Q) (L:=L) (caps:=caps) (i:=i) (by omega) h2
 exact Bool.eq_iff_iff.2 (h3.trans h4.symm)
def bF (Q : List Raw) (L : List Ent) (caps : List Bm) : Nat × Option Nat:=if (chk Q L).1 = 0 then chkP caps else chk Q L
theorem bF_chk {Q : List Raw} {L : List Ent} {caps : List Bm} (h : (bF Q L caps).1 = 0) : (chk Q L).1 = 0 /\ (chkP caps).1 = 0:=by
 unfold bF at h
 by_cases hc : (chk Q L).1 = 0
 ·rw [if_pos hc] at h; exact ⟨hc,h⟩
 ·rw [if_neg hc] at h; exact absurd h hc
theorem above_sd {w : World} {v : Value} {Q : List Raw} {L : List Ent} (I : Ixs w v Q L) (caps : List Bm) : Sd (reqQ Q L) caps (univ L) (Q.map fun r=>capB caps r.1):=by
 have hU : (univ L).length = L.length:=univ_len L
 have hm : ∀ i (h : i < (univ L).length) (h' : i < (Q.map fun r=>capB caps r.1).length),(Q.map fun r=>capB caps r.1)[i] = capB caps (univ L)[i]:=fun i h h'=>by
  have hq : i < Q.length:=by simpa using h'
  rw [List.getElem_map]
  have:=(I.ok i hq (by omega)).m
  simp only [univ,List.getElem_map]
  rw [this]
 refine ⟨by simp [I.ln,hU],fun i h h' ho=>?_,fun i h h' hc=>?_⟩
 ·rw [hm i h h'] at ho
  exact bd_iff.2 (Or.inl ho)
 ·rw [hm i h h']; exact hc
theorem nvL_short {Q : List Raw} {L : List Ent} (sh : ∀ e,e ∈ L -> ShE e) : ∀ P,P ∈ nvL Q L -> P.length <= 1000000:=fun P hP=>by
 obtain ⟨e,he,rfl⟩:=List.mem_map.1 hP
 have:=(sh e he).rn
 simp; omega
theorem Nv.kx {W W' : World} {g mb : Nat} {vs : List Value} {NV : List (List Nat)} {O : List Bool} (h : Nv W g vs NV) (hm : W.heap[mb]? = some (.cells (bwc O) 4 (0,0))) (k : Kx W.heap.size (fun b=>b = mb) W W') : Nv W' g vs NV:=by
 have hgm : g ≠ mb:=fun e=>by
  subst e
  have:=h.hp.symm.trans hm
  simp at this
 exact ⟨(k.block g (lt_of_blk h.hp) hgm).trans h.hp,h.ln,h.sl,fun j h1 h2=>(h.ia j h1 h2).kx k (Nat.le_refl _) (fun b e _=>by subst e; exact ⟨O,hm⟩)⟩
set_option maxRecDepth 100000 in
theorem bad_good (Q : List Raw) (L : List Ent) (caps : List Bm) (v cv : Value) (A : Nat -> Addr) (m : Int) (w : World) (hn : L.length <= 1000) (hcn : caps.length <= 1000000) (sh : ∀ e,e ∈ L -> ShE e) (hs : shortL caps) (S : Te w A m) (I : Ixs w v Q L) (hc : MsAt w cv caps) (h0 : (bF Q L caps).1 = 0) :
  Calls Tryz.prog 148 #[v,cv] w fun e w'=>∃ g,e = .returned (.tuple #[.slice (some ⟨g,0,none⟩) (bdL Q L caps).length (bdL Q L caps).length,.nilIface]) /\ Mb w w' g (bdL Q L caps):=by
 obtain ⟨k0,k1⟩:=bF_chk h0
 have HIC:=hid (icheck_any Q L v A m w (by omega) sh S I)
 have HCA:=hid (fun W (h : Below w.heap.size w W)=>caps_any caps cv A m W hcn hs (S.below h) (hc.below h))
 have HAB:=hid (fun W (h : Below w.heap.size w W)=>above_any Q caps v cv A m W (by rw [I.ln]; omega) hcn (fun r hr=>by
  obtain ⟨j,hj,rfl⟩:=List.getElem_of_mem hr
  have hj2 : j < L.length:=by rw [<- I.ln]; exact hj
  rw [(I.ok j hj hj2).m]
  exact Nat.lt_of_lt_of_le (sh _ (List.getElem_mem hj2)).v (by omega)) (fun c hc=>(hs c hc).2) (caps_rise k1) (S.below h) (I.below h).es (hc.below h))
 have HRQ:=hid (fun W (h : Below w.heap.size w W)=>required_any Q L v W hn sh (I.below h) k0)
 have HND:=hid (nvL_nd I k0)
 have HSD:=hid (above_sd I caps)
 have HSP:=hid (fun vs O g mb c1 c2 W (S' : Sd (reqQ Q L) caps (univ L) O) (V : Nv W g vs (nvL Q L)) hmb=>spread_any (reqQ Q L) caps (univ L) (nvL Q L) vs O g mb c1 c2 W (by rw [univ_len]; exact hn) (nvL_short sh) HND.out S' V hmb)
 have HOF:=hid (fun O hl h=>bdL_of (Q:=Q) (L:=L) (caps:=caps) (O:=O) hl h)
 have HDN:=hid (fun O (S' : Sd (reqQ Q L) caps (univ L) O) hq=>S'.done HND.out hq)
 have HQL:=hid (show Q.length = (univ L).length by rw [I.ln,univ_len])
 have HBL:=hid (show (bdL Q L caps).length = Q.length by rw [bdL_len,I.ln])
 have HNL:=hid (show (nvL Q L).length = Q.length by rw [I.ln]; simp [nvL])
 have hqn : Q.length <= 1000:=by rw [I.ln]; exact hn
 obtain ⟨oo,ho⟩ : ∃ oo,chk Q L = (0,oo):=⟨_,Prod.ext k0 rfl⟩
 obtain ⟨op,hp⟩ : ∃ oo,chkP caps = (0,oo):=⟨_,Prod.ext k1 rfl⟩
 rw [ho] at HIC
 rw [hp] at HCA
 obtain ⟨a,c,hv,-⟩:=id I.es
 subst hv
 obtain ⟨ca,cn,cc,hcv⟩:=hc.slice
 subst hcv
 clear S I hc sh hs h0 k0 k1 ho hp HND hn
 generalize reqQ Q L = req at *
 generalize nvL Q L = NV at *
 generalize bdL Q L caps = BL at *
 rw [HBL.out]
 go_enter Tryz.func148,Tryz.ntmps148
 go_wp2_with fail
 refine HIC.out.mono ?_
 rintro e w1 ⟨x1,rfl,he,hb⟩
 have HB1:=hid hb
 rcases he.kind with ⟨-,rfl⟩ | ⟨h,-⟩
 rotate_left
 ·exact absurd rfl h
 clear he hb HIC
 go_wp2_with fail
 refine (HCA.out w1 HB1.out).mono ?_
 rintro e w2 ⟨x2,rfl,he,hb⟩
 have HB2:=hid (HB1.out.trans (hb.mono HB1.out.size))
 rcases he.kind with ⟨-,rfl⟩ | ⟨h,-⟩
 rotate_left
 ·exact absurd rfl h
 clear he hb HCA HB1
 go_wp2_with fail
 refine (HAB.out w2 HB2.out).mono ?_
 rintro e w3 ⟨rfl,hM⟩
 have HB3:=hid (HB2.out.trans (hM.bl.mono HB2.out.size))
 have HM3:=hid hM
 clear hM HAB
 go_wp2_with fail
 refine (HRQ.out w3 HB3.out).mono ?_
 rintro e w4 ⟨rfl,vs,hV,hb⟩
 have HB4:=hid (HB3.out.trans (hb.mono HB3.out.size))
 have HM4:=hid ((hb.block _ (lt_of_blk HM3.out.hp)).trans HM3.out.hp)
 have HV4:=hid hV
 have HVL:=hid (show vs.length = Q.length from hV.ln.trans HNL.out)
 have HS0:=hid HSD.out
 clear hb hV HRQ HM3 HB3
 generalize (Q.map fun r=>capB caps r.1) = O0 at *
 generalize hgN : w3.heap.size = gN at *
 generalize hgM : w2.heap.size = gM at *
 go_wp2_with fail
 go_loopw [27] (fun _ wr=>Hid (∃ O,Below w.heap.size w wr /\ Nv wr gN vs NV /\ wr.heap[gM]? = some (.cells (bwc O) 4 (0,0)) /\ Sd req caps (univ L) O)) (fun _ wr=>unmW wr.heap[gM]?)
 case atStart=>exact hid ⟨O0,HB4.out,HV4.out,HM4.out,HS0.out⟩
 case round=>
  obtain ⟨O,hB,hV,hM,hS⟩:=hrel.out
  have HMS:=hid (unmW_is hM)
  have HSX:=hid (HSP.out vs O gN gM Q.length Q.length wr hS hV hM)
  rw [HVL.out] at HSX
  have HKB:=hid (show w.heap.size <= gM by rw [<- hgM]; exact HB2.out.size)
  have HX:=hid (show Below w.heap.size w wr /\ Nv wr gN vs NV /\ wr.heap[gM]? = some (.cells (bwc O) 4 (0,0)) from ⟨hB,hV,hM⟩)
  clear hB hV hM hS hrel
  go_wp2_with fail
  refine HSX.out.mono ?_
  rintro e w5 ⟨O',ch,rfl,hm5,hk5,hs5⟩
  have HB5:=hid (show Below w.heap.size w w5 from HX.out.1.trans ⟨hk5.os,hk5.tape,hk5.output,hk5.size,fun b hb=>hk5.block b (Nat.lt_of_lt_of_le hb HX.out.1.size) (by have:=HKB.out; omega)⟩)
  have HV5:=hid (HX.out.2.1.kx HX.out.2.2 hk5)
  have HM5:=hid hm5
  cases ch with
  | true=>
   have HS5:=hid hs5.sd
   have HLT:=hid (hs5.lt rfl)
   have HM6:=hid (unmW_is hm5)
   clear hm5 hk5 hs5
   go_wp2_with fail
   go_roundw
   case rel=>exact hid ⟨O',HB5.out,HV5.out,HM5.out,HS5.out⟩
   case measure=>
    show unmW w5.heap[gM]? < unmW wr.heap[gM]?
    rw [HM6.out,HMS.out]
    exact HLT.out
  | false=>
   obtain ⟨e1,e2⟩:=hs5.qt rfl
   subst e1
   have HE:=hid (HOF.out O' hs5.sd.ln (HDN.out O' hs5.sd e2))
   clear hm5 hk5 hs5 e2
   have HFI:=hid (show Mb w w5 gM BL from ⟨HB5.out,HKB.out,by rw [<- HE.out]; exact HM5.out⟩)
   go_wp2_with fail
   go_ret2
   exact ⟨gM,rfl,HFI.out⟩
set_option maxRecDepth 100000 in
theorem bad_bad (Q : List Raw) (L : List Ent) (caps : List Bm) (v cv : Value) (A : Nat -> Addr) (m : Int) (w : World) (hn : L.length <= 1000) (hcn : caps.length <= 1000000) (sh : ∀ e,e ∈ L -> ShE e) (hs : shortL caps) (S : Te w A m) (I : Ixs w v Q L) (hc : MsAt w cv caps) (h0 : ¬ (bF Q L caps).1 = 0) :
  Calls Tryz.prog 148 #[v,cv] w fun e w'=>∃ T a,e = .returned (.tuple #[.slice none 0 0,.iface T (.pointer (some a))]) /\ ErrAt w' A (.iface T (.pointer (some a))) (bF Q L caps).1 (bF Q L caps).2 /\ Below w.heap.size w w':=by
 have HIC:=hid (icheck_any Q L v A m w (by omega) sh S I)
 have HCA:=hid (fun W (h : Below w.heap.size w W)=>caps_any caps cv A m W hcn hs (S.below h) (hc.below h))
 obtain ⟨a,c,hv,-⟩:=id I.es
 subst hv
 obtain ⟨ca,cn,cc,hcv⟩:=hc.slice
 subst hcv
 clear S I hc sh hs hn
 by_cases k0 : (chk Q L).1 = 0
 ·have hbf : bF Q L caps = chkP caps:=if_pos k0
  rw [hbf] at h0 ⊢
  obtain ⟨oo,ho⟩ : ∃ oo,chk Q L = (0,oo):=⟨_,Prod.ext k0 rfl⟩
  rw [ho] at HIC
  have H0:=hid h0
  clear k0 ho h0 hbf
  generalize chkP caps = R at *
  go_enter Tryz.func148,Tryz.ntmps148
  go_wp2_with fail
  refine HIC.out.mono ?_
  rintro e w1 ⟨x1,rfl,he,hb⟩
  have HB1:=hid hb
  rcases he.kind with ⟨-,rfl⟩ | ⟨h,-⟩
  rotate_left
  ·exact absurd rfl h
  clear he hb HIC
  go_wp2_with fail
  refine (HCA.out w1 HB1.out).mono ?_
  rintro e w2 ⟨x2,rfl,he,hb⟩
  have HB2:=hid (HB1.out.trans (hb.mono HB1.out.size))
  have HE:=hid he
  rcases he.kind with ⟨h,-⟩ | ⟨-,T,xa,rfl⟩
  ·exact absurd h H0.out
  clear he hb HCA HB1
  go_wp2_with fail
  go_ret2
  exact ⟨_,_,rfl,HE.out,HB2.out⟩
 ·have hbf : bF Q L caps = chk Q L:=if_neg k0
  rw [hbf]
  have H0:=hid k0
  clear k0 h0 hbf HCA
  generalize chk Q L = R at *
  go_enter Tryz.func148,Tryz.ntmps148
  go_wp2_with fail
  refine HIC.out.mono ?_
  rintro e w1 ⟨x1,rfl,he,hb⟩
  have HB1:=hid hb
  have HE:=hid he
  rcases he.kind with ⟨h,-⟩ | ⟨-,T,xa,rfl⟩
  ·exact absurd h H0.out
  clear he hb HIC
  go_wp2_with fail
  go_ret2
  exact ⟨_,_,rfl,HE.out,HB1.out⟩
end Ve
end Go.Proofs.YtjbmjnbkibmkpaaGreatDoor
