
import Derived.Test.YtjbmjnbkibmkpaaGreatDoorGt27
import Derived.Test.YtjbmjnbkibmkpaaGreatDoorGt14
import Derived.Test.YtjbmjnbkibmkpaaGreatDoorGt24
import Derived.Test.YtjbmjnbkibmkpaaGreatDoorGt6
import Derived.Laws.AppendOwnNone
import Derived.Test.YtjbmjnbkibmkpaaGreatDoorGt11
set_option maxHeartbeats 8000000
namespace Go.Proofs.YtjbmjnbkibmkpaaGreatDoor
open Go.RowKit Go.Maps
namespace Ve
theorem cbG_lt : ∀ a b : List UInt8,Lib.compareBytes a b < 0 -> a < b
 | [],[],h=>by simp [Lib.compareBytes] at h
 | [],_ :: _,_=>List.nil_lt_cons _ _
 | _ :: _,[],h=>by simp [Lib.compareBytes] at h
 | a :: xs,b :: ys,h=>by
  unfold Lib.compareBytes at h
  split at h
  ·next h1=>exact List.cons_lt_cons_iff.2 (Or.inl h1)
  ·next h1=>
   split at h
   ·simp at h
   ·next h2=>exact List.cons_lt_cons_iff.2 (Or.inr ⟨UInt8.le_antisymm (UInt8.not_lt.1 h2) (UInt8.not_lt.1 h1),cbG_lt xs ys h⟩)
theorem fstE_ne {E : Nat -> Nat} : ∀ {n i : Nat},fstE E n = some i -> E i ≠ 0
 | 0,_,h=>by cases h
 | n + 1,i,h=>by
  unfold fstE at h
  cases e : fstE E n with
  | some j=>rw [e] at h; injection h with h; subst h; exact fstE_ne e
  | none=>
   rw [e] at h
   simp only at h
   split at h
   ·cases h
   ·injection h with h; subst h; assumption
structure GetF (pk : ByteArray -> ByteArray -> ByteArray -> ByteArray × Nat) (Q : List Raw) (L : List Ent) (p : ByteArray) (R X : List Bm) (G : List ByteArray) (N : List Bm) (K : Pk) : Prop where
 c : (chk Q L).1 = 0
 f : (fileF p R X).1 = 0
 n : G.length <= 10
 a : ∀ s,s ∈ G -> argZ s = 0
 r : (chkG Q L R).1 = 0
 o : outM (bX Q L R) X = false
 g : gpW (hvQ Q) pk (bX Q L R) (G.map argK) [] = some K
 b : rbV Q L (bX Q L R) (capsV K) = some N
 w : (G.map argK).all (wOk (bX Q L R) N K) = true
 x : outM N X = false
 t : fwB Q L N = true
theorem getV_some {pk : ByteArray -> ByteArray -> ByteArray -> ByteArray × Nat} {Q : List Raw} {L : List Ent} {p : ByteArray} {R X N : List Bm} {G : List ByteArray} (h : getV pk Q L p R X G = some N) : ∃ K,GetF pk Q L p R X G N K:=by
 unfold getV at h
 cases hr : rdA Q L p R X G with
 | none=>rw [hr] at h; cases h
 | some D=>
  rw [hr] at h
  simp only at h
  obtain ⟨h1,h2,h3,h4,h5⟩:=rdA_some hr
  by_cases c1 : (chkG Q L R).1 ≠ 0
  ·rw [if_pos c1] at h; cases h
  rw [if_neg c1] at h
  cases c2 : outM (bX Q L R) X with
  | true=>rw [c2,if_pos rfl] at h; cases h
  | false=>
   rw [c2,if_neg (by decide)] at h
   cases hc : chV Q L (bX Q L R) pk D with
   | none=>rw [hc] at h; cases h
   | some N'=>
    rw [hc] at h
    simp only at h
    cases c3 : outM N' X with
    | true=>rw [c3,if_pos rfl] at h; cases h
    | false=>
     rw [c3,if_neg (by decide)] at h
     cases c4 : fwB Q L N' with
     | false=>rw [c4,if_neg (by decide)] at h; cases h
     | true=>
      rw [c4,if_pos rfl] at h
      injection h with h
      subst h
      unfold chV at hc
      cases hg : gpW (hvQ Q) pk (bX Q L R) D [] with
      | none=>rw [hg] at hc; cases hc
      | some K=>
       rw [hg] at hc
       simp only at hc
       cases hb : rbV Q L (bX Q L R) (capsV K) with
       | none=>rw [hb] at hc; cases hc
       | some N2=>
        rw [hb] at hc
        simp only at hc
        cases hw : D.all (wOk (bX Q L R) N2 K) with
        | false=>rw [hw,if_neg (by decide)] at hc; cases hc
        | true=>
         rw [hw,if_pos rfl] at hc
         injection hc with hc
         subst hc
         subst h5
         exact ⟨K,h1,h2,h3,h4,by simpa using c1,c2,hg,hb,hw,c3,c4⟩
theorem getV_is {pk : ByteArray -> ByteArray -> ByteArray -> ByteArray × Nat} {Q : List Raw} {L : List Ent} {p : ByteArray} {R X N : List Bm} {G : List ByteArray} {K : Pk} (h : GetF pk Q L p R X G N K) : getV pk Q L p R X G = some N:=by
 have hr : rdA Q L p R X G = some (G.map argK):=by
  unfold rdA
  rw [if_neg (by simp [h.c]),if_neg (by simp [h.f]),if_neg (by have:=h.n; omega)]
  exact rdG_ok fun j hj=>h.a _ (List.getElem_mem hj)
 have hc : chV Q L (bX Q L R) pk (G.map argK) = some N:=by
  unfold chV
  rw [h.g]
  simp only
  rw [h.b]
  simp only
  rw [h.w,if_pos rfl]
 unfold getV
 rw [hr]
 simp only
 rw [if_neg (by simp [h.r]),h.o,if_neg (by decide),hc]
 simp only
 rw [h.x,if_neg (by decide),h.t,if_pos rfl]
structure SelF (Q : List Raw) (L : List Ent) (N : List Bm) : Prop where
 u : ∀ m,m ∈ N -> m ∈ univ L
 r : rising N
 b : bX Q L N = N
 e : ∀ m,m ∈ N -> mErr m = 0
theorem rbV_sel {w : World} {v : Value} {Q : List Raw} {L : List Ent} {S C N : List Bm} (I : Ixs w v Q L) (hc : (chk Q L).1 = 0) (h : rbV Q L S C = some N) : SelF Q L N /\ N = bX Q L (rbR Q L S C) /\ (tF Q L S C).1 = 0:=by
 unfold rbV at h
 by_cases h1 : (tF Q L S C).1 ≠ 0
 ·rw [if_pos h1] at h; cases h
 rw [if_neg h1] at h
 by_cases h2 : (chkG Q L (rbR Q L S C)).1 ≠ 0
 ·rw [if_pos h2] at h; cases h
 rw [if_neg h2] at h
 injection h with h
 subst h
 exact ⟨⟨bX_univ,(bX_jn _ _ _).ri,bX_again I (by simpa using h2),fun m hm=>univ_right hc m (bX_univ m hm)⟩,rfl,by simpa using h1⟩
theorem bX_selF {w : World} {v : Value} {Q : List Raw} {L : List Ent} {R : List Bm} (I : Ixs w v Q L) (h : (chkG Q L R).1 = 0) : SelF Q L (bX Q L R):=⟨bX_univ,(bX_jn _ _ _).ri,bX_again I h,fun m hm=>univ_right (chkG_chk h) m (bX_univ m hm)⟩
theorem get_none {pk : ByteArray -> ByteArray -> ByteArray -> ByteArray × Nat} {w : World} {v : Value} {Q : List Raw} {L : List Ent} {p : ByteArray} {R X N : List Bm} (I : Ixs w v Q L) (h : getV pk Q L p R X [] = some N) : N = bX Q L R:=by
 obtain ⟨K,F⟩:=getV_some h
 have hK : K = []:=by have:=F.g; injection this with this; exact this.symm
 subst hK
 have hC : capsV [] = []:=by unfold capsV pkT bl srtB tx; simp
 have hb:=F.b
 rw [hC] at hb
 obtain ⟨_,h2,h3⟩:=rbV_sel I F.c hb
 have s:=bX_selF I F.r
 rw [h2]
 unfold rbR
 rw [toL_keep F.c s.u s.r h3 (fun m _=>not_bd_nil m)]
 show bX Q L (bX Q L R ++ []) = _
 rw [List.append_nil,s.b]
theorem vIn_at {N : List Bm} (hr : rising N) {k : Nat} (hk : k < N.length) : vIn N N[k].1 = N[k].2:=by
 unfold vIn
 cases e : N.find? (fun x=>decide (x.1 = N[k].1)) with
 | none=>
  have:=List.find?_eq_none.1 e _ (List.getElem_mem hk)
  simp at this
 | some x=>
  have h1 : x.1 = N[k].1:=by have:=List.find?_some e; simpa using this
  rw [rising_same hr (List.mem_of_find?_eq_some e) (List.getElem_mem hk) h1]
theorem ver_not_none {q : ByteArray} (h : verErr q.data.toList = 0) : q ≠ bE /\ q ≠ bNone:=⟨ver_ne h,(vq_v h).no⟩
theorem get_pin {Q : List Raw} {L : List Ent} {p : ByteArray} {R X N : List Bm} {G : List ByteArray} (h : getV (pkc Q L) Q L p R X G = some N) {s : ByteArray} (hs : s ∈ G) (hw : wildB (argK s).1 = false) :
  (verErr (argK s).2.data.toList = 0 -> vIn N (argK s).1 = (argK s).2) /\ ((argK s).2 = bNone -> vIn N (argK s).1 = bE):=by
 obtain ⟨K,F⟩:=getV_some h
 have hx : argK s ∈ G.map argK:=List.mem_map.2 ⟨s,hs,rfl⟩
 obtain ⟨h1,h2,h3⟩:=gpW_exact F.g _ hx hw
 have ho:=List.all_eq_true.1 F.w _ hx
 have hp : wPt (bX Q L R) (argK s).1 = [(argK s).1]:=by unfold wPt; rw [hw]; rfl
 unfold wOk at ho
 rw [hp] at ho
 have ho2 : vIn N (argK s).1 = pnB (pkP K (argK s).1):=by simpa using ho
 constructor
 ·intro hv
  have hk:=pkc_ver hv h2
  obtain ⟨n1,n2⟩:=ver_not_none hv
  rw [hk] at h3
  have h4:=h3 n1
  rw [ho2]
  unfold pnB pnV
  rw [h4,if_neg n1,if_neg n2]
 ·intro hq
  have hk : (pkc Q L (argK s).1 (argK s).2 (vIn (bX Q L R) (argK s).1)).1 = bNone:=by
   rw [hq] at h2 ⊢
   exact pkc_none h2
  have hne : bNone ≠ bE:=fun e=>absurd (congrArg (fun m : ByteArray=>m.data) e) (by decide)
  rw [hk] at h3
  have h4:=h3 hne
  rw [ho2]
  unfold pnB pnV
  rw [h4,if_neg hne,if_pos rfl]
theorem fwB_tr {w : World} {v : Value} {Q : List Raw} {L : List Ent} {N : List Bm} (I : Ixs w v Q L) (hc : (chk Q L).1 = 0) (s : SelF Q L N) : trR Q L N = trX Q L N /\ (trR Q L N).Sublist N /\ bX Q L (trR Q L N) = N:=by
 have e:=trR_good (chkG_in I hc s.u) s.b
 have t:=trX_ok I hc s.u s.b
 exact ⟨e,by rw [e]; exact t.sub,by rw [e]; exact gB_iff.1 t.will⟩
theorem get_file {pk : ByteArray -> ByteArray -> ByteArray -> ByteArray × Nat} {w : World} {v : Value} {Q : List Raw} {L : List Ent} {p : ByteArray} {R X N : List Bm} {G : List ByteArray} (I : Ixs w v Q L) (h : getV pk Q L p R X G = some N) (hf : ¬ (fileF p (trR Q L N) X).1 = 0) : ∃ m,m ∈ N /\ m.1 = p:=by
 obtain ⟨K,F⟩:=getV_some h
 obtain ⟨s,_,_⟩:=rbV_sel I F.c F.b
 obtain ⟨_,hsub,_⟩:=fwB_tr I F.c s
 refine Classical.byContradiction fun hno=>hf ?_
 have hno' : ∀ m,m ∈ N -> m.1 ≠ p:=fun m hm e=>hno ⟨m,hm,e⟩
 have h20:=(fwB_iff.1 F.t).2
 have f0:=F.f
 have hp : pathErr p.data.toList = 0:=by
  by_cases hp : pathErr p.data.toList = 0
  ·exact hp
  ·rw [fileF_path hp] at f0; exact absurd f0 hp
 have hXR : ¬ (20 < R.length \/ 20 < X.length):=fun hx=>by rw [fileF_full hp hx] at f0; cases f0
 have hre : fstE (reqE p R) R.length = none:=by
  cases e : fstE (reqE p R) R.length with
  | none=>rfl
  | some i=>rw [fileF_req hp hXR e] at f0; exact absurd f0 (fstE_ne e)
 have hex : fstE (exE X) X.length = none:=by
  cases e : fstE (exE X) X.length with
  | none=>rfl
  | some i=>rw [fileF_ex hp hXR hre e] at f0; exact absurd f0 (fstE_ne e)
 have hri : rising (trR Q L N):=s.r.sublist hsub
 have hreq : fstE (reqE p (trR Q L N)) (trR Q L N).length = none:=fstE_none fun j hj=>by
  have hm:=hsub.subset (List.getElem_mem hj)
  have hq : ∀ prev,(∀ x,prev = some x -> noLess x.1 (trR Q L N)[j].1 = false) -> reqW p prev (trR Q L N)[j] = 0:=fun prev hx=>by
   unfold reqW
   rw [if_pos (s.e _ hm),if_neg (hno' _ hm)]
   cases prev with
   | none=>rfl
   | some x=>simp only; rw [hx x rfl]; rfl
  cases j with
  | zero=>rw [reqE_0 hj]; exact hq none (fun _ h=>by cases h)
  | succ k=>
   rw [reqE_1 hj]
   refine hq _ (fun x hx=>?_)
   injection hx with hx
   subst hx
   have:=List.pairwise_iff_getElem.1 hri k (k + 1) (by omega) hj (by omega)
   rw [noLess_lt,show lt ((trR Q L N)[k]'(by omega)).1 (trR Q L N)[k + 1].1 = true from this]; rfl
 rw [fileF_cl hp (by omega) hreq hex]
 refine codeE_none (fstE_none fun j hj=>?_)
 rw [clE_at hj,if_neg]
 intro hb
 have:=F.x
 unfold outM at this
 rw [List.any_eq_true.2 ⟨_,hsub.subset (List.getElem_mem hj),hb⟩] at this
 cases this
theorem srt_sorted {N : List Bm} (h : rising N) : tx (srtB (bl (N.map fun m=>m.1))) = N.map fun m=>m.1:=by
 have h1 : (bl (N.map fun m=>m.1)).Pairwise fun x y=>decide (x <= y) = true:=by
  unfold bl
  rw [List.pairwise_map,List.pairwise_map]
  refine h.imp fun {a b} hab=>decide_eq_true ?_
  exact List.le_of_lt (cbG_lt _ _ (of_decide_eq_true hab))
 unfold srtB
 rw [List.mergeSort_of_pairwise h1]
 unfold tx bl
 rw [List.map_map]
 refine (List.map_congr_left fun t _=>?_).trans (List.map_id _)
 show ba' t.data.toList = t
 cases t; simp [ba']
def selP (m : Bm) : ByteArray × Bm:=(m.1,(m.2,bE))
theorem pkT_sel (N : List Bm) : pkT (N.map selP) = N.map fun m=>m.1:=by unfold pkT; rw [List.map_map]; rfl
theorem gpW_sel {hv : ByteArray -> Bool} {pk : ByteArray -> ByteArray -> ByteArray -> ByteArray × Nat} {S : List Bm} : ∀ (rest don : List Bm),rising (don ++ rest) -> (∀ m,m ∈ rest -> hv m.1 = true /\ pk m.1 m.2 (vIn S m.1) = (m.2,0) /\ wildB m.1 = false) -> gpW hv pk S rest (don.map selP) = some ((don ++ rest).map selP)
 | [],don,_,_=>by rw [List.append_nil]; rfl
 | m :: rest,don,hr,hm=>by
  obtain ⟨h1,h2,h3⟩:=hm m (by simp)
  have hnot : m.1 ∉ pkT (don.map selP):=fun hx=>by
   rw [pkT_sel] at hx
   obtain ⟨x,hx,e⟩:=List.mem_map.1 hx
   have:=(List.pairwise_append.1 hr).2.2 x hx m (by simp)
   rw [e,lt_irrefl] at this
   cases this
  have hp : pkP (don.map selP) m.1 = (bE,bE):=by unfold pkP; rw [pkG_none hnot]; rfl
  have hg : gp1 hv pk S m.2 false (don.map selP) m.1 = some ((don ++ [m]).map selP):=by
   rw [gp1_ok h1 (by rw [h2]) (by rw [hp,h2]; rfl),hp,h2,pkNew_not hnot]
   congr 1
   unfold pkSet
   rw [List.map_append,List.map_append]
   congr 1
   ·refine (List.map_congr_left fun x hx=>?_).trans (List.map_id _)
    show (if x.1 = m.1 then _ else x) = x
    rw [if_neg fun e=>hnot (by rw [<- e]; exact List.mem_map.2 ⟨x,hx,rfl⟩)]
   ·show [if m.1 = m.1 then (m.1,pnS (bE,bE) m.2 false) else (m.1,(bE,bE))] = _
    rw [if_pos rfl]; rfl
  show (match gpP hv pk S m.2 (wildB m.1) (wPt S m.1) (don.map selP) with | none=>none | some K'=>gpW hv pk S rest K') = _
  have hw : wPt S m.1 = [m.1]:=by unfold wPt; rw [h3]; rfl
  rw [hw,h3]
  have hP : gpP hv pk S m.2 false [m.1] (don.map selP) = some ((don ++ [m]).map selP):=by
   show (match gp1 hv pk S m.2 false (don.map selP) m.1 with | none=>none | some K'=>some K') = _
   rw [hg]
  rw [hP]
  show gpW hv pk S rest ((don ++ [m]).map selP) = _
  rw [gpW_sel rest (don ++ [m]) (by rw [List.append_assoc]; exact hr) (fun x hx=>hm x (List.mem_cons_of_mem _ hx)),List.append_assoc]
  rfl
theorem caps_sel {N : List Bm} (h : rising N) : capsV (N.map selP) = N:=by
 have hn : (pkT (N.map selP)).Nodup:=by
  rw [pkT_sel,List.nodup_iff_pairwise_ne,List.pairwise_map]
  exact h.imp fun {a b} hab e=>by rw [e,lt_irrefl] at hab; cases hab
 unfold capsV
 rw [pkT_sel,srt_sorted h,List.map_map]
 refine (List.map_congr_left fun m hm=>?_).trans (List.map_id _)
 show (m.1,pnV (pkP (N.map selP) m.1)) = m
 obtain ⟨j,hj,rfl⟩:=List.getElem_of_mem hm
 have hj' : j < (N.map selP).length:=by rw [List.length_map]; exact hj
 have e : (N.map selP)[j] = selP N[j]:=List.getElem_map ..
 have:=pkP_at hn hj'
 rw [e] at this
 rw [show pkP (N.map selP) N[j].1 = (N[j].2,bE) from this]
 refine Prod.ext rfl ?_
 show pnV (N[j].2,bE) = N[j].2
 unfold pnV
 split
 ·rename_i h1; exact h1.symm
 ·rfl
theorem get_again {w : World} {v : Value} {Q : List Raw} {L : List Ent} {p : ByteArray} {R X N : List Bm} {G E : List ByteArray} (I : Ixs w v Q L) (h : getV (pkc Q L) Q L p R X G = some N) (hf : (fileF p (trR Q L N) X).1 = 0) (hl : N.length <= 10) (hE : E.length = N.length) (hT : ∀ j (h1 : j < E.length) (h2 : j < N.length),E[j].data.toList = modText N[j].1.data.toList N[j].2.data.toList) : getV (pkc Q L) Q L p (trR Q L N) X E = some N:=by
 obtain ⟨K,F⟩:=getV_some h
 obtain ⟨s,_,_⟩:=rbV_sel I F.c F.b
 obtain ⟨_,hsub,hb⟩:=fwB_tr I F.c s
 have hx : ∀ j (h1 : j < E.length),argK E[j] = N[j]'(by omega) /\ argZ E[j] = 0:=fun j h1=>arg_text (s.e _ (List.getElem_mem (by omega))) (hT j h1 (by omega))
 have hD : E.map argK = N:=List.ext_getElem (by rw [List.length_map]; exact hE) fun j h1 h2=>by
  rw [List.getElem_map]
  exact (hx j (by simpa using h1)).1
 have hu : ∀ m,m ∈ trR Q L N -> m ∈ univ L:=fun m hm=>s.u m (hsub.subset hm)
 have hg : gpW (hvQ Q) (pkc Q L) N N [] = some (N.map selP):=gpW_sel N [] s.r fun m hm=>by
  obtain ⟨h1,h2⟩:=pkc_self I F.c (s.u m hm) (vIn N m.1)
  exact ⟨h2,h1,path_wild (mErr_zero (s.e m hm)).1⟩
 have hcap : capN N = N:=List.filter_eq_self.2 fun m hm=>by
  have:=(ver_not_none (mErr_zero (s.e m hm)).2).2
  simp [this]
 have hC : (chkP N).1 = 0:=capsOf_sel s.r fun c hc=>⟨(mErr_zero (s.e c hc)).1,Or.inr (mErr_zero (s.e c hc)).2⟩
 have ht:=tF_sel I F.c s.u hC
 have hto:=toL_keep F.c s.u s.r ht (not_bd_self I F.c s.u s.b)
 have hrb : rbV Q L N N = some N:=by
  have hR : rbR Q L N N = N ++ N:=by unfold rbR; rw [hto,hcap]
  have hu2 : ∀ m,m ∈ N ++ N -> m ∈ univ L:=fun m hm=>by
   rcases List.mem_append.1 hm with h | h <;> exact s.u m h
  unfold rbV
  rw [if_neg (by simp [ht]),hR,if_neg (by simp [chkG_in I F.c hu2]),bX_mem_eq I F.c hu2 (B:=N) (fun m=>by simp),s.b]
 refine getV_is (K:=N.map selP) ⟨F.c,hf,by omega,fun a ha=>?_,chkG_in I F.c hu,by rw [hb]; exact F.x,by rw [hb,hD]; exact hg,by rw [hb,caps_sel s.r]; exact hrb,?_,F.x,F.t⟩
 ·obtain ⟨j,hj,rfl⟩:=List.getElem_of_mem ha
  exact (hx j hj).2
 ·rw [hb,hD,List.all_eq_true]
  intro m hm
  unfold wOk
  have hw : wPt N m.1 = [m.1]:=by unfold wPt; rw [path_wild (mErr_zero (s.e m hm)).1]; rfl
  rw [hw]
  obtain ⟨j,hj,rfl⟩:=List.getElem_of_mem hm
  have hn : (pkT (N.map selP)).Nodup:=by
   rw [pkT_sel,List.nodup_iff_pairwise_ne,List.pairwise_map]
   exact s.r.imp fun {a b} hab e=>by rw [e,lt_irrefl] at hab; cases hab
  have hj' : j < (N.map selP).length:=by rw [List.length_map]; exact hj
  have e : (N.map selP)[j] = selP N[j]:=List.getElem_map ..
  have hk:=pkP_at hn hj'
  rw [e] at hk
  obtain ⟨n1,n2⟩:=ver_not_none (mErr_zero (s.e _ hm)).2
  have h5 : pnB (pkP (N.map selP) N[j].1) = N[j].2:=by
   rw [show pkP (N.map selP) N[j].1 = (N[j].2,bE) from hk]
   unfold pnB pnV
   rw [if_neg n1,if_neg n2]
  simp [vIn_at s.r hj,h5]
end Ve
end Go.Proofs.YtjbmjnbkibmkpaaGreatDoor


namespace Go.Proofs.YtjbmjnbkibmkpaaGreatDoor
open Go.RowKit Go.Maps
namespace Ve
def qa0 : Bm:=(⟨#[97]⟩,⟨#[118,49,46,48,46,48]⟩)
def qa1 : Bm:=(⟨#[97]⟩,⟨#[118,49,46,49,46,48]⟩)
def qb0 : Bm:=(⟨#[98]⟩,⟨#[118,48,46,49,46,48]⟩)
def qb1 : Bm:=(⟨#[98]⟩,⟨#[118,48,46,50,46,48,45,114,99]⟩)
def s3L : List Ent:=[(qa0,[],[⟨#[46]⟩,⟨#[120]⟩],false),(qa1,[qb0],[⟨#[46]⟩],false),(qb0,[],[],false),(qb1,[],[],false)]
def s3Q (g : Nat) : List Raw:=[(qa0,.slice none 0 0,.slice (some ⟨g,0,none⟩) 2 2,false),(qa1,.slice (some ⟨g + 1,0,none⟩) 1 1,.slice (some ⟨g + 2,0,none⟩) 1 1,false),(qb0,.slice none 0 0,.slice none 0 0,false),(qb1,.slice none 0 0,.slice none 0 0,false)]
theorem s3_e0 : entE s3L 0 = 0:=by
 show entW none _ = 0
 rw [entW_none (by kernel_rfl),entR_pack (by decide) (by kernel_rfl)]
 exact pk_rise (by decide) (by kernel_rfl) (fun j hj=>by
  have : j = 0:=by simp [bl] at hj; omega
  subst this; exact of_decide_eq_true (by kernel_rfl))
theorem s3_e1 : entE s3L 1 = 0:=by
 show entW (some _) _ = 0
 rw [entW_some (by kernel_rfl) (by kernel_rfl),entR_pack (by decide) (by kernel_rfl)]
 exact pk_rise (by decide) (by kernel_rfl) (fun j hj=>by simp [bl] at hj)
theorem s3_e2 : entE s3L 2 = 0:=by
 show entW (some _) _ = 0
 rw [entW_some (by kernel_rfl) (by kernel_rfl),entR_pack (by decide) (by kernel_rfl)]
 exact pk_rise (by decide) (by kernel_rfl) (fun j hj=>by simp [bl] at hj)
theorem s3_e3 : entE s3L 3 = 0:=by
 show entW (some _) _ = 0
 rw [entW_some (by kernel_rfl) (by kernel_rfl),entR_pack (by decide) (by kernel_rfl)]
 exact pk_rise (by decide) (by kernel_rfl) (fun j hj=>by simp [bl] at hj)
theorem s3_chk (g : Nat) : chk (s3Q g) s3L = (0,none):=by
 have h2 : ∀ j,j < 4 -> entE s3L j = 0:=fun j hj=>by
  rcases (by omega : j = 0 \/ j = 1 \/ j = 2 \/ j = 3) with rfl | rfl | rfl | rfl
  ·exact s3_e0
  ·exact s3_e1
  ·exact s3_e2
  ·exact s3_e3
 have h : fstE (entE s3L) s3L.length = none:=fstE_none h2
 rw [chk_reqs (by decide) h]
 exact Prod.ext (show codeE (reqE2 (s3Q g) s3L) s3L.length = 0 by kernel_rfl) (show fstE (reqE2 (s3Q g) s3L) s3L.length = none by kernel_rfl)
theorem s3_sh : ∀ e,e ∈ s3L -> ShE e:=fun e he=>by
 have : e = s3L[0] \/ e = s3L[1] \/ e = s3L[2] \/ e = s3L[3]:=by simpa [s3L] using he
 rcases this with rfl | rfl | rfl | rfl
 ·exact ⟨by decide,by decide,by decide,fun m hm=>(by cases hm),by decide,fun x hx=>(by
   have : x = ⟨#[46]⟩ \/ x = ⟨#[120]⟩:=by simpa [s3L] using hx
   rcases this with rfl | rfl <;> decide)⟩
 ·exact ⟨by decide,by decide,by decide,fun m hm=>(by have : m = qb0:=List.mem_singleton.1 hm;subst this;exact ⟨by decide,by decide⟩),by decide,fun x hx=>(by have : x = ⟨#[46]⟩:=List.mem_singleton.1 hx;subst this;decide)⟩
 ·exact ⟨by decide,by decide,by decide,fun m hm=>(by cases hm),by decide,fun x hx=>(by cases hx)⟩
 ·exact ⟨by decide,by decide,by decide,fun m hm=>(by cases hm),by decide,fun x hx=>(by cases hx)⟩
theorem s3_ixs {W : World} {g q : Nat} (hb : W.heap[q]? = some (.cells #[.string ⟨#[97]⟩,.string ⟨#[118,49,46,48,46,48]⟩,.slice none 0 0,.slice (some ⟨g,0,none⟩) 2 2,.bool false,.string ⟨#[97]⟩,.string ⟨#[118,49,46,49,46,48]⟩,.slice (some ⟨g + 1,0,none⟩) 1 1,.slice (some ⟨g + 2,0,none⟩) 1 1,.bool false,.string ⟨#[98]⟩,.string ⟨#[118,48,46,49,46,48]⟩,.slice none 0 0,.slice none 0 0,.bool false,.string ⟨#[98]⟩,.string ⟨#[118,48,46,50,46,48,45,114,99]⟩,.slice none 0 0,.slice none 0 0,.bool false] 54 (0,0)))
  (hp : W.heap[g]? = some (.cells #[.string ⟨#[46]⟩,.string ⟨#[120]⟩] 9 (0,0))) (hg : W.heap[g + 1]? = some (.cells #[.string ⟨#[98]⟩,.string ⟨#[118,48,46,49,46,48]⟩] 47 (0,0))) (hd : W.heap[g + 2]? = some (.cells #[.string ⟨#[46]⟩] 9 (0,0))) :
  Ixs W (.slice (some ⟨q,0,none⟩) 4 4) (s3Q g) s3L:=by
 have msn : MsAt W (.slice none 0 0) []:=⟨none,0,rfl,Nat.le_refl _,fun h=>absurd rfl h⟩
 have txn : TxAt W (.slice none 0 0) []:=⟨none,0,rfl,Nat.le_refl _,fun h=>absurd rfl h⟩
 have msb : MsAt W (.slice (some ⟨g + 1,0,none⟩) 1 1) [qb0]:=⟨some ⟨g + 1,0,none⟩,1,rfl,Nat.le_refl _,fun _=>⟨g + 1,0,rfl,fun j hj=>by
  have : j = 0:=by simp at hj; exact hj
  subst this
  refine ⟨?_,?_⟩ <;> (rw [Lib.cell_of_heap hg]; rfl)⟩⟩
 have tx1 : TxAt W (.slice (some ⟨g,0,none⟩) 2 2) [⟨#[46]⟩,⟨#[120]⟩]:=⟨some ⟨g,0,none⟩,2,rfl,Nat.le_refl _,fun _=>⟨g,0,rfl,fun j hj=>by
  have hj2 : j < 2:=hj
  rcases (by omega : j = 0 \/ j = 1) with rfl | rfl
  ·rw [Lib.cell_of_heap hp]; rfl
  ·rw [Lib.cell_of_heap hp]; rfl⟩⟩
 have tx2 : TxAt W (.slice (some ⟨g + 2,0,none⟩) 1 1) [⟨#[46]⟩]:=⟨some ⟨g + 2,0,none⟩,1,rfl,Nat.le_refl _,fun _=>⟨g + 2,0,rfl,fun j hj=>by
  have : j = 0:=by simp at hj; exact hj
  subst this
  rw [Lib.cell_of_heap hd]; rfl⟩⟩
 refine ⟨⟨some ⟨q,0,none⟩,4,rfl,Nat.le_refl _,fun r hr=>?_,fun _=>⟨q,0,rfl,fun j hj=>?_⟩⟩,rfl,fun j h1 h2=>?_⟩
 ·rcases List.mem_cons.1 hr with rfl | hr
  ·exact ⟨⟨none,0,0,rfl⟩,_,_,_,rfl⟩
  rcases List.mem_cons.1 hr with rfl | hr
  ·exact ⟨⟨_,_,_,rfl⟩,_,_,_,rfl⟩
  rcases List.mem_cons.1 hr with rfl | hr
  ·exact ⟨⟨none,0,0,rfl⟩,none,0,0,rfl⟩
  rw [List.mem_singleton.1 hr]
  exact ⟨⟨none,0,0,rfl⟩,none,0,0,rfl⟩
 ·have hj2 : j < 4:=hj
  rcases (by omega : j = 0 \/ j = 1 \/ j = 2 \/ j = 3) with rfl | rfl | rfl | rfl
  ·refine ⟨?_,?_,?_,?_,?_⟩ <;> (rw [Lib.cell_of_heap hb]; rfl)
  ·refine ⟨?_,?_,?_,?_,?_⟩ <;> (rw [Lib.cell_of_heap hb]; rfl)
  ·refine ⟨?_,?_,?_,?_,?_⟩ <;> (rw [Lib.cell_of_heap hb]; rfl)
  ·refine ⟨?_,?_,?_,?_,?_⟩ <;> (rw [Lib.cell_of_heap hb]; rfl)
 ·have hj2 : j < 4:=h1
  rcases (by omega : j = 0 \/ j = 1 \/ j = 2 \/ j = 3) with rfl | rfl | rfl | rfl
  ·exact ⟨rfl,msn,tx1,rfl⟩
  ·exact ⟨rfl,msb,tx2,rfl⟩
  ·exact ⟨rfl,msn,txn,rfl⟩
  ·exact ⟨rfl,msn,txn,rfl⟩
theorem small3_any (w : World) : Calls Tryz.prog 21 #[] w fun e w'=>∃ g q,e = .returned (.slice (some ⟨q,0,none⟩) 4 4) /\ Ixs w' (.slice (some ⟨q,0,none⟩) 4 4) (s3Q g) s3L /\ Below w.heap.size w w':=by
 have a1:=heap_new w (.cells #[.string ⟨#[46]⟩,.string ⟨#[120]⟩] 9)
 have z1 : (w.alloc (.cells #[.string ⟨#[46]⟩,.string ⟨#[120]⟩] 9)).heap.size = w.heap.size + 1:=by simp
 have b1:=(Below.refl w.heap.size w).alloc (Nat.le_refl _) (.cells #[.string ⟨#[46]⟩,.string ⟨#[120]⟩] 9)
 obtain ⟨w1,hw1⟩ : ∃ w1,w.alloc (.cells #[.string ⟨#[46]⟩,.string ⟨#[120]⟩] 9) = w1:=⟨_,rfl⟩
 rw [hw1] at a1 z1 b1
 have a2:=heap_new w1 (.cells #[.string ⟨#[98]⟩,.string ⟨#[118,48,46,49,46,48]⟩] 47)
 have c1:=heap_old w1 (.cells #[.string ⟨#[98]⟩,.string ⟨#[118,48,46,49,46,48]⟩] 47) a1
 have b2:=b1.alloc b1.size (.cells #[.string ⟨#[98]⟩,.string ⟨#[118,48,46,49,46,48]⟩] 47)
 have z2 : (w1.alloc (.cells #[.string ⟨#[98]⟩,.string ⟨#[118,48,46,49,46,48]⟩] 47)).heap.size = w.heap.size + 2:=by simp [z1]
 rw [z1] at a2
 obtain ⟨w2,hw2⟩ : ∃ w2,w1.alloc (.cells #[.string ⟨#[98]⟩,.string ⟨#[118,48,46,49,46,48]⟩] 47) = w2:=⟨_,rfl⟩
 rw [hw2] at a2 c1 b2 z2
 have a3:=heap_new w2 (.cells #[.string ⟨#[46]⟩] 9)
 have c2:=heap_old w2 (.cells #[.string ⟨#[46]⟩] 9) c1
 have d2:=heap_old w2 (.cells #[.string ⟨#[46]⟩] 9) a2
 have b3:=b2.alloc b2.size (.cells #[.string ⟨#[46]⟩] 9)
 have z3 : (w2.alloc (.cells #[.string ⟨#[46]⟩] 9)).heap.size = w.heap.size + 3:=by simp [z2]
 rw [z2] at a3
 obtain ⟨w3,hw3⟩ : ∃ w3,w2.alloc (.cells #[.string ⟨#[46]⟩] 9) = w3:=⟨_,rfl⟩
 rw [hw3] at a3 c2 d2 b3 z3
 have a4:=heap_new w3 (.cells #[.string ⟨#[97]⟩,.string ⟨#[118,49,46,48,46,48]⟩,.slice none 0 0,.slice (some ⟨w.heap.size,0,none⟩) 2 2,.bool false,.string ⟨#[97]⟩,.string ⟨#[118,49,46,49,46,48]⟩,.slice (some ⟨w.heap.size + 1,0,none⟩) 1 1,.slice (some ⟨w.heap.size + 2,0,none⟩) 1 1,.bool false,.string ⟨#[98]⟩,.string ⟨#[118,48,46,49,46,48]⟩,.slice none 0 0,.slice none 0 0,.bool false,.string ⟨#[98]⟩,.string ⟨#[118,48,46,50,46,48,45,114,99]⟩,.slice none 0 0,.slice none 0 0,.bool false] 54)
 have c3:=heap_old w3 (.cells #[.string ⟨#[97]⟩,.string ⟨#[118,49,46,48,46,48]⟩,.slice none 0 0,.slice (some ⟨w.heap.size,0,none⟩) 2 2,.bool false,.string ⟨#[97]⟩,.string ⟨#[118,49,46,49,46,48]⟩,.slice (some ⟨w.heap.size + 1,0,none⟩) 1 1,.slice (some ⟨w.heap.size + 2,0,none⟩) 1 1,.bool false,.string ⟨#[98]⟩,.string ⟨#[118,48,46,49,46,48]⟩,.slice none 0 0,.slice none 0 0,.bool false,.string ⟨#[98]⟩,.string ⟨#[118,48,46,50,46,48,45,114,99]⟩,.slice none 0 0,.slice none 0 0,.bool false] 54) c2
 have d3:=heap_old w3 (.cells #[.string ⟨#[97]⟩,.string ⟨#[118,49,46,48,46,48]⟩,.slice none 0 0,.slice (some ⟨w.heap.size,0,none⟩) 2 2,.bool false,.string ⟨#[97]⟩,.string ⟨#[118,49,46,49,46,48]⟩,.slice (some ⟨w.heap.size + 1,0,none⟩) 1 1,.slice (some ⟨w.heap.size + 2,0,none⟩) 1 1,.bool false,.string ⟨#[98]⟩,.string ⟨#[118,48,46,49,46,48]⟩,.slice none 0 0,.slice none 0 0,.bool false,.string ⟨#[98]⟩,.string ⟨#[118,48,46,50,46,48,45,114,99]⟩,.slice none 0 0,.slice none 0 0,.bool false] 54) d2
 have e3:=heap_old w3 (.cells #[.string ⟨#[97]⟩,.string ⟨#[118,49,46,48,46,48]⟩,.slice none 0 0,.slice (some ⟨w.heap.size,0,none⟩) 2 2,.bool false,.string ⟨#[97]⟩,.string ⟨#[118,49,46,49,46,48]⟩,.slice (some ⟨w.heap.size + 1,0,none⟩) 1 1,.slice (some ⟨w.heap.size + 2,0,none⟩) 1 1,.bool false,.string ⟨#[98]⟩,.string ⟨#[118,48,46,49,46,48]⟩,.slice none 0 0,.slice none 0 0,.bool false,.string ⟨#[98]⟩,.string ⟨#[118,48,46,50,46,48,45,114,99]⟩,.slice none 0 0,.slice none 0 0,.bool false] 54) a3
 have b4:=b3.alloc b3.size (.cells #[.string ⟨#[97]⟩,.string ⟨#[118,49,46,48,46,48]⟩,.slice none 0 0,.slice (some ⟨w.heap.size,0,none⟩) 2 2,.bool false,.string ⟨#[97]⟩,.string ⟨#[118,49,46,49,46,48]⟩,.slice (some ⟨w.heap.size + 1,0,none⟩) 1 1,.slice (some ⟨w.heap.size + 2,0,none⟩) 1 1,.bool false,.string ⟨#[98]⟩,.string ⟨#[118,48,46,49,46,48]⟩,.slice none 0 0,.slice none 0 0,.bool false,.string ⟨#[98]⟩,.string ⟨#[118,48,46,50,46,48,45,114,99]⟩,.slice none 0 0,.slice none 0 0,.bool false] 54)
 rw [z3] at a4
 have HX:=hid (s3_ixs a4 c3 d3 e3)
 have HB:=hid b4
 subst hw3 hw2 hw1
 clear a1 a2 a3 a4 b1 b2 b3 b4 c1 c2 c3 d2 d3 e3
 go_enter Tryz.func21,Tryz.ntmps21
 go_wp2_with fail
 go_ret
 exact ⟨w.heap.size,w.heap.size + 3,rfl,HX.out,HB.out⟩
end Ve
end Go.Proofs.YtjbmjnbkibmkpaaGreatDoor


namespace Go.Proofs.YtjbmjnbkibmkpaaGreatDoor
open Go.RowKit Go.Maps
namespace Ve
def bMain : ByteArray:=⟨#[109,97,105,110]⟩
def bA : ByteArray:=⟨#[97]⟩
theorem s3_r0 (g : Nat) : reqQ (s3Q g) s3L qa0 = []:=by kernel_rfl
theorem s3_r1 (g : Nat) : reqQ (s3Q g) s3L qa1 = [qb0]:=by kernel_rfl
theorem s3_rb (g : Nat) : reqQ (s3Q g) s3L qb0 = []:=by kernel_rfl
theorem s3_m0 : mErr qa0 = 0:=by kernel_rfl
theorem s3_m1 : mErr qa1 = 0:=by kernel_rfl
theorem s3_mb : mErr qb0 = 0:=by kernel_rfl
theorem s3_lt : lt qa1.1 qb0.1 = true:=by kernel_rfl
theorem s3_u0 : qa0 ∈ univ s3L:=by simp [univ,s3L]
theorem s3_u1 : qa1 ∈ univ s3L:=by simp [univ,s3L]
theorem s3_ub : qb0 ∈ univ s3L:=by simp [univ,s3L]
theorem s3_o01 : ordV (vb qa0) (vb qa1) <= 0:=of_decide_eq_true (by kernel_rfl)
theorem s3_c (g : Nat) : (chk (s3Q g) s3L).1 = 0:=by rw [s3_chk]
theorem s3_rch0 {g : Nat} {m : Bm} (h : Rch (reqQ (s3Q g) s3L) [qa0] m) : m = qa0:=by
 induction h with
 | root hr=>exact List.mem_singleton.1 hr
 | step _ hr ih=>rw [ih,s3_r0] at hr; cases hr
theorem s3_rchb {g : Nat} {m : Bm} (h : Rch (reqQ (s3Q g) s3L) [qb0] m) : m = qb0:=by
 induction h with
 | root hr=>exact List.mem_singleton.1 hr
 | step _ hr ih=>rw [ih,s3_rb] at hr; cases hr
theorem s3_rch1 {g : Nat} {m : Bm} (h : Rch (reqQ (s3Q g) s3L) [qa1] m) : m = qa1 \/ m = qb0:=by
 induction h with
 | root hr=>exact Or.inl (List.mem_singleton.1 hr)
 | step _ hr ih=>
  rcases ih with rfl | rfl
  ·rw [s3_r1] at hr; exact Or.inr (List.mem_singleton.1 hr)
  ·rw [s3_rb] at hr; cases hr
theorem s3_rch01 {g : Nat} (m : Bm) : Rch (reqQ (s3Q g) s3L) [qa0,qa1] m ↔ m ∈ [qa0,qa1,qb0]:=by
 constructor
 ·intro h
  rcases (Rch.app (a:=[qa0]) (b:=[qa1])).1 h with h | h
  ·rw [s3_rch0 h]; simp
  ·rcases s3_rch1 h with rfl | rfl <;> simp
 ·intro h
  have : m = qa0 \/ m = qa1 \/ m = qb0:=by simpa using h
  rcases this with rfl | rfl | rfl
  ·exact .root (by simp)
  ·exact .root (by simp)
  ·exact .step (.root (show qa1 ∈ [qa0,qa1] by simp)) (by rw [s3_r1]; simp)
theorem bX_ofG {w : World} {v : Value} {Q : List Raw} {L : List Ent} {roots D E : List Bm} (I : Ixs w v Q L) (h : (chkG Q L roots).1 = 0) (hm : ∀ m,Rch (reqQ Q L) roots m ↔ m ∈ D) (hj : Jn D E) : bX Q L roots = E:=
 (bX_jn Q L roots).one hj (fun m _=>(rX_mem I h).trans (hm m))
theorem s3_ris : rising [qa1,qb0]:=by
 refine List.pairwise_cons.2 ⟨fun x hx=>by rw [List.mem_singleton.1 hx]; exact s3_lt,List.pairwise_singleton _ _⟩
theorem s3_b0 {w : World} {v : Value} {g : Nat} (I : Ixs w v (s3Q g) s3L) : bX (s3Q g) s3L [qa0] = [qa0]:=
 bX_ofG (D:=[qa0]) I (chkG_in I (s3_c g) (fun m hm=>by rw [List.mem_singleton.1 hm]; exact s3_u0)) (fun m=>⟨fun h=>by rw [s3_rch0 h]; simp,fun h=>.root h⟩)
  ⟨List.pairwise_singleton _ _,fun e he=>⟨he,by rw [List.mem_singleton.1 he]; exact s3_m0⟩,fun x hx h0=>⟨x,hx,rfl,ordV_selfJ h0⟩⟩
theorem s3_b01 {w : World} {v : Value} {g : Nat} (I : Ixs w v (s3Q g) s3L) : bX (s3Q g) s3L [qa0,qa1] = [qa1,qb0]:=
 bX_ofG I (chkG_in I (s3_c g) (fun m hm=>by
  have : m = qa0 \/ m = qa1:=by simpa using hm
  rcases this with rfl | rfl
  ·exact s3_u0
  ·exact s3_u1)) s3_rch01
  ⟨s3_ris,fun e he=>by
   have : e = qa1 \/ e = qb0:=by simpa using he
   rcases this with rfl | rfl
   ·exact ⟨by simp,s3_m1⟩
   ·exact ⟨by simp,s3_mb⟩,fun x hx h0=>by
   have : x = qa0 \/ x = qa1 \/ x = qb0:=by simpa using hx
   rcases this with rfl | rfl | rfl
   ·exact ⟨qa1,by simp,rfl,s3_o01⟩
   ·exact ⟨qa1,by simp,rfl,ordV_selfJ h0⟩
   ·exact ⟨qb0,by simp,rfl,ordV_selfJ h0⟩⟩
theorem s3_sel {w : World} {v : Value} {g : Nat} (I : Ixs w v (s3Q g) s3L) : SelF (s3Q g) s3L [qa1,qb0]:=by
 have s:=bX_selF I (chkG_in I (s3_c g) (R:=[qa0,qa1]) (fun m hm=>by
  have : m = qa0 \/ m = qa1:=by simpa using hm
  rcases this with rfl | rfl
  ·exact s3_u0
  ·exact s3_u1))
 rw [s3_b01 I] at s
 exact s
theorem s3_nb {w : World} {v : Value} {g : Nat} (I : Ixs w v (s3Q g) s3L) : ¬ bX (s3Q g) s3L [qb0] = [qa1,qb0]:=fun e=>by
 have h : qa1 ∈ bX (s3Q g) s3L [qb0]:=by rw [e]; simp
 exact absurd (congrArg (fun m : Bm=>m.1.data) (s3_rchb (bX_in I (chkG_in I (s3_c g) (fun m hm=>by rw [List.mem_singleton.1 hm]; exact s3_ub)) h))) (by decide)
theorem s3_b1 {w : World} {v : Value} {g : Nat} (I : Ixs w v (s3Q g) s3L) : bX (s3Q g) s3L [qa1] = [qa1,qb0]:=
 bX_ofG (D:=[qa1,qb0]) I (chkG_in I (s3_c g) (fun m hm=>by rw [List.mem_singleton.1 hm]; exact s3_u1)) (fun m=>⟨fun h=>by rcases s3_rch1 h with rfl | rfl <;> simp,fun h=>by
  have : m = qa1 \/ m = qb0:=by simpa using h
  rcases this with rfl | rfl
  ·exact .root (by simp)
  ·exact .step (.root (show qa1 ∈ [qa1] by simp)) (by rw [s3_r1]; simp)⟩)
  ⟨s3_ris,fun e he=>⟨he,(s3_sel I).e e he⟩,fun x hx h0=>⟨x,hx,rfl,ordV_selfJ h0⟩⟩
theorem s3_trX {w : World} {v : Value} {g : Nat} (I : Ixs w v (s3Q g) s3L) : trX (s3Q g) s3L [qa1,qb0] = [qa1]:=by
 unfold trX trmA
 show trm _ (1 + 1) [qa1,qb0] 0 = _
 rw [trm_stays (by decide) (gB_not.2 (s3_nb I))]
 show trm _ (0 + 1) [qa1,qb0] 1 = _
 rw [trm_goes (by decide) (gB_iff.2 (s3_b1 I))]
 rfl
theorem s3_tr {w : World} {v : Value} {g : Nat} (I : Ixs w v (s3Q g) s3L) : trR (s3Q g) s3L [qa1,qb0] = [qa1]:=by rw [(fwB_tr I (s3_c g) (s3_sel I)).1,s3_trX I]
theorem s3_kept (g : Nat) : kX (opQ (s3Q g) bA) bA = [qa0.2,qa1.2]:=by
 refine kept_one (kX_kept _ _) ⟨?_,fun t=>?_⟩
 ·unfold rises bl
  exact List.pairwise_cons.2 ⟨fun x hx=>by
   have : x = qa1.2.data.toList:=by simpa using hx
   rw [this]
   exact of_decide_eq_true (by kernel_rfl),List.pairwise_singleton _ _⟩
 ·have e : verL (ofP bA (opQ (s3Q g) bA)) = [qa0.2,qa1.2]:=by kernel_rfl
  rw [e]
  constructor
  ·intro h
   refine ⟨h,?_⟩
   have : t = qa0.2.data.toList \/ t = qa1.2.data.toList:=by simpa [bl] using h
   rcases this with rfl | rfl
   ·exact (mErr_zero s3_m0).2
   ·exact (mErr_zero s3_m1).2
  ·intro h; exact h.1
theorem s3_pk (g : Nat) : pkc (s3Q g) s3L bA bUpgrade qa0.2 = (qa1.2,0):=by
 unfold pkc
 rw [s3_kept]
 have hl : look (opQ (s3Q g) bA) (opL s3L bA) bUpgrade:=⟨by kernel_rfl,op_chk (s3_c g) bA,fun e=>absurd (congrArg (fun m : ByteArray=>m.data) e) (by decide)⟩
 have g1 : ¬ qErr bUpgrade ≠ 0:=by rw [hl.1]; simp
 have g2 : ¬ (chk (opQ (s3Q g) bA) (opL s3L bA)).1 ≠ 0:=by rw [hl.2.1]; simp
 have hb : pkB (opQ (s3Q g) bA) bA bUpgrade qa0.2 [qa0.2,qa1.2] = qa1.2:=by kernel_rfl
 have hne : ¬ qa1.2 = bE:=fun e=>absurd (congrArg (fun m : ByteArray=>m.data) e) (by decide)
 rw [pkF_m g1 g2 hl.2.2,pkV_m g1 g2 hl.2.2,hb,if_neg hne,if_neg hne,if_pos rfl]
 have : maxB qa1.2 qa0.2 = qa1.2:=by kernel_rfl
 rw [this]
theorem s3_arg : argK bA = (bA,bUpgrade):=by kernel_rfl
theorem s3_argz : argZ bA = 0:=by kernel_rfl
theorem s3_hv (g : Nat) : hvQ (s3Q g) bA = true:=by kernel_rfl
theorem s3_ris1 : rising [qa1]:=List.pairwise_singleton _ _
theorem s3_get {w : World} {v : Value} {g : Nat} (I : Ixs w v (s3Q g) s3L) : getV (pkc (s3Q g) s3L) (s3Q g) s3L bMain [qa0] [] [bA] = some [qa1,qb0]:=by
 have hu0 : ∀ m,m ∈ [qa0] -> m ∈ univ s3L:=fun m hm=>by rw [List.mem_singleton.1 hm]; exact s3_u0
 have hw : wildB bA = false:=by kernel_rfl
 have hp : wPt [qa0] bA = [bA]:=by unfold wPt; rw [hw]; rfl
 have hvi : vIn [qa0] bA = qa0.2:=rfl
 have hP : pkP [] bA = (bE,bE):=rfl
 have hg1 : gp1 (hvQ (s3Q g)) (pkc (s3Q g) s3L) [qa0] bUpgrade false [] bA = some ([qa1].map selP):=by
  rw [gp1_ok (s3_hv g) (by rw [hvi,s3_pk]) (by rw [hvi,s3_pk,hP]; rfl),hvi,s3_pk,hP]
  rfl
 have hg : gpW (hvQ (s3Q g)) (pkc (s3Q g) s3L) [qa0] [(bA,bUpgrade)] [] = some ([qa1].map selP):=by
  show (match gpP (hvQ (s3Q g)) (pkc (s3Q g) s3L) [qa0] bUpgrade (wildB bA) (wPt [qa0] bA) [] with | none=>none | some K'=>some K') = _
  rw [hp,hw]
  have hP : gpP (hvQ (s3Q g)) (pkc (s3Q g) s3L) [qa0] bUpgrade false [bA] [] = some ([qa1].map selP):=by
   show (match gp1 (hvQ (s3Q g)) (pkc (s3Q g) s3L) [qa0] bUpgrade false [] bA with | none=>none | some K'=>some K') = _
   rw [hg1]
  rw [hP]
 have hC : (chkP [qa1]).1 = 0:=by kernel_rfl
 have ht:=tF_sel I (s3_c g) hu0 hC
 have hto : toL (s3Q g) s3L [qa0] [qa1] = [qa0]:=toL_keep (s3_c g) hu0 (List.pairwise_singleton _ _) ht (fun m hm ⟨k,hk,hc⟩=>by
  rw [List.mem_singleton.1 hm] at hk
  rw [s3_rch0 hk,show capB [qa1] qa0 = false by kernel_rfl] at hc
  cases hc)
 have hcn : capN [qa1] = [qa1]:=by
  have : ¬ qa1.2 = bNone:=fun e=>absurd (congrArg (fun m : ByteArray=>m.data) e) (by decide)
  unfold capN
  simp [this]
 have hR : rbR (s3Q g) s3L [qa0] [qa1] = [qa0,qa1]:=by unfold rbR; rw [hto,hcn]; rfl
 have hrb : rbV (s3Q g) s3L [qa0] [qa1] = some [qa1,qb0]:=by
  unfold rbV
  rw [if_neg (by simp [ht]),hR,if_neg (by
   have:=chkG_in I (s3_c g) (R:=[qa0,qa1]) (fun m hm=>by
    have : m = qa0 \/ m = qa1:=by simpa using hm
    rcases this with rfl | rfl
    ·exact s3_u0
    ·exact s3_u1)
   simp [this]),s3_b01 I]
 have hmap : ([bA].map argK) = [(bA,bUpgrade)]:=by rw [List.map_cons,s3_arg]; rfl
 refine getV_is (K:=[qa1].map selP) ⟨s3_c g,by kernel_rfl,by decide,fun s hs=>by rw [List.mem_singleton.1 hs]; exact s3_argz,chkG_in I (s3_c g) hu0,by rw [s3_b0 I]; rfl,by rw [s3_b0 I,hmap]; exact hg,by rw [s3_b0 I,caps_sel s3_ris1]; exact hrb,?_,rfl,?_⟩
 ·rw [s3_b0 I,hmap]
  unfold wOk
  simp only [List.all_cons,List.all_nil,Bool.and_true]
  rw [hp]
  have : vIn [qa1,qb0] bA = pnB (pkP ([qa1].map selP) bA):=by kernel_rfl
  simp [this]
 ·have s:=s3_sel I
  exact fwB_iff.2 ⟨by rw [trF_good (chkG_in I (s3_c g) s.u) s.b],by rw [s3_tr I]; decide⟩
end Ve
end Go.Proofs.YtjbmjnbkibmkpaaGreatDoor


namespace Go.Proofs.YtjbmjnbkibmkpaaGreatDoor
open Go.RowKit Go.Maps
namespace Ve
theorem s3_zG : ∀ e,e ∈ s3L -> e.1.1.size <= 80 /\ e.1.2.size <= 80:=fun e he=>by
 have : e = s3L[0] \/ e = s3L[1] \/ e = s3L[2] \/ e = s3L[3]:=by simpa [s3L] using he
 rcases this with rfl | rfl | rfl | rfl <;> exact ⟨by decide,by decide⟩
theorem short_of {w : World} {v : Value} {Q : List Raw} {L : List Ent} (I : Ixs w v Q L) (h : ∀ e,e ∈ L -> e.1.1.size <= 80 /\ e.1.2.size <= 80) : shortQ Q:=fun r hr=>by
 obtain ⟨j,hj,rfl⟩:=List.getElem_of_mem hr
 have hl : j < L.length:=by rw [<- I.ln]; exact hj
 rw [(I.ok j hj hl).m]
 exact h _ (List.getElem_mem hl)
theorem stayTab : StayG TabT:=fun _ _ h hb=>tab_below h hb
theorem shA_a : shA bA:=⟨by decide,by rw [s3_arg]; decide,by rw [s3_arg]; decide⟩
set_option maxRecDepth 100000 in
theorem got_any (A : Nat -> Addr) (m : Int) (w : World) (S : Te w A m) (D : Ds w A) (hT : TabT w) : Calls Tryz.prog 4 #[] w fun e w'=>e = .returned (.bool true) /\ Below w.heap.size w w':=by
 have HSM:=hid (small3_any w)
 have HS:=hid (fun W (h : Below w.heap.size w W)=>S.below h)
 have HD:=hid (fun W (h : Below w.heap.size w W)=>D.below h)
 have HT:=hid (fun W (h : Below w.heap.size w W)=>stayTab _ W hT h)
 clear S D hT
 go_enter Tryz.func4,Tryz.ntmps4
 go_wp2_with fail
 refine HSM.out.mono ?_
 rintro e w1 ⟨g,q,rfl,hix,hb⟩
 obtain ⟨w2,hw2⟩ : ∃ W,W = (w1.alloc (.cells #[.string ⟨#[97]⟩,.string ⟨#[118,49,46,48,46,48]⟩] 47)).alloc (.cells #[.string ⟨#[97]⟩] 9):=⟨_,rfl⟩
 have hB2 : Below w1.heap.size w1 w2:=by rw [hw2]; exact ((Below.refl w1.heap.size w1).alloc (Nat.le_refl _) _).alloc (by simp) _
 have n1 : w2.heap[w1.heap.size]? = some (.cells #[.string ⟨#[97]⟩,.string ⟨#[118,49,46,48,46,48]⟩] 47 (0,0)):=by rw [hw2]; exact heap_old _ _ (heap_new w1 _)
 have n2 : w2.heap[w1.heap.size + 1]? = some (.cells #[.string ⟨#[97]⟩] 9 (0,0)):=by
  rw [hw2]
  have:=heap_new (w1.alloc (.cells #[.string ⟨#[97]⟩,.string ⟨#[118,49,46,48,46,48]⟩] 47)) (.cells #[.string ⟨#[97]⟩] 9)
  rw [show (w1.alloc (.cells #[.string ⟨#[97]⟩,.string ⟨#[118,49,46,48,46,48]⟩] 47)).heap.size = w1.heap.size + 1 by simp] at this
  exact this
 have hBw:=hb.trans (hB2.mono hb.size)
 have hms : MsAt w2 (.slice (some ⟨w1.heap.size,0,none⟩) 1 1) [qa0]:=ms_one1 (x:=qa0) n1
 have htx : TxAt w2 (.slice (some ⟨w1.heap.size + 1,0,none⟩) 1 1) [bA]:=⟨_,1,rfl,Nat.le_refl _,fun _=>⟨w1.heap.size + 1,0,rfl,fun j hj=>by
  have : j = 0:=by simp at hj; exact hj
  subst this
  rw [Lib.cell_of_heap n2]; rfl⟩⟩
 have hI2:=hix.below hB2
 have HG:=hid (get_any TabT stayTab (pkc (s3Q g) s3L) (s3Q g) s3L bMain [qa0] [] [bA] (.slice (some ⟨q,0,none⟩) 4 4) (.slice (some ⟨w1.heap.size,0,none⟩) 1 1) (.slice none 0 0) (.slice (some ⟨w1.heap.size + 1,0,none⟩) 1 1) A m w2 (by decide) s3_sh (fun e he=>⟨by have:=(s3_zG e he).1; omega,by have:=(s3_zG e he).2; omega⟩) (by decide) (by decide) (by decide) (by decide) (fun s hs=>by rw [List.mem_singleton.1 hs]; exact shA_a) (HS.out w2 hBw) (HD.out w2 hBw) (HT.out w2 hBw) hI2
  ⟨hms,ms_nil0 w2,fun x hx=>by rw [List.mem_singleton.1 hx]; exact ⟨show qa0.1.size < 999999 by decide,show qa0.2.size < 999999 by decide⟩,fun x hx=>absurd hx (by simp),by decide,by decide⟩ (fun a c h _=>Or.inl (by injection h with h1 h2 h3; rw [h1,h3])) htx (pkc_c (by decide) s3_sh (short_of hI2 s3_zG) A m) (pkc_z (short_of hI2 s3_zG)))
 rw [s3_get hI2] at HG
 have HTR:=hid (s3_tr hI2)
 have HW2:=hid hw2
 have HB2:=hid hBw
 clear hix hb hB2 n1 n2 hBw hms htx hI2 hw2
 go_wp2_with fail
 rw [<- HW2.out]
 refine HG.out.mono ?_
 intro e w3 hp
 unfold GetP at hp
 simp only at hp
 rw [HTR.out] at hp
 obtain ⟨ra,rc,xa,xc,na,nc,rfl,hrm,-,-,-,hb⟩:=hp
 have HB3:=hid (HB2.out.trans (hb.mono HB2.out.size))
 have HRM:=hid (fun W (h : Below w3.heap.size w3 W)=>hrm.below h)
 obtain ⟨ra',rc',hr1,-,hr2⟩:=hrm
 injection hr1 with h1 h2 h3
 subst h1
 subst h3
 obtain ⟨rb,ro,hrb,hrc⟩:=hr2 (by simp)
 subst hrb
 have k1:=cell_below ((Below.refl w3.heap.size w3).alloc (Nat.le_refl _) (.cells #[.string bMain,.slice (some ⟨rb,ro,none⟩) 1 rc,.slice xa 0 xc] 25)) (hrc 0 (by decide)).2
 rw [Nat.zero_mul,Nat.add_zero] at k1
 have k2 : (w3.alloc (.cells #[.string bMain,.slice (some ⟨rb,ro,none⟩) 1 rc,.slice xa 0 xc] 25)).cell? ⟨rb,ro + 1,none⟩ = some (.string ⟨#[118,49,46,49,46,48]⟩):=k1
 have hl : rb < w3.heap.size:=lt_of_cell (hrc 0 (by decide)).2
 have s1 : ((⟨#[118,49,46,49,46,48]⟩ : ByteArray).toList == [118,49,46,49,46,48]) = true:=by rw [ByteArray.toList_eq]; rfl
 have s2 : (bMain.toList == [109,97,105,110]) = true:=by rw [ByteArray.toList_eq]; rfl
 show _
 clear hrc hb h2 k1 HG HTR
 simp only [List.length_cons,List.length_nil,Nat.zero_add,Nat.reduceAdd]
 go_wp2_with fail
 go_ret
 exact ⟨rfl,HB3.out.alloc HB3.out.size _⟩
end Ve
end Go.Proofs.YtjbmjnbkibmkpaaGreatDoor


namespace Go.Proofs.YtjbmjnbkibmkpaaGreatDoor
open Go.RowKit
namespace Ve
theorem two3O {w w3 : World} {a b c a' b' c' : Value} {T T' : TypeId} (hb : Below (w.heap.size + 1 + 1) ((w.alloc (.cells #[a,b,c] T)).alloc (.cells #[a',b',c'] T')) w3) :
  (w3.cell? ⟨w.heap.size,0,none⟩ = some a /\ w3.cell? ⟨w.heap.size,1,none⟩ = some b /\ w3.cell? ⟨w.heap.size,2,none⟩ = some c) /\
  (w3.cell? ⟨w.heap.size + 1,0,none⟩ = some a' /\ w3.cell? ⟨w.heap.size + 1,1,none⟩ = some b' /\ w3.cell? ⟨w.heap.size + 1,2,none⟩ = some c') /\ (∀ o,w3.frozen? ⟨w.heap.size + 1,o,none⟩ = false) /\ w.heap.size + 1 < w3.heap.size:=by
 have hz : (w.alloc (.cells #[a,b,c] T)).heap.size = w.heap.size + 1:=by simp
 have h2 : Below ((w.alloc (.cells #[a,b,c] T)).heap.size + 1) ((w.alloc (.cells #[a,b,c] T)).alloc (.cells #[a',b',c'] T')) w3:=by rw [hz]; exact hb
 obtain ⟨c2,z2⟩:=res3 h2
 have f2:=res3f h2
 rw [hz] at c2 z2 f2
 refine ⟨?_,c2,f2,z2⟩
 have go : ∀ o,w3.cell? ⟨w.heap.size,o,none⟩ = (w.alloc (.cells #[a,b,c] T)).cell? ⟨w.heap.size,o,none⟩:=fun o=>by
  rw [hb.cell (by simp; omega),World.cell?_alloc_lt _ _ _ (by simp)]
 rw [go,go,go]
 simp
structure Cp2O (w0 W : World) (R X : List Bm) (v u : Value) : Prop where
 ov : W.ownsRow w0.heap.size 47 2 v R.length (flatM R)
 ou : W.ownsRow w0.heap.size 47 2 u X.length (flatM X)
 ap : ∀ g,v.ownBlock = some g -> u.ownBlock ≠ some g
 bl : Below w0.heap.size w0 W
 zv : R = [] -> v = .slice none 0 0
 zu : X = [] -> u = .slice none 0 0
theorem two3bO {w w3 : World} {o : Obj} {a' b' c' : Value} {T' : TypeId} (hb : Below (w.heap.size + 1 + 1) ((w.alloc o).alloc (.cells #[a',b',c'] T')) w3) : w3.heap[w.heap.size + 1]? = some (.cells #[a',b',c'] T' (0,0)):=by
 have:=heap_new (w.alloc o) (.cells #[a',b',c'] T')
 rw [show (w.alloc o).heap.size = w.heap.size + 1 by simp] at this
 rw [hb.block _ (by omega)]; exact this
theorem two3aO {w w3 : World} {o : Obj} {a b c : Value} {T : TypeId} (hb : Below (w.heap.size + 1 + 1) ((w.alloc (.cells #[a,b,c] T)).alloc o) w3) : w3.heap[w.heap.size]? = some (.cells #[a,b,c] T (0,0)):=by
 rw [hb.block _ (by omega)]; exact heap_old _ _ (heap_new w _)
theorem ownFO_any (p : ByteArray) (R X : List Bm) (v u : Value) (w : World) (F : Fl w R X v u) (he : Em v R) (hx : Em u X) :
  Calls Tryz.prog 12 #[.agg #[.string p,v,u]] w fun e w'=>∃ v' u',e = .returned (.agg #[.string p,v',u']) /\ Cp2O w w' R X v' u':=by
 obtain ⟨⟨vp,vc,rfl⟩,up,uc,rfl⟩:=F.slices
 have HB1:=hid (((Below.refl w.heap.size w).alloc (Nat.le_refl _) (.cells #[.string p,.slice vp R.length vc,.slice up X.length uc] 25)).alloc (by simp) (.cells #[.string ⟨#[]⟩,.slice none 0 0,.slice none 0 0] 25))
 have HF:=hid F
 have HE1:=hid he
 have HE2:=hid hx
 clear F he hx
 go_enter Tryz.func12,Tryz.ntmps12
 go_wp2_with fail
 refine (ownM_any (.slice vp R.length vc) R _ HF.out.rn (HF.out.r.below HB1.out) HE1.out).mono ?_
 rintro e w1 ⟨v1,rfl,ho1,hz1,hb⟩
 obtain ⟨va,vn,vcc,rfl⟩:=own_sl ho1
 have HO1:=hid ho1
 have HZ1:=hid hz1
 have HBa:=hid (show Below (w.heap.size + 1 + 1) _ w1 from hb.mono (by simp))
 have HBw:=hid (HB1.out.trans (hb.mono HB1.out.size))
 obtain ⟨⟨q0,q1,q2⟩,⟨r0,r1,r2⟩,rf,rz⟩:=two3O HBa.out
 have HRB:=hid (two3bO HBa.out)
 have HQB:=hid (two3aO HBa.out)
 have qf:=fun o=>Lib.frozen_of_heap HQB.out o
 have HW2:=hid (HBw.out.setCell (p:=⟨w.heap.size,1,none⟩) (Nat.le_refl _) (.slice va vn vcc))
 have HQ2:=hid (set_block (o:=1) (x:=.slice va vn vcc) HQB.out)
 clear hb ho1 hz1
 go_wp2_with fail
 refine (ownM_any (.slice up X.length uc) X _ HF.out.xn (HF.out.x.below HW2.out) HE2.out).mono ?_
 rintro e w2 ⟨u1,rfl,ho2,hz2,hb⟩
 obtain ⟨ua,un,ucc,rfl⟩:=own_sl ho2
 have HO2:=hid ho2
 have HZ2:=hid hz2
 have hsz : (w1.setCell ⟨w.heap.size,1,none⟩ (.slice va vn vcc)).heap.size = w1.heap.size:=by simp [World.setCell]
 have HQ3:=hid (show w2.heap[w.heap.size]? = some (.cells #[.string p,.slice va vn vcc,.slice up X.length uc] 25 (0,0)) by
  rw [hb.block _ (by rw [hsz]; omega)]; exact HQ2.out)
 have HR3:=hid (show w2.heap[w.heap.size + 1]? = some (.cells #[.string ⟨#[]⟩,.slice none 0 0,.slice none 0 0] 25 (0,0)) by
  rw [hb.block _ (by rw [hsz]; omega)]; exact keep_set HRB.out (by omega))
 have HB3:=hid (HW2.out.trans (hb.mono HW2.out.size))
 have HO4:=hid (owns_below (owns_set (o:=1) (x:=.slice va vn vcc) HO1.out (own_ne2 HO1.out HQB.out (by decide))) hb)
 have s0 : w2.cell? ⟨w.heap.size,0,none⟩ = some (.string p):=by rw [Lib.cell_of_heap HQ3.out]; rfl
 have s1 : w2.cell? ⟨w.heap.size,1,none⟩ = some (.slice va vn vcc):=by rw [Lib.cell_of_heap HQ3.out]; rfl
 have s2 : w2.cell? ⟨w.heap.size,2,none⟩ = some (.slice up X.length uc):=by rw [Lib.cell_of_heap HQ3.out]; rfl
 have sf:=fun o=>Lib.frozen_of_heap HQ3.out o
 have t0 : w2.cell? ⟨w.heap.size + 1,0,none⟩ = some (.string ⟨#[]⟩):=by rw [Lib.cell_of_heap HR3.out]; rfl
 have t1 : w2.cell? ⟨w.heap.size + 1,1,none⟩ = some (.slice none 0 0):=by rw [Lib.cell_of_heap HR3.out]; rfl
 have t2 : w2.cell? ⟨w.heap.size + 1,2,none⟩ = some (.slice none 0 0):=by rw [Lib.cell_of_heap HR3.out]; rfl
 have tf:=fun o=>Lib.frozen_of_heap HR3.out o
 have HSZ:=hid hsz
 clear hb ho2 hz2 q0 q1 q2 r0 r1 r2 rf qf hsz
 go_wp2_with fail
 refine bodyPost_ret (v:=.agg #[.string p,.slice va vn vcc,.slice ua un ucc]) (by simp [results,Tryz.results12,go_sem,t0,t1,t2]) rfl ?_
 have a1 : ∀ {n : Nat} {x : Value} {xs : List Value},w2.ownsRow w.heap.size 47 2 x n xs -> ((put3 (w2.setCell ⟨w.heap.size,2,none⟩ (.slice ua un ucc)) (w.heap.size + 1) (.string p) (.slice va vn vcc) (.slice ua un ucc))).ownsRow w.heap.size 47 2 x n xs:=fun h=>
  put3_owns (owns_set h (own_ne2 h HQ3.out (by decide))) (own_ne2 h HR3.out (by decide))
 refine ⟨_,_,rfl,a1 (own_base HO4.out HB1.out.size),a1 (own_base HO2.out HW2.out.size),fun g hg hu=>?_,put3_below (HB3.out.setCell (p:=⟨w.heap.size,2,none⟩) (Nat.le_refl _) _) (by omega),HZ1.out,HZ2.out⟩
 have e1:=(own_lt HO1.out hg).1
 have e2:=(own_lt HO2.out hu).2
 have e3:=HSZ.out
 omega
theorem sameFO_any (p : ByteArray) (R X : List Bm) (v u v' u' : Value) (w : World) (F : Fl w R X v u) (F' : Fl w R X v' u') :
  Calls Tryz.prog 20 #[.agg #[.string p,v,u],.agg #[.string p,v',u']] w fun e w'=>e = .returned (.bool true) /\ Below w.heap.size w w':=by
 obtain ⟨⟨vp,vc,rfl⟩,up,uc,rfl⟩:=F.slices
 obtain ⟨⟨vp',vc',rfl⟩,up',uc',rfl⟩:=F'.slices
 have HB1:=hid (((Below.refl w.heap.size w).alloc (Nat.le_refl _) (.cells #[.string p,.slice vp R.length vc,.slice up X.length uc] 25)).alloc (by simp) (.cells #[.string p,.slice vp' R.length vc',.slice up' X.length uc'] 25))
 have HF:=hid F
 have HF':=hid F'
 have he:=str_refl p
 clear F F'
 go_enter Tryz.func20,Tryz.ntmps20
 go_wp2_with fail
 refine (sameM_any R _ _ _ HF.out.rn (HF.out.r.below HB1.out) (HF'.out.r.below HB1.out)).mono ?_
 rintro e w1 ⟨rfl,hb⟩
 have HBa:=hid (show Below (w.heap.size + 1 + 1) _ w1 from hb.mono (by simp))
 have HBw:=hid (HB1.out.trans (hb.mono HB1.out.size))
 obtain ⟨⟨q0,q1,q2⟩,⟨r0,r1,r2⟩,rf,rz⟩:=two3O HBa.out
 clear hb
 go_wp2_with fail
 refine (sameM_any X _ _ _ HF.out.xn (HF.out.x.below HBw.out) (HF'.out.x.below HBw.out)).mono ?_
 rintro e w2 ⟨rfl,hb⟩
 have HBx:=hid (HBw.out.trans (hb.mono HBw.out.size))
 clear hb
 go_wp2_with fail
 go_ret
 exact ⟨rfl,HBx.out⟩
end Ve
end Go.Proofs.YtjbmjnbkibmkpaaGreatDoor


namespace Go.Proofs.YtjbmjnbkibmkpaaGreatDoor
open Go.RowKit
namespace Ve
def okA (A : List ByteArray) : Bool:=decide (A.length <= 12) && A.all fun s=>decide (s.size <= 80)
theorem okA_iff {A : List ByteArray} (h : okA A = true) : A.length <= 12 /\ ∀ s,s ∈ A -> s.size <= 80:=by
 unfold okA at h
 rw [Bool.and_eq_true,decide_eq_true_iff,List.all_eq_true] at h
 exact ⟨h.1,fun s hs=>of_decide_eq_true (h.2 s hs)⟩
theorem okA_many {A : List ByteArray} (h : 12 < A.length) : okA A = false:=by
 unfold okA
 rw [decide_eq_false (by omega),Bool.false_and]
theorem okA_long {A : List ByteArray} {k : Nat} (hk : k < A.length) (h : 80 < A[k].size) : okA A = false:=by
 cases e : okA A
 ·rfl
 ·have:=(okA_iff e).2 _ (List.getElem_mem hk)
  omega
theorem okA_yes {A : List ByteArray} (hn : A.length <= 12) (h : ∀ j (hj : j < A.length),A[j].size <= 80) : okA A = true:=by
 unfold okA
 rw [decide_eq_true hn,Bool.true_and,List.all_eq_true]
 intro s hs
 obtain ⟨j,hj,rfl⟩:=List.getElem_of_mem hs
 exact decide_eq_true (h j hj)
theorem longA_any (A : List ByteArray) (v : Value) (w : World) (hv : TxAt w v A) :
  Calls Tryz.prog 7 #[v] w fun e w'=>e = .returned (.bool (!okA A)) /\ w' = w:=by
 have HMA:=hid (fun h=>okA_many (A:=A) h)
 have HLO:=hid (fun k (hk : k < A.length) h=>okA_long hk h)
 have HYE:=hid (fun hn h=>okA_yes (A:=A) hn h)
 have HV:=hid hv
 obtain ⟨a,c,hv1,-⟩:=id hv
 subst hv1
 generalize okA A = z at *
 clear hv
 by_cases hn : 12 < A.length
 ·have hnI : (12 : Int) < (A.length : Int):=by omega
  have HZ:=hid (HMA.out hn)
  clear hn HV HMA HLO HYE
  go_enter Tryz.func7,Tryz.ntmps7
  go_wp2_with fail
  go_ret
  exact ⟨by rw [HZ.out]; rfl,rfl⟩
 ·have hnI : ¬ (12 : Int) < (A.length : Int):=by omega
  have HNL:=hid (show A.length <= 12 by omega)
  have hA : A.length <= 1000000:=by omega
  clear hn
  go_enter Tryz.func7,Tryz.ntmps7
  go_wp2_with fail
  go_loopw [3] (fun iv wr=>∃ k : Nat,k <= A.length /\ iv = .int .i64 k /\ Hid (∀ j (h : j < A.length),j < k -> A[j].size <= 80) /\ wr = w) (fun iv _=>A.length - (intOf iv).toNat)
  case atStart=>exact ⟨0,Nat.zero_le _,rfl,hid (fun j _ hj=>absurd hj (Nat.not_lt_zero _)),rfl⟩
  case round=>
   obtain ⟨k,hk,rfl,HA,rfl⟩:=hrel
   by_cases hlt : k < A.length
   ·have hkI:=ix_lt hlt
    have hk0:=ix_pos k
    have HLT:=hid hlt
    obtain ⟨xb,xo,hxa,y0⟩:=tx_cellK HV.out hlt
    subst hxa
    have HL:=hid (HLO.out k hlt)
    have HN:=hid (fun (h : A[k].size <= 80)=>show ∀ j (hj : j < A.length),j < k + 1 -> A[j].size <= 80 from fun j hj hjk=>by
     rcases Nat.lt_or_ge j k with h2 | h2
     ·exact HA.out j hj h2
     ·have : j = k:=by omega
      subst this; exact h)
    generalize A[k] = x at *
    clear hlt
    by_cases hx : 80 < x.size
    ·have hxI : (80 : Int) < (x.size : Int):=by omega
     have HZ:=hid (HL.out hx)
     go_wp2_with fail
     go_ret
     exact ⟨by rw [HZ.out]; rfl,rfl⟩
    ·have hxI : ¬ (80 : Int) < (x.size : Int):=by omega
     have HN2:=hid (HN.out (by omega))
     go_wp2_with fail
     go_roundw
     case rel=>exact ⟨k + 1,HLT.out,by first | exact nr_idx k | exact nx_idx HLT.out hA,HN2,by first | rfl | trivial⟩
     case measure=>first | exact nr_meas HLT.out | exact nx_meas HLT.out hA
   ·have hkI:=ix_nlt hlt
    have HZ:=hid (HYE.out HNL.out fun j hj=>HA.out j hj (by omega))
    clear hlt
    go_wp2_with fail
    go_ret
    exact ⟨by rw [HZ.out]; rfl,rfl⟩
end Ve
end Go.Proofs.YtjbmjnbkibmkpaaGreatDoor
