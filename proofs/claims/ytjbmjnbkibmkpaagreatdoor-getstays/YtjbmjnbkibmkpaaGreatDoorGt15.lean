
import Derived.Test.YtjbmjnbkibmkpaaGreatDoorGt14
import Derived.Deep.DeepCutAuto
import Derived.Test.YtjbmjnbkibmkpaaGreatDoorProg
import Derived.Test.YtjbmjnbkibmkpaaGreatDoorGt6
import Derived.Test.YtjbmjnbkibmkpaaGreatDoorGt9
import Derived.Laws.MakeOwn
set_option maxHeartbeats 8000000
namespace Go.Proofs.YtjbmjnbkibmkpaaGreatDoor
open Go.RowKit Go.Maps
namespace Ve
def univ (L : List Ent) : List Bm:=L.map fun e=>e.1
theorem univ_len (L : List Ent) : (univ L).length = L.length:=by simp [univ]
def reqQ (Q : List Raw) (L : List Ent) (m : Bm) : List Bm:=if idxOf (isM m) Q < 0 then [] else ((L[(idxOf (isM m) Q).toNat]?).map fun e=>e.2.1).getD []
theorem ixs_get {w : World} {v : Value} {Q : List Raw} {L : List Ent} (I : Ixs w v Q L) {j : Nat} (hj : j < Q.length) : ∃ hj' : j < L.length,Q[j].1 = L[j].1:=by
 have hj' : j < L.length:=by rw [<- I.ln]; exact hj
 exact ⟨hj',(I.ok j hj hj').m⟩
theorem isM_iff {m : Bm} {r : Raw} : isM m r = true ↔ r.1 = m:=by
 unfold isM
 constructor
 ·intro h; have h2:=of_decide_eq_true h; exact Prod.ext h2.1 h2.2
 ·intro h; exact decide_eq_true (by rw [h]; exact ⟨rfl,rfl⟩)
theorem idx_nat (P : Raw -> Bool) (Q : List Raw) : idxOf P Q = -1 \/ ∃ k : Nat,idxOf P Q = (k : Int):=by
 unfold idxOf
 cases fstE (idxE P Q) Q.length with
 | none=>exact Or.inl rfl
 | some k=>exact Or.inr ⟨k,rfl⟩
theorem idx_none {P : Raw -> Bool} {Q : List Raw} (h : idxOf P Q = -1) : ∀ r,r ∈ Q -> P r = false:=fun r hr=>by
 obtain ⟨j,hj,rfl⟩:=List.getElem_of_mem hr
 unfold idxOf at h
 cases h1 : fstE (idxE P Q) Q.length with
 | some k=>rw [h1] at h; simp only at h; omega
 | none=>
  have:=fstE_of_none h1 j hj
  rw [idxE_at hj] at this
  cases hp : P Q[j] with
  | false=>rfl
  | true=>rw [hp] at this; simp at this
theorem found_iff {w : World} {v : Value} {Q : List Raw} {L : List Ent} (I : Ixs w v Q L) (m : Bm) : m ∈ univ L ↔ ∃ k : Nat,idxOf (isM m) Q = (k : Int):=by
 constructor
 ·intro h
  rcases idx_nat (isM m) Q with h1 | h1
  ·obtain ⟨e,he,rfl⟩:=List.mem_map.1 h
   obtain ⟨j,hj,rfl⟩:=List.getElem_of_mem he
   have hj2 : j < Q.length:=by rw [I.ln]; exact hj
   have:=idx_none h1 Q[j] (List.getElem_mem hj2)
   rw [isM_iff.2 (I.ok j hj2 hj).m] at this
   cases this
  ·exact h1
 ·rintro ⟨k,h⟩
  obtain ⟨hk,h1⟩:=idx_is h
  obtain ⟨hk',h2⟩:=ixs_get I hk
  exact List.mem_map.2 ⟨L[k],List.getElem_mem hk',by rw [<- h2]; exact isM_iff.1 h1⟩
theorem reqQ_at {Q : List Raw} {L : List Ent} {m : Bm} {k : Nat} (h : idxOf (isM m) Q = (k : Int)) (hk : k < L.length) : reqQ Q L m = L[k].2.1:=by
 unfold reqQ
 rw [h,if_neg (by omega),Int.toNat_natCast,List.getElem?_eq_getElem hk]
 rfl
set_option maxRecDepth 100000 in
theorem walk_any (Q : List Raw) (L : List Ent) (roots : List Bm) (v rv : Value) (w : World) (hn : L.length <= 1000) (hrn : roots.length <= 1000000) (I : Ixs w v Q L) (hr : MsAt w rv roots) (hz : ∀ m,m ∈ univ L -> m.1.size <= maxLen /\ m.2.size <= maxLen) (hrl : ∀ e,e ∈ L -> e.2.1.length <= 1000000)
  (hru : ∀ m,m ∈ roots -> m ∈ univ L) (hlu : ∀ m,m ∈ univ L -> ∀ x,x ∈ reqQ Q L m -> x ∈ univ L) :
  Calls Tryz.prog 80 #[v,rv] w fun e w'=>∃ b,e = .returned (.map (some b)) /\ ∃ T,ByAt w' b T /\ szT T /\ Came (reqQ Q L) (univ L) roots T /\ Below w.heap.size w w':=by
 obtain ⟨a,c,hv,-⟩:=id I.es
 subst hv
 obtain ⟨ra,rc,hrv,-⟩:=id hr
 subst hrv
 have HI:=hid I
 have HR:=hid hr
 have HZ:=hid hz
 have HRL:=hid hrl
 have HRU:=hid hru
 have HLU:=hid hlu
 have eg : ∀ args w,(callFunc 126 args).run Tryz.prog w = .ok (.enter 126 args) w:=enters_of Tryz.func126 (by kernel_rfl) rfl
 have hmk : ∀ W : World,(Instr.makeMap 114 none).run Tryz.prog W = .ok (.map (some W.heap.size)) (W.alloc (.map #[] 0)):=fun W=>run_makeMap 114 W
 clear I hr hz hrl hru hlu
 go_enter Tryz.func80,Tryz.ntmps80
 go_wp2_with fail
 have HW0:=hid (show Wk w (((w.alloc (.map #[] 0)).alloc (.cells #[.map (some w.heap.size)] 114)).alloc (.cells #[.slice none 0 0] 23)) (w.heap.size + 1) (w.heap.size + 1 + 1) w.heap.size [] by
  have b1:=(Below.refl w.heap.size w).alloc (Nat.le_refl _) (.map #[] 0)
  have b2:=b1.alloc (by simp) (.cells #[.map (some w.heap.size)] 114)
  have b3:=b2.alloc (by simp; omega) (.cells #[.slice none 0 0] 23)
  have c1:=(Below.refl (w.alloc (.map #[] 0)).heap.size (w.alloc (.map #[] 0))).alloc (Nat.le_refl _) (.cells #[.map (some w.heap.size)] 114)
  have c2:=(Below.refl ((w.alloc (.map #[] 0)).alloc (.cells #[.map (some w.heap.size)] 114)).heap.size ((w.alloc (.map #[] 0)).alloc (.cells #[.map (some w.heap.size)] 114))).alloc (Nat.le_refl _) (.cells #[.slice none 0 0] 23)
  have m0 : ByAt (w.alloc (.map #[] 0)) w.heap.size []:=World.ownsMap_made w Tryz.prog 47 rB
  have h1:=heap_new (w.alloc (.map #[] 0)) (.cells #[.map (some w.heap.size)] 114)
  have h2:=heap_new ((w.alloc (.map #[] 0)).alloc (.cells #[.map (some w.heap.size)] 114)) (.cells #[.slice none 0 0] 23)
  have s1 : (w.alloc (.map #[] 0)).heap.size = w.heap.size + 1:=by simp
  have s2 : ((w.alloc (.map #[] 0)).alloc (.cells #[.map (some w.heap.size)] 114)).heap.size = w.heap.size + 1 + 1:=by simp
  rw [s1] at h1
  rw [s2] at h2
  exact ⟨b3,fun x hx=>(by cases hx),by omega,by omega,by omega,heap_old _ _ h1,(m0.below c1).below c2,_,h2,World.ownsRow_nil _ _ _ _⟩)
 generalize hW0 : ((w.alloc (.map #[] 0)).alloc (.cells #[.map (some w.heap.size)] 114)).alloc (.cells #[.slice none 0 0] 23) = W0 at *
 clear hW0
 go_loopw [17] (fun iv wr=>∃ k : Nat,k <= roots.length /\ iv = .int .i64 k /\ Hid (∃ T,Wk w wr (w.heap.size + 1) (w.heap.size + 1 + 1) w.heap.size T /\ Bfs (reqQ Q L) (univ L) roots T 0 /\ (∀ m,m ∈ roots.take k -> m ∈ whoT T) /\ ∃ V,LvOk (reqQ Q L) roots T 0 V /\ ∀ k (hk : k < V.length),V[k] = 1)) (fun i _=>roots.length - (intOf i).toNat)
 case atStart=>exact ⟨0,Nat.zero_le _,rfl,hid ⟨[],HW0.out,Bfs.none _ _ _,fun m hm=>by simp at hm,[],LvOk.none _ _,fun _ h=>absurd h (Nat.not_lt_zero _)⟩⟩
 case round=>
  obtain ⟨k,hk,rfl,HT⟩:=hrel
  by_cases hlt : k < roots.length
  ·obtain ⟨T,hT⟩:=HT.out
   have HTT:=hid hT
   have HRM:=hid (HR.out.below hT.1.bl)
   obtain ⟨rb,ro,hra,hcc⟩:=HRM.out.cells hlt
   subst hra
   have x0:=hcc.1
   have x1:=hcc.2
   have HMU:=hid (HRU.out roots[k] (List.getElem_mem hlt))
   have HMR:=hid (List.getElem_mem hlt)
   have HTK:=hid (show ∀ x,x ∈ roots.take (k + 1) -> x ∈ roots.take k \/ x = roots[k] from fun x hx=>by
    rw [List.take_succ_eq_append_getElem hlt] at hx
    rcases List.mem_append.1 hx with h | h
    ·exact Or.inl h
    ·exact Or.inr (List.mem_singleton.1 h))
   have HLT:=hid hlt
   have hkI : (k : Int) < (roots.length : Int):=by omega
   clear hT hcc
   generalize roots[k] = m at *
   clear hlt
   have HBa:=hid ((Below.refl wr.heap.size wr).alloc (Nat.le_refl _) (.cells #[.string m.1,.string m.2] 47))
   have HCO:=hid (come_any w _ (w.heap.size + 1) (w.heap.size + 1 + 1) w.heap.size T m m (HZ.out m HMU.out) (by have:=HTT.out.2.1.len; rw [univ_len] at this; omega) (HTT.out.1.below HBa.out))
   go_wp2_with fail
   refine HCO.out.mono ?_
   rintro e w1 ⟨rfl,hk1⟩
   have HN:=hid (show ∃ T,Wk w w1 (w.heap.size + 1) (w.heap.size + 1 + 1) w.heap.size T /\ Bfs (reqQ Q L) (univ L) roots T 0 /\ (∀ m,m ∈ roots.take (k + 1) -> m ∈ whoT T) /\ ∃ V,LvOk (reqQ Q L) roots T 0 V /\ ∀ k (hk : k < V.length),V[k] = 1 from
    ⟨_,hk1,HTT.out.2.1.come HMU.out (Or.inl ⟨rfl,HMR.out⟩),fun x hx=>by
     rcases HTK.out x hx with h | rfl
     ·exact come_sub (HTT.out.2.2.1 x h)
     ·exact come_mem _ _ _,by
     obtain ⟨V,h1,h2⟩:=HTT.out.2.2.2
     exact h1.root h2 HMR.out⟩)
   clear hk1
   go_wp2_with fail
   go_roundw
   case rel=>exact ⟨k + 1,HLT.out,nr_idx k,HN⟩
   case measure=>exact nr_meas HLT.out
  ·have HALL:=hid (show ∃ T,Wk w wr (w.heap.size + 1) (w.heap.size + 1 + 1) w.heap.size T /\ Bfs (reqQ Q L) (univ L) roots T 0 /\ (∀ m,m ∈ roots -> m ∈ whoT T) /\ ∃ V,LvOk (reqQ Q L) roots T 0 V by
    have:=HT.out
    rw [List.take_of_length_le (by omega)] at this
    obtain ⟨T,h1,h2,h3,V,h4,_⟩:=this
    exact ⟨T,h1,h2,h3,V,h4⟩)
   have hkI : ¬ (k : Int) < (roots.length : Int):=by omega
   clear HT hlt
   go_wp2_with fail
   go_loopw [10] (fun iv wr=>∃ i : Nat,iv = .int .i64 i /\ Hid (∃ T,Wk w wr (w.heap.size + 1) (w.heap.size + 1 + 1) w.heap.size T /\ Bfs (reqQ Q L) (univ L) roots T i /\ (∀ m,m ∈ roots -> m ∈ whoT T) /\ ∃ V,LvOk (reqQ Q L) roots T i V)) (fun i _=>L.length - (intOf i).toNat)
   case atStart=>exact ⟨0,rfl,HALL⟩
   case round=>
    obtain ⟨i,rfl,HA⟩:=hrel
    obtain ⟨T,hT⟩:=HA.out
    have HTT:=hid hT
    obtain ⟨ov,o1,o2⟩:=hT.1.oc
    have hTl : T.length <= L.length:=by have:=hT.2.1.len; rw [univ_len] at this; exact this
    obtain ⟨oa,oc,hov⟩:=own_slN o2
    subst hov
    have z0 : wr.cell? ⟨w.heap.size + 1 + 1,0,none⟩ = some (.slice oa T.length oc):=by rw [Lib.cell_of_heap o1]; rfl
    have HO2:=hid o2
    clear hT o1 o2 HA
    by_cases hlt : i < T.length
    ·have hiI : (i : Int) < (T.length : Int):=by omega
     obtain ⟨b1,o1,hoa,yy0,yy1⟩:=(own_ms (L:=whoT T) (by rw [whoT_len]; exact HO2.out)).cells (k:=i) (by rw [whoT_len]; exact hlt)
     subst hoa
     rw [whoT_get hlt] at yy0 yy1
     have HLT:=hid hlt
     have HOU:=hid (HTT.out.2.1.un T[i].1 (whoT_mem.2 ⟨i,hlt,rfl⟩))
     have HOM:=hid (show T[i].1 ∈ whoT T from whoT_mem.2 ⟨i,hlt,rfl⟩)
     obtain ⟨o,ho,y0,y1,hou,hom⟩ : ∃ o,T[i].1 = o /\ wr.cell? ⟨b1,o1 + i * 2,none⟩ = some (.string o.1) /\ wr.cell? ⟨b1,o1 + i * 2 + 1,none⟩ = some (.string o.2) /\ o ∈ univ L /\ o ∈ whoT T:=⟨_,rfl,yy0,yy1,HOU.out,HOM.out⟩
     clear yy0 yy1 HOU HOM
     have HOU:=hid hou
     have HOM:=hid hom
     have HOI:=hid (show ∃ h : i < T.length,(T[i]'h).1 = o from ⟨hlt,ho⟩)
     clear hou hom
     obtain ⟨kq,hkq⟩:=(found_iff HI.out o).1 HOU.out
     obtain ⟨hkl,-⟩:=idx_is hkq
     have hkl2 : kq < L.length:=by rw [<- HI.out.ln]; exact hkl
     have HFI:=hid (find_any Q o (.slice a Q.length c) wr (by rw [HI.out.ln]; omega) (HI.out.below HTT.out.1.bl).es)
     rw [hkq] at HFI
     have HRQ:=hid (reqQ_at hkq hkl2)
     have hkI : (kq : Int) < (Q.length : Int):=by omega
     have hk0 : (0 : Int) <= (kq : Int):=by omega
     have HES:=hid (fun W (h : Below w.heap.size w W)=>es_cells (HI.out.below h).es hkl)
     have HMS:=hid (fun W (h : Below w.heap.size w W)=>((HI.out.below h).ok kq hkl hkl2).rq)
     have hrl2:=HRL.out L[kq] (List.getElem_mem hkl2)
     generalize (L[kq]'hkl2).2.1 = R at *
     generalize (Q[kq]'hkl).2.1 = qv at *
     obtain ⟨qa,qc,hqv,-⟩:=HMS.out w (Below.refl _ _)
     subst hqv
     clear hkq hkl hkl2 ho hlt
     go_wp2_with fail
     refine HFI.out.mono ?_
     rintro e w1 ⟨rfl,hb⟩
     have HW1:=hid (HTT.out.1.below hb)
     obtain ⟨eb,eo,ha,x2⟩:=HES.out w1 HW1.out.bl
     subst ha
     clear hb HFI
     go_wp2_with fail
     have HMS1:=hid (HMS.out w1 HW1.out.bl)
     have HST:=hid (show ∃ T',Wk w w1 (w.heap.size + 1) (w.heap.size + 1 + 1) w.heap.size T' /\ Bfs (reqQ Q L) (univ L) roots T' i /\ (∀ m,m ∈ roots -> m ∈ whoT T') /\ (∃ h : i < T'.length,(T'[i]'h).1 = o) /\ (∀ m,m ∈ R.take 0 -> m ∈ whoT T') /\ ∃ V,LvOk (reqQ Q L) roots T' i V from
      ⟨T,HW1.out,HTT.out.2.1,HTT.out.2.2.1,HOI.out,fun m hm=>by simp at hm,HTT.out.2.2.2⟩)
     clear HW1 HTT x2 y0 y1 z0
     go_loopw [43] (fun iv wr=>∃ k : Nat,k <= R.length /\ iv = .int .i64 k /\ Hid (∃ T',Wk w wr (w.heap.size + 1) (w.heap.size + 1 + 1) w.heap.size T' /\ Bfs (reqQ Q L) (univ L) roots T' i /\ (∀ m,m ∈ roots -> m ∈ whoT T') /\ (∃ h : i < T'.length,(T'[i]'h).1 = o) /\ (∀ m,m ∈ R.take k -> m ∈ whoT T') /\ ∃ V,LvOk (reqQ Q L) roots T' i V)) (fun i _=>R.length - (intOf i).toNat)
     case atStart=>exact ⟨0,Nat.zero_le _,rfl,HST⟩
     case round=>
      obtain ⟨k2,hk2,rfl,HS2⟩:=hrel
      by_cases hlt : k2 < R.length
      ·obtain ⟨T2,hT2⟩:=HS2.out
       have HT2:=hid hT2
       obtain ⟨qb,qo,hqa,xx0,xx1⟩:=(HMS.out wr hT2.1.bl).cells hlt
       subst hqa
       have HMR:=hid (show R[k2] ∈ reqQ Q L o by rw [HRQ.out]; exact List.getElem_mem hlt)
       have HTK:=hid (show ∀ x,x ∈ R.take (k2 + 1) -> x ∈ R.take k2 \/ x = R[k2] from fun x hx=>by
        rw [List.take_succ_eq_append_getElem hlt] at hx
        rcases List.mem_append.1 hx with h | h
        ·exact Or.inl h
        ·exact Or.inr (List.mem_singleton.1 h))
       have HLT2:=hid hlt
       have hkI2 : (k2 : Int) < (R.length : Int):=by omega
       obtain ⟨m,hm,x0,x1,hmr,htk⟩ : ∃ m,R[k2] = m /\ wr.cell? ⟨qb,qo + k2 * 2,none⟩ = some (.string m.1) /\ wr.cell? ⟨qb,qo + k2 * 2 + 1,none⟩ = some (.string m.2) /\ m ∈ reqQ Q L o /\ ∀ x,x ∈ R.take (k2 + 1) -> x ∈ R.take k2 \/ x = m:=⟨_,rfl,xx0,xx1,HMR.out,HTK.out⟩
       clear HMR HTK xx0 xx1
       have HMR:=hid hmr
       have HTK:=hid htk
       have HMU:=hid (HLU.out o HOU.out m hmr)
       obtain ⟨hi2,ho2⟩:=hT2.2.2.2.1
       have HFO:=hid (show o ∈ whoT T2 from whoT_mem.2 ⟨i,hi2,ho2⟩)
       obtain ⟨ov,o1,o2⟩:=hT2.1.oc
       obtain ⟨oa2,oc2,hov⟩:=own_slN o2
       subst hov
       have hBa:=(Below.refl wr.heap.size wr).alloc (Nat.le_refl _) (.cells #[.string m.1,.string m.2] 47)
       obtain ⟨b3,o3,hoa,w0,w1'⟩:=(own_ms (L:=whoT T2) (by rw [whoT_len]; exact o2)).cells (k:=i) (by rw [whoT_len]; exact hi2)
       subst hoa
       rw [whoT_get hi2] at w0 w1'
       have hiI2 : (i : Int) < (T2.length : Int):=by omega
       have hi00 : (0 : Int) <= (i : Int):=by omega
       obtain ⟨q0,q1⟩ : (wr.alloc (.cells #[.string m.1,.string m.2] 47)).cell? ⟨b3,o3 + i * 2,none⟩ = some (.string o.1) /\ (wr.alloc (.cells #[.string m.1,.string m.2] 47)).cell? ⟨b3,o3 + i * 2 + 1,none⟩ = some (.string o.2):=⟨cell_below hBa (by rw [<- ho2]; exact w0),cell_below hBa (by rw [<- ho2]; exact w1')⟩
       have q2 : (wr.alloc (.cells #[.string m.1,.string m.2] 47)).cell? ⟨w.heap.size + 1 + 1,0,none⟩ = some (.slice (some ⟨b3,o3,none⟩) T2.length oc2):=cell_below hBa (by rw [Lib.cell_of_heap o1]; rfl)
       have HCO:=hid (fun W (h : Wk w W (w.heap.size + 1) (w.heap.size + 1 + 1) w.heap.size T2)=>come_any w W (w.heap.size + 1) (w.heap.size + 1 + 1) w.heap.size T2 m o (HZ.out m HMU.out) (by have:=HT2.out.2.1.len; rw [univ_len] at this; omega) h)
       have HWB:=hid (hT2.1.below hBa)
       clear hT2 hm hmr htk o1 o2 w0 w1' hBa
       clear ho2 hi2 hlt
       go_upto_region 15 with fail
       go_region_with (go_at_call 126; refine (HCO.out _ (HWB.out.below (below_drawn _ 1))).mono ?_; rintro e w4 ⟨rfl,hk4⟩; have HK4:=hid hk4; clear hk4)
       all_goals
        have HNX:=hid (show ∃ T',Wk w w4 (w.heap.size + 1) (w.heap.size + 1 + 1) w.heap.size T' /\ Bfs (reqQ Q L) (univ L) roots T' i /\ (∀ m,m ∈ roots -> m ∈ whoT T') /\ (∃ h : i < T'.length,(T'[i]'h).1 = o) /\ (∀ m,m ∈ R.take (k2 + 1) -> m ∈ whoT T') /\ ∃ V,LvOk (reqQ Q L) roots T' i V from by
         obtain ⟨h1,h2,h3,⟨h4,h5⟩,h6,V,h7⟩:=HT2.out
         refine ⟨_,HK4.out,h2.come HMU.out (Or.inr ⟨HFO.out,HMR.out⟩),fun x hx=>come_sub (h3 x hx),?_,fun x hx=>?_,by rw [<- h5]; exact h7.reqs h4 h3 (by rw [h5]; exact HMR.out)⟩
         ·obtain ⟨E,hE⟩:=come_old T2 m o
          rw [hE]
          exact ⟨by simp; omega,by rw [List.getElem_append_left h4]; exact h5⟩
         ·rcases HTK.out x hx with h | rfl
          ·exact come_sub (h6 x h)
          ·exact come_mem _ _ _)
        go_wp2_with fail
        go_roundw
        case rel=>exact ⟨k2 + 1,HLT2.out,nr_idx k2,HNX⟩
        case measure=>exact nr_meas HLT2.out
      ·have HSE:=hid (show ∃ T',Wk w wr (w.heap.size + 1) (w.heap.size + 1 + 1) w.heap.size T' /\ Bfs (reqQ Q L) (univ L) roots T' (i + 1) /\ (∀ m,m ∈ roots -> m ∈ whoT T') /\ ∃ V,LvOk (reqQ Q L) roots T' (i + 1) V by
        obtain ⟨T',h1,h2,h3,⟨h4,h5⟩,h6,V,h7⟩:=HS2.out
        rw [List.take_of_length_le (by omega)] at h6
        exact ⟨T',h1,h2.next h4 (by rw [h5,HRQ.out]; exact h6),h3,V,h7.next h4 (by rw [h5,HRQ.out]; exact h6)⟩)
       have hkI2 : ¬ (k2 : Int) < (R.length : Int):=by omega
       have HIL:=hid (show i < L.length by
        obtain ⟨T',h1,h2,h3,⟨h4,h5⟩,h6⟩:=HS2.out
        have:=h2.len
        rw [univ_len] at this
        omega)
       clear HS2 hlt
       go_wp2_with fail
       go_roundw
       case rel=>exact ⟨i + 1,nr_idx i,HSE⟩
       case measure=>exact nr_meas HIL.out
    ·have hiI : ¬ (i : Int) < (T.length : Int):=by omega
     have HTE:=hid (show i = T.length by have:=HTT.out.2.1.le; omega)
     have z1 : wr.cell? ⟨w.heap.size + 1,0,none⟩ = some (.map (some w.heap.size)):=by rw [Lib.cell_of_heap HTT.out.1.bc]; rfl
     clear hlt
     go_wp2_with fail
     go_ret
     exact ⟨_,rfl,T,HTT.out.1.mp,HTT.out.1.sz,⟨by have:=HTT.out.2.1; rw [HTE.out] at this; exact this,HTT.out.2.2.1,by have:=HTT.out.2.2.2; rw [HTE.out] at this; exact this⟩,HTT.out.1.bl⟩
end Ve
end Go.Proofs.YtjbmjnbkibmkpaaGreatDoor


namespace Go.Proofs.YtjbmjnbkibmkpaaGreatDoor
open Go.RowKit Go.Maps
namespace Ve
def chkG (Q : List Raw) (L : List Ent) (roots : List Bm) : Nat × Option Nat:=if (chk Q L).1 ≠ 0 then chk Q L else (codeE (nonE Q roots) roots.length,fstE (nonE Q roots) roots.length)
theorem chkG_bad {Q : List Raw} {L : List Ent} {roots : List Bm} (h : (chk Q L).1 ≠ 0) : chkG Q L roots = chk Q L:=by unfold chkG; rw [if_pos h]
theorem chkG_ok {Q : List Raw} {L : List Ent} {roots : List Bm} (h : (chk Q L).1 = 0) : chkG Q L roots = (codeE (nonE Q roots) roots.length,fstE (nonE Q roots) roots.length):=by unfold chkG; rw [if_neg (by simp [h])]
theorem codeE_all {E : Nat -> Nat} {n : Nat} (h : codeE E n = 0) : ∀ j,j < n -> E j = 0:=by
 cases h1 : fstE E n with
 | none=>exact fstE_of_none h1
 | some i=>
  rw [codeE_some h1] at h
  exact absurd h (fstE_of_some h1).2.1
theorem nonE_found {w : World} {v : Value} {Q : List Raw} {L : List Ent} (I : Ixs w v Q L) {R : List Bm} (h : codeE (nonE Q R) R.length = 0) : ∀ m,m ∈ R -> m ∈ univ L:=fun m hm=>by
 obtain ⟨j,hj,rfl⟩:=List.getElem_of_mem hm
 have h1:=codeE_all h j hj
 rw [nonE_at hj] at h1
 unfold nonW at h1
 refine (found_iff I _).2 ?_
 rcases idx_nat (isM R[j]) Q with h2 | h2
 ·rw [h2] at h1; simp at h1
 ·exact h2
theorem chk_reqs0 {w : World} {v : Value} {Q : List Raw} {L : List Ent} (I : Ixs w v Q L) (h : (chk Q L).1 = 0) : ∀ m,m ∈ univ L -> ∀ x,x ∈ reqQ Q L m -> x ∈ univ L:=fun m hm x hx=>by
 have h100 : ¬ 100 < L.length:=by have:=(chk_each0 h).1; omega
 cases hf : fstE (entE L) L.length with
 | some i=>rw [chk_each h100 hf] at h; exact absurd h (fstE_of_some hf).2.1
 | none=>
  rw [chk_reqs h100 hf] at h
  obtain ⟨k,hk⟩:=(found_iff I m).1 hm
  obtain ⟨hkq,-⟩:=idx_is hk
  have hkl : k < L.length:=by rw [<- I.ln]; exact hkq
  rw [reqQ_at hk hkl] at hx
  have:=codeE_all h k hkl
  rw [reqE2_at hkl] at this
  exact nonE_found I this x hx
set_option maxRecDepth 100000 in
theorem gcheck_any (Q : List Raw) (L : List Ent) (roots : List Bm) (v rv : Value) (A : Nat -> Addr) (m : Int) (w : World) (hn : L.length <= 1000) (hrn : roots.length <= 1000000) (sh : ∀ e,e ∈ L -> ShE e) (S : Te w A m) (I : Ixs w v Q L) (hr : MsAt w rv roots) :
  Calls Tryz.prog 79 #[v,rv] w fun e w'=>∃ x,e = .returned x /\ ErrAt w' A x (chkG Q L roots).1 (chkG Q L roots).2 /\ Below w.heap.size w w':=by
 have HCK:=hid (icheck_any Q L v A m w (by omega) sh S I)
 have HCM:=hid (fun W (h : Below w.heap.size w W)=>cmods_any Q roots v rv A m W (by rw [I.ln]; omega) hrn (S.below h) (I.es.below h) (hr.below h))
 obtain ⟨a,c,hv,-⟩:=id I.es
 subst hv
 obtain ⟨ra,rc,hrv,-⟩:=id hr
 subst hrv
 clear S I hr sh
 go_enter Tryz.func79,Tryz.ntmps79
 go_wp2_with fail
 refine HCK.out.mono ?_
 rintro e w1 ⟨x,rfl,he,hb⟩
 have HE:=hid he
 have HB:=hid hb
 clear hb
 rcases he.kind.symm with ⟨hc0,T,xa,rfl⟩ | ⟨hc0,rfl⟩
 ·have HX:=hid (chkG_bad (roots:=roots) hc0)
  clear he hc0
  go_wp2_with fail
  go_ret
  exact ⟨_,rfl,by rw [HX.out]; exact HE.out,HB.out⟩
 ·have HX:=hid (chkG_ok (roots:=roots) hc0)
  have HC2:=hid (HCM.out w1 HB.out)
  clear he hc0 HCM
  go_wp2_with fail
  refine HC2.out.mono ?_
  rintro e w2 ⟨y,rfl,he,hb⟩
  have HE2:=hid he
  have HB2:=hid (HB.out.trans (hb.mono HB.out.size))
  clear he hb
  go_wp2_with fail
  go_ret
  exact ⟨_,rfl,by rw [HX.out]; exact HE2.out,HB2.out⟩
def goQ (T : By) (Q : List Raw) : List Raw:=Q.filter fun r=>cameB T r.1
def goM (T : By) (Q : List Raw) : List Bm:=(goQ T Q).map fun r=>r.1
set_option maxRecDepth 100000 in
theorem reached_some (Q : List Raw) (L : List Ent) (roots : List Bm) (v rv : Value) (A : Nat -> Addr) (m : Int) (w : World) (hn : L.length <= 1000) (hrn : roots.length <= 1000000) (sh : ∀ e,e ∈ L -> ShE e) (S : Te w A m) (I : Ixs w v Q L) (hr : MsAt w rv roots) (h0 : (chkG Q L roots).1 = 0) :
  Calls Tryz.prog 41 #[v,rv] w fun e w'=>∃ u,e = .returned (.tuple #[u,.nilIface]) /\ ∃ T,Came (reqQ Q L) (univ L) roots T /\ w'.ownsRow w.heap.size 54 5 u (goQ T Q).length (flatR (goQ T Q)) /\ Below w.heap.size w w':=by
 have hc0 : (chk Q L).1 = 0:=by
  by_cases hc : (chk Q L).1 = 0
  ·exact hc
  ·rw [chkG_bad hc] at h0; exact absurd h0 hc
 have hru : ∀ m,m ∈ roots -> m ∈ univ L:=by rw [chkG_ok hc0] at h0; exact nonE_found I h0
 have HCK:=hid (gcheck_any Q L roots v rv A m w hn hrn sh S I hr)
 have hz : ∀ m,m ∈ univ L -> m.1.size <= maxLen /\ m.2.size <= maxLen:=fun m hm=>by
  obtain ⟨e,he,rfl⟩:=List.mem_map.1 hm
  have:=sh e he
  exact ⟨by have:=this.p; unfold maxLen; omega,by have:=this.v; unfold maxLen; omega⟩
 have HWK:=hid (fun W (h : Below w.heap.size w W)=>walk_any Q L roots v rv W hn hrn (I.below h) (hr.below h) hz (fun e he=>(sh e he).rn) hru (chk_reqs0 I hc0))
 obtain ⟨a,c,hv,-,hs,hcc⟩:=id I.es
 subst hv
 obtain ⟨ra,rc,hrv,-⟩:=id hr
 subst hrv
 obtain ⟨i0,hi0,hz0,hz1,hz2⟩:=info_parts infoEnt
 have HH0:=hid h0
 have HC:=hid hcc
 have HSL:=hid hs
 have HI:=hid I
 have HZ:=hid hz
 clear S I hr sh h0 hc0 hru hz hs hcc
 go_enter Tryz.func41,Tryz.ntmps41
 go_wp2_with fail
 refine HCK.out.mono ?_
 rintro e w1 ⟨x,rfl,he,hb⟩
 have HB:=hid hb
 have hx : x = .nilIface:=by
  rcases he.kind with ⟨_,h⟩ | ⟨h,_⟩
  ·exact h
  ·exact absurd HH0.out h
 subst hx
 clear hb he HCK
 go_wp2_with fail
 refine (HWK.out w1 HB.out).mono ?_
 rintro e w2 ⟨mb,rfl,T,hby,hsz,hcm,hb⟩
 have HBY:=hid hby
 have HSZ:=hid hsz
 have HCM:=hid hcm
 have HB2:=hid (HB.out.trans (hb.mono HB.out.size))
 clear hby hsz hcm hb HWK
 go_wp2_with fail
 go_loopw [8,22] (fun ov i wr=>∃ k : Nat,k <= Q.length /\ i = .int .i64 k /\ Hid (wr.ownsRow w2.heap.size 54 5 ov (goQ T (Q.take k)).length (flatR (goQ T (Q.take k)))) /\ Hid (Below w2.heap.size w2 wr)) (fun _ i _=>Q.length - (intOf i).toNat)
 case atStart=>exact ⟨0,Nat.zero_le _,rfl,hid (World.ownsRow_nil _ _ _ _),hid (Below.refl _ _)⟩
 case round=>
  obtain ⟨k,hk,rfl,HO,HBr⟩:=hrel
  by_cases hlt : k < Q.length
  ·have HBw:=hid (HB2.out.trans (HBr.out.mono HB2.out.size))
   obtain ⟨eb,eo,ha,hce⟩:=HC.out (by intro h; rw [h] at hlt; simp at hlt)
   subst ha
   obtain ⟨y0,y1,y2,y3,y4⟩:=hce k hlt
   have x0:=cell_below HBw.out y0
   have x1:=cell_below HBw.out y1
   have x2:=cell_below HBw.out y2
   have x3:=cell_below HBw.out y3
   have x4:=cell_below HBw.out y4
   have hsl:=HSL.out Q[k] (List.getElem_mem hlt)
   have hkI : (k : Int) < (Q.length : Int):=by omega
   have HLT:=hid hlt
   have HQL:=hid (show Q.length <= 1000000 by have:=HI.out.ln; omega)
   have HY:=hid (fun h=>filter_yes hlt h (P:=fun r=>cameB T r.1))
   have HN:=hid (fun h=>filter_no hlt h (P:=fun r=>cameB T r.1))
   have HQZ:=hid (show Q[k].1.1.size <= maxLen /\ Q[k].1.2.size <= maxLen by
    obtain ⟨h1,h2⟩:=ixs_get HI.out hlt
    exact Eq.mpr (congrArg (fun m : Bm=>m.1.size <= maxLen /\ m.2.size <= maxLen) h2) (HZ.out _ (List.mem_map.2 ⟨L[k],List.getElem_mem h1,rfl⟩)))
   have HLN:=hid (show (goQ T (Q.take k)).length <= 1000 from Nat.le_trans (List.length_filter_le _ _) (by rw [List.length_take]; have:=HI.out.ln; omega))
   clear y0 y1 y2 y3 y4 hce
   generalize Q[k] = r at *
   obtain ⟨⟨p,q⟩,rv,pv,bk⟩:=r
   obtain ⟨⟨ra2,rn2,rc2,hrv⟩,pa,pn,pc,hpv⟩:=hsl
   simp only at hrv hpv
   subst hrv
   subst hpv
   have HBa:=hid ((Below.refl wr.heap.size wr).alloc (Nat.le_refl _) (.cells #[.string p,.string q,.slice ra2 rn2 rc2,.slice pa pn pc,.bool bk] 54))
   have HBB:=hid (HBr.out.trans (HBa.out.mono HBr.out.size))
   have HCA:=hid (came_any mb T (p,q) _ HQZ.out HSZ.out (HBY.out.below HBB.out))
   have HOa:=hid (HO.out.alloc (.cells #[.string p,.string q,.slice ra2 rn2 rc2,.slice pa pn pc,.bool bk] 54))
   clear hlt
   cases hp : cameB T (p,q) with
   | false=>
    rw [hp] at HCA
    have HN2:=hid (HN.out hp)
    clear hp
    go_wp2_with fail
    refine HCA.out.mono ?_
    rintro e w3 ⟨rfl,hb⟩
    have HB3:=hid (HBB.out.trans (hb.mono HBB.out.size))
    have HO3:=hid (owns_below HOa.out hb)
    clear hb
    go_wp2_with fail
    go_roundw
    case rel=>first | exact ⟨k + 1,HLT.out,nr_idx k,by unfold goQ; rw [HN2.out]; exact HO3,HB3⟩ | exact ⟨k + 1,HLT.out,nx_idx HLT.out HQL.out,by unfold goQ; rw [HN2.out]; exact HO3,HB3⟩
    case measure=>first | exact nr_meas HLT.out | exact nx_meas HLT.out HQL.out
   | true=>
    rw [hp] at HCA
    have HY2:=hid (HY.out hp)
    clear hp
    go_wp2_with fail
    refine HCA.out.mono ?_
    rintro e w3 ⟨rfl,hb⟩
    have HB3:=hid (HBB.out.trans (hb.mono HBB.out.size))
    have HO3:=hid (owns_below HOa.out hb)
    have HE1:=hid (show w3.heap[wr.heap.size]? = some (.cells #[.string p,.string q,.slice ra2 rn2 rc2,.slice pa pn pc,.bool bk] 54 (0,0)) by rw [hb.block _ (by simp)]; exact heap_alloc_new wr _)
    have z0 : w3.cell? ⟨wr.heap.size,0,none⟩ = some (.string p):=by rw [Lib.cell_of_heap HE1.out]; rfl
    have z1 : w3.cell? ⟨wr.heap.size,1,none⟩ = some (.string q):=by rw [Lib.cell_of_heap HE1.out]; rfl
    have z2 : w3.cell? ⟨wr.heap.size,2,none⟩ = some (.slice ra2 rn2 rc2):=by rw [Lib.cell_of_heap HE1.out]; rfl
    have z3 : w3.cell? ⟨wr.heap.size,3,none⟩ = some (.slice pa pn pc):=by rw [Lib.cell_of_heap HE1.out]; rfl
    have z4 : w3.cell? ⟨wr.heap.size,4,none⟩ = some (.bool bk):=by rw [Lib.cell_of_heap HE1.out]; rfl
    clear hb x0 x1 x2 x3 x4
    go_wp2_with (at_builtin; refine wpList_append_own _ rfl _ _ 22 rfl w2.heap.size 54 i0 _ 5 88 Tryz.underlying22 hi0 hz0 hz1 hz2 rfl (by decide) _ _ _ rfl (HO3.out.alloc _) ⟨w3.heap.size,0,none⟩ 1 1 [.string p,.string q,.slice ra2 rn2 rc2,.slice pa pn pc,.bool bk] rfl rfl ?c1 ?c2 ?c3 ?c4 ?c5 ?_)
    case c1=>exact World.news_of_block (cs:=#[.string p,.string q,.slice ra2 rn2 rc2,.slice pa pn pc,.bool bk]) (t:=54) (fr:=(0,0)) (heap_alloc_new w3 _)
    case c2=>
     intro u hu
     simp at hu
     rcases hu with rfl | rfl | rfl | rfl | rfl <;> rfl
    case c3=>have:=HLN.out; unfold maxLen; omega
    case c4=>have:=HLN.out; omega
    case c5=>have:=HB3.out.size; simp; omega
    intro v' w4 hown hgrow _
    have HR3:=hid (rel_app5 HB3.out.size HB3.out HO3.out (Below.refl _ _) hgrow)
    have HO4:=hid hown
    clear hown hgrow z0 z1 z2 z3 z4
    go_wp2_with fail
    go_roundw
    case rel=>first | exact ⟨k + 1,HLT.out,nr_idx k,hid (own_nextR (x:=((p,q),.slice ra2 rn2 rc2,.slice pa pn pc,bk)) HO4.out HY2.out),HR3⟩ | exact ⟨k + 1,HLT.out,nx_idx HLT.out HQL.out,hid (own_nextR (x:=((p,q),.slice ra2 rn2 rc2,.slice pa pn pc,bk)) HO4.out HY2.out),HR3⟩
    case measure=>first | exact nr_meas HLT.out | exact nx_meas HLT.out HQL.out
  ·have HTR:=hid (show Q.take k = Q from List.take_of_length_le (by omega))
   rw [HTR.out] at HO
   have hkI : ¬ (k : Int) < (Q.length : Int):=by omega
   obtain ⟨oa,oc,hov⟩:=own_slN HO.out
   subst hov
   clear hlt
   go_wp2_with fail
   go_ret2
   exact ⟨_,rfl,T,HCM.out,own_baseN HO.out HB2.out.size,HB2.out.trans (HBr.out.mono HB2.out.size)⟩
end Ve
end Go.Proofs.YtjbmjnbkibmkpaaGreatDoor


namespace Go.Proofs.YtjbmjnbkibmkpaaGreatDoor
open Go.RowKit Go.Maps
namespace Ve
set_option maxRecDepth 100000 in
theorem reached_bad (Q : List Raw) (L : List Ent) (roots : List Bm) (v rv : Value) (A : Nat -> Addr) (m : Int) (w : World) (hn : L.length <= 1000) (hrn : roots.length <= 1000000) (sh : ∀ e,e ∈ L -> ShE e) (S : Te w A m) (I : Ixs w v Q L) (hr : MsAt w rv roots) (h0 : (chkG Q L roots).1 ≠ 0) :
  Calls Tryz.prog 41 #[v,rv] w fun e w'=>∃ T a,e = .returned (.tuple #[.slice none 0 0,.iface T (.pointer (some a))]) /\ ErrAt w' A (.iface T (.pointer (some a))) (chkG Q L roots).1 (chkG Q L roots).2 /\ Below w.heap.size w w':=by
 have HCK:=hid (gcheck_any Q L roots v rv A m w hn hrn sh S I hr)
 obtain ⟨a,c,hv,-⟩:=id I.es
 subst hv
 obtain ⟨ra,rc,hrv,-⟩:=id hr
 subst hrv
 have HH0:=hid h0
 clear S I hr sh h0
 go_enter Tryz.func41,Tryz.ntmps41
 go_wp2_with fail
 refine HCK.out.mono ?_
 rintro e w1 ⟨x,rfl,he,hb⟩
 have HB:=hid hb
 have HE:=hid he
 rcases he.kind with ⟨h,_⟩ | ⟨_,T,xa,rfl⟩
 ·exact absurd h HH0.out
 clear hb he HCK
 go_wp2_with fail
 go_ret2
 exact ⟨_,_,rfl,HE.out,HB.out⟩
set_option maxRecDepth 100000 in
theorem reach_bad (Q : List Raw) (L : List Ent) (roots : List Bm) (v rv : Value) (A : Nat -> Addr) (m : Int) (w : World) (hn : L.length <= 1000) (hrn : roots.length <= 1000000) (sh : ∀ e,e ∈ L -> ShE e) (S : Te w A m) (I : Ixs w v Q L) (hr : MsAt w rv roots) (h0 : (chkG Q L roots).1 ≠ 0) :
  Calls Tryz.prog 22 #[v,rv] w fun e w'=>∃ T a,e = .returned (.tuple #[.slice none 0 0,.iface T (.pointer (some a))]) /\ ErrAt w' A (.iface T (.pointer (some a))) (chkG Q L roots).1 (chkG Q L roots).2 /\ Below w.heap.size w w':=by
 have HCK:=hid (reached_bad Q L roots v rv A m w hn hrn sh S I hr h0)
 obtain ⟨a,c,hv,-⟩:=id I.es
 subst hv
 obtain ⟨ra,rc,hrv,-⟩:=id hr
 subst hrv
 clear S I hr sh h0
 go_enter Tryz.func22,Tryz.ntmps22
 go_wp2_with fail
 refine HCK.out.mono ?_
 rintro e w1 ⟨T,xa,rfl,he,hb⟩
 have HB:=hid hb
 have HE:=hid he
 clear hb he HCK
 go_wp2_with fail
 go_ret2
 exact ⟨_,_,rfl,HE.out,HB.out⟩
theorem goM_next {X : List Raw} {k : Nat} (hk : k < X.length) : flatM ((X.take (k + 1)).map fun r=>r.1) = flatM ((X.take k).map fun r=>r.1) ++ [.string X[k].1.1,.string X[k].1.2]:=by
 rw [List.take_succ_eq_append_getElem hk,List.map_append,flatM_app]
 simp [flatM]
theorem rel_app2 {B : Nat} {w wr w2 w3 : World} {e : TypeId} {v : Value} {n : Nat} {xs : List Value} {o : Obj} (hB : B <= wr.heap.size) (hb : Below B w wr) (hown : wr.ownsRow B e 2 v n xs) (hb2 : Below wr.heap.size wr w2)
  (hg : (w2.alloc o).grownBy w3 v.ownBlock) : Below B w w3:=by
 have h2 : Below B w w2:=hb.trans (hb2.mono hB)
 have h3 : Below B w (w2.alloc o):=h2.alloc (Nat.le_trans hB hb2.size) o
 exact h3.grown hg (by simp; exact Nat.le_succ_of_le (Nat.le_trans hB hb2.size)) (fun k hk=>(hown.lt k hk).1)
set_option maxRecDepth 100000 in
theorem reach_good (Q : List Raw) (L : List Ent) (roots : List Bm) (v rv : Value) (A : Nat -> Addr) (m : Int) (w : World) (hn : L.length <= 1000) (hrn : roots.length <= 1000000) (sh : ∀ e,e ∈ L -> ShE e) (S : Te w A m) (I : Ixs w v Q L) (hr : MsAt w rv roots) (h0 : (chkG Q L roots).1 = 0) :
  Calls Tryz.prog 22 #[v,rv] w fun e w'=>∃ u,e = .returned (.tuple #[u,.nilIface]) /\ ∃ T,Came (reqQ Q L) (univ L) roots T /\ w'.ownsRow w.heap.size 47 2 u (goM T Q).length (flatM (goM T Q)) /\ Below w.heap.size w w':=by
 have HRE:=hid (reached_some Q L roots v rv A m w hn hrn sh S I hr h0)
 obtain ⟨a,c,hv,-,hs,-⟩:=id I.es
 subst hv
 obtain ⟨ra,rc,hrv,-⟩:=id hr
 subst hrv
 obtain ⟨i0,hi0,hz0,hz1,hz2⟩:=info_parts infoMod
 have HSL:=hid hs
 have HLN:=hid I.ln
 clear S I hr sh h0 hs
 go_enter Tryz.func22,Tryz.ntmps22
 go_wp2_with fail
 refine HRE.out.mono ?_
 rintro e w1 ⟨u,rfl,T,hcm,hown,hb⟩
 have HCM:=hid hcm
 have HB:=hid hb
 have HES:=hid (show EsAt w1 u (goQ T Q) from own_es (fun r hr=>HSL.out r (List.mem_filter.1 hr).1) hown)
 obtain ⟨ua,uc,hu⟩:=own_slN hown
 subst hu
 have HXL:=hid (show (goQ T Q).length <= 1000 from Nat.le_trans (List.length_filter_le _ _) (by rw [HLN.out]; exact hn))
 have HSX:=hid (show ∀ r,r ∈ goQ T Q -> slR r from fun r hr=>HSL.out r (List.mem_filter.1 hr).1)
 have HGM:=hid (show goM T Q = (goQ T Q).map fun r=>r.1 from rfl)
 clear hcm hb hown HRE HSL
 generalize goQ T Q = X at *
 go_wp2_with fail
 go_loopw [8,22] (fun ov i wr=>∃ k : Nat,k <= X.length /\ i = .int .i64 k /\ Hid (wr.ownsRow w1.heap.size 47 2 ov k (flatM ((X.take k).map fun r=>r.1))) /\ Hid (Below w1.heap.size w1 wr)) (fun _ i _=>X.length - (intOf i).toNat)
 case atStart=>exact ⟨0,Nat.zero_le _,rfl,hid (World.ownsRow_nil _ _ _ _),hid (Below.refl _ _)⟩
 case round=>
  obtain ⟨k,hk,rfl,HO,HBr⟩:=hrel
  by_cases hlt : k < X.length
  ·obtain ⟨ua',uc',hue,-,-,hce⟩:=HES.out.below HBr.out
   injection hue with hu1 hu2 hu3
   subst hu1
   subst hu3
   clear hu2
   obtain ⟨eb,eo,ha,hce2⟩:=hce (by intro h; rw [h] at hlt; simp at hlt)
   subst ha
   obtain ⟨x0,x1,x2,x3,x4⟩:=hce2 k hlt
   have hsl:=HSX.out X[k] (List.getElem_mem hlt)
   have hkI : (k : Int) < (X.length : Int):=by omega
   have HLT:=hid hlt
   have HNX:=hid (goM_next hlt)
   clear hce hce2
   generalize X[k] = r at *
   obtain ⟨⟨p,q⟩,rv,pv,bk⟩:=r
   obtain ⟨⟨ra2,rn2,rc2,hrv⟩,pa,pn,pc,hpv⟩:=hsl
   simp only at hrv hpv
   subst hrv
   subst hpv
   have HBa:=hid ((Below.refl wr.heap.size wr).alloc (Nat.le_refl _) (.cells #[.string p,.string q,.slice ra2 rn2 rc2,.slice pa pn pc,.bool bk] 54))
   have HBB:=hid (HBr.out.trans (HBa.out.mono HBr.out.size))
   have HOa:=hid (HO.out.alloc (.cells #[.string p,.string q,.slice ra2 rn2 rc2,.slice pa pn pc,.bool bk] 54))
   have hs1:=HBr.out.size
   clear hlt
   go_wp2_with (at_builtin; refine wpList_append_own _ rfl _ _ 23 rfl w1.heap.size 47 i0 _ 2 32 Tryz.underlying23 hi0 hz0 hz1 hz2 rfl (by decide) _ _ _ rfl (HOa.out.alloc _) ⟨wr.heap.size + 1,0,none⟩ 1 1 [.string p,.string q] rfl rfl ?c1 ?c2 ?c3 ?c4 ?c5 ?_)
   case c2=>first | rfl | exact ⟨rfl,rfl⟩ | (intro u hu; simp at hu; rcases hu with rfl | rfl <;> rfl) | simp
   case c3=>have:=HLT.out; have:=HXL.out; unfold maxLen; omega
   case c4=>have:=HLT.out; have:=HXL.out; omega
   case c5=>first | omega | (simp; omega)
   intro v' w4 hown hgrow _
   have HR3:=hid (rel_app2 HBB.out.size HBB.out HOa.out (Below.refl _ _) hgrow)
   have HO4:=hid hown
   clear hown hgrow
   go_wp2_with fail
   go_roundw
   case rel=>first | exact ⟨k + 1,HLT.out,nr_idx k,hid (by rw [HNX.out,List.map_take]; exact HO4.out),HR3⟩ | exact ⟨k + 1,HLT.out,nx_idx HLT.out (by have:=HXL.out; omega),hid (by rw [HNX.out,List.map_take]; exact HO4.out),HR3⟩
   case measure=>first | exact nr_meas HLT.out | exact nx_meas HLT.out (by have:=HXL.out; omega)
  ·have HTR:=hid (show X.take k = X from List.take_of_length_le (by omega))
   have HKE:=hid (show k = X.length by omega)
   rw [HTR.out] at HO
   have hkI : ¬ (k : Int) < (X.length : Int):=by omega
   obtain ⟨oa,oc,hov⟩:=own_slN HO.out
   subst hov
   clear hlt
   go_wp2_with fail
   go_ret2
   exact ⟨_,rfl,T,HCM.out,by rw [HGM.out,List.length_map,<- HKE.out]; exact own_baseN HO.out HB.out.size,HB.out.trans (HBr.out.mono HB.out.size)⟩
end Ve
end Go.Proofs.YtjbmjnbkibmkpaaGreatDoor





namespace Go.Proofs.YtjbmjnbkibmkpaaGreatDoor
open Go.RowKit Go.Maps Go.Sort Go.Lib
namespace Ve
end Ve
end Go.Proofs.YtjbmjnbkibmkpaaGreatDoor


namespace Go.Proofs.YtjbmjnbkibmkpaaGreatDoor
open Go.RowKit Go.Maps
namespace Ve
structure Rgt (Q : List Raw) (L : List Ent) (roots : List Bm) : Prop where
 c : (chk Q L).1 = 0
 r : ∀ m,m ∈ roots -> m ∈ univ L
theorem rgt_of {w : World} {v : Value} {Q : List Raw} {L : List Ent} {roots : List Bm} (I : Ixs w v Q L) (h0 : (chkG Q L roots).1 = 0) : Rgt Q L roots:=by
 have hc0 : (chk Q L).1 = 0:=by
  by_cases hc : (chk Q L).1 = 0
  ·exact hc
  ·rw [chkG_bad hc] at h0; exact absurd h0 hc
 exact ⟨hc0,by rw [chkG_ok hc0] at h0; exact nonE_found I h0⟩
end Ve
end Go.Proofs.YtjbmjnbkibmkpaaGreatDoor





namespace Go.Proofs.YtjbmjnbkibmkpaaGreatDoor
open Go.RowKit Go.Maps
namespace Ve
end Ve
end Go.Proofs.YtjbmjnbkibmkpaaGreatDoor


namespace Go.Proofs.YtjbmjnbkibmkpaaGreatDoor
open Go.RowKit
namespace Ve
def okLN (N : Nat) (L : List Bm) : Bool:=decide (L.length <= N) && L.all okM
theorem okLN_iff {N : Nat} {L : List Bm} (h : okLN N L = true) : L.length <= N /\ ∀ m,m ∈ L -> m.1.size <= 70 /\ m.2.size <= 60:=by
 unfold okLN at h
 rw [Bool.and_eq_true] at h
 refine ⟨of_decide_eq_true h.1,fun m hm=>?_⟩
 have:=List.all_eq_true.1 h.2 m hm
 unfold okM at this
 rw [Bool.and_eq_true] at this
 exact ⟨of_decide_eq_true this.1,of_decide_eq_true this.2⟩
theorem longN_some (N : Nat) (hN : N <= 1000) (L : List Bm) (b o c : Nat) (w : World) (hn : L.length <= N)
  (hc : ∀ j (h : j < L.length),w.cell? ⟨b,o + j * 2,none⟩ = some (.string L[j].1) /\ w.cell? ⟨b,o + j * 2 + 1,none⟩ = some (.string L[j].2)) :
  Calls Tryz.prog 6 #[.slice (some ⟨b,o,none⟩) L.length c,.int .i64 (N : Int)] w fun e w'=>e = .returned (.int .i64 (if okLN N L then 0 else 1)) /\ w' = w:=by
 have HC:=hid hc
 have HO:=hid (show okLN N L = L.all okM by unfold okLN; rw [decide_eq_true hn,Bool.true_and])
 have hn2 : ¬ (N : Int) < (L.length : Int):=by omega
 generalize hr : (if okLN N L then (0 : Int) else 1) = r
 have HR:=hid hr
 clear hc hr
 go_enter Tryz.func6,Tryz.ntmps6
 go_wp2_with fail
 go_loop [5] (fun i=>∃ k : Nat,k <= L.length /\ i = .int .i64 k /\ Hid ((L.take k).all okM = true)) (fun i=>L.length - (intOf i).toNat)
 case atStart=>exact ⟨0,Nat.zero_le _,rfl,hid rfl⟩
 case round=>
  obtain ⟨k,hk,rfl,HA⟩:=hrel
  by_cases hlt : k < L.length
  ·have hx:=(HC.out k hlt).1
   have hy:=(HC.out k hlt).2
   have HN:=hid (fun h=>all_take_next hlt HA.out h)
   have HX:=hid (fun h=>all_not hlt h)
   have HLT:=hid hlt
   have hkI : (k : Int) < (L.length : Int):=by omega
   generalize L[k] = x at *
   clear hlt
   obtain ⟨p,v⟩:=x
   by_cases h1 : p.size <= 70
   ·have h1' : ¬ (70 : Int) < (p.size : Int):=by omega
    by_cases h2 : v.size <= 60
    ·have h2' : ¬ (60 : Int) < (v.size : Int):=by omega
     have HT:=hid (HN.out (by unfold okM; rw [decide_eq_true h1,decide_eq_true h2]; rfl))
     go_wp2_with fail
     go_round
     case rel=>exact ⟨k + 1,by have:=HLT.out; omega,by go_num,HT⟩
     case measure=>have:=HLT.out; simp [intOf]; omega
    ·have h2' : (60 : Int) < (v.size : Int):=by omega
     have HT:=hid (HX.out (by unfold okM; rw [decide_eq_true h1,decide_eq_false h2]; rfl))
     go_wp2_with fail
     go_ret
     exact ⟨by rw [<- HR.out,HO.out,HT.out]; rfl,rfl⟩
   ·have h1' : (70 : Int) < (p.size : Int):=by omega
    have HT:=hid (HX.out (by unfold okM; rw [decide_eq_false h1]; rfl))
    go_wp2_with fail
    go_ret
    exact ⟨by rw [<- HR.out,HO.out,HT.out]; rfl,rfl⟩
  ·have HT:=hid (show L.all okM = true by have:=HA.out; rw [List.take_of_length_le (by omega)] at this; exact this)
   go_wp2_with fail
   go_ret
   exact ⟨by rw [<- HR.out,HO.out,HT.out]; rfl,rfl⟩
theorem longN_none (N : Nat) (a : Option Addr) (c : Nat) (w : World) : Calls Tryz.prog 6 #[.slice a 0 c,.int .i64 (N : Int)] w fun e w'=>e = .returned (.int .i64 0) /\ w' = w:=by
 go_enter Tryz.func6,Tryz.ntmps6
 go_wp2_with fail
 go_loop [5] (fun i=>i = .int .i64 0) (fun i=>0)
 case atStart=>exact rfl
 case round=>
  obtain rfl:=hrel
  go_wp2_with fail
  go_ret
  exact ⟨rfl,rfl⟩
theorem longN_many (N : Nat) (a : Option Addr) (n c : Nat) (w : World) (hn : N < n) : Calls Tryz.prog 6 #[.slice a n c,.int .i64 (N : Int)] w fun e w'=>e = .returned (.int .i64 1) /\ w' = w:=by
 have hn2 : (N : Int) < (n : Int):=by omega
 go_enter Tryz.func6,Tryz.ntmps6
 go_wp2_with fail
 go_ret
 exact ⟨rfl,rfl⟩
theorem longN_any (N : Nat) (hN : N <= 1000) (L : List Bm) (v : Value) (w : World) (hv : MsAt w v L) : Calls Tryz.prog 6 #[v,.int .i64 (N : Int)] w fun e w'=>e = .returned (.int .i64 (if okLN N L then 0 else 1)) /\ w' = w:=by
 obtain ⟨a,c,rfl,_,h⟩:=hv
 by_cases hn : L.length <= N
 ·cases L with
  | nil=>exact longN_none N a c w
  | cons x r=>
   obtain ⟨b,o,rfl,h2⟩:=h (by simp)
   exact longN_some N hN (x :: r) b o c w hn h2
 ·have : okLN N L = false:=by unfold okLN; rw [decide_eq_false hn]; rfl
  rw [this]
  exact longN_many N a L.length c w (by omega)
end Ve
end Go.Proofs.YtjbmjnbkibmkpaaGreatDoor


namespace Go.Proofs.YtjbmjnbkibmkpaaGreatDoor
open Go.RowKit Go.Maps
namespace Ve
theorem chkG_in {w : World} {v : Value} {Q : List Raw} {L : List Ent} {R : List Bm} (I : Ixs w v Q L) (hc : (chk Q L).1 = 0) (h : ∀ m,m ∈ R -> m ∈ univ L) : (chkG Q L R).1 = 0:=by
 rw [chkG_ok hc]
 have : fstE (nonE Q R) R.length = none:=fstE_none fun j hj=>by
  rw [nonE_at hj]
  unfold nonW
  obtain ⟨k,hk⟩:=(found_iff I R[j]).1 (h _ (List.getElem_mem hj))
  rw [hk,if_neg (by omega)]
 exact codeE_none this
end Ve
end Go.Proofs.YtjbmjnbkibmkpaaGreatDoor


namespace Go.Proofs.YtjbmjnbkibmkpaaGreatDoor
open Go.RowKit Go.Maps
namespace Ve
theorem univ_eq {w : World} {v : Value} {Q : List Raw} {L : List Ent} (I : Ixs w v Q L) : Q.map (fun r=>r.1) = univ L:=by
 apply List.ext_getElem
 ·simp [univ,I.ln]
 ·intro j h1 h2
  have hq : j < Q.length:=by simpa using h1
  have hl : j < L.length:=by rw [<- I.ln]; exact hq
  simp only [univ,List.getElem_map]
  exact (I.ok j hq hl).m
theorem univ_rises {Q : List Raw} {L : List Ent} (h : (chk Q L).1 = 0) : (univ L).Pairwise fun a b=>mAhead a b = true:=by
 rw [List.pairwise_iff_getElem]
 intro i j hi hj hij
 have hi2 : i < L.length:=by simpa [univ] using hi
 have hj2 : j < L.length:=by simpa [univ] using hj
 obtain ⟨d,rfl⟩ : ∃ d,j = i + d + 1:=⟨j - i - 1,by omega⟩
 have:=ahead_all (chk_each0 h).2 d i hj2
 simpa [univ] using this
end Ve
end Go.Proofs.YtjbmjnbkibmkpaaGreatDoor


namespace Go.Proofs.YtjbmjnbkibmkpaaGreatDoor
open Go.RowKit Go.Maps
namespace Ve
theorem infoBool : (Tryz.prog.info? 4).map (fun i=>(i.zero,i.size,i.bytes)) = some (some (.bool false),1,1):=by kernel_rfl
def bwc (O : List Bool) : Array Value:=(O.map Value.bool).toArray
theorem bwc_at {W : World} {g : Nat} {O : List Bool} (h : W.heap[g]? = some (.cells (bwc O) 4 (0,0))) {a : Nat} (ha : a < O.length) : W.cell? ⟨g,a,none⟩ = some (.bool O[a]):=by
 rw [Lib.cell_of_heap h]
 simp [bwc,ha]
theorem made_bools (n : Nat) : madeCells (Value.bool false).cells n = bwc (List.replicate n false):=by
 unfold madeCells bwc
 simp [Value.cells]
 apply Array.ext
 ·simp
 ·intro i h1 h2
  simp [Nat.mod_one]
theorem make_bools (n : Nat) (w : World) (hn : n <= 1000000) : (Instr.makeSlice 190 (.int .i64 (n : Int)) (.int .i64 (n : Int))).run Tryz.prog w = .ok (.slice (some ⟨w.heap.size,0,none⟩) n n) (w.alloc (.cells (bwc (List.replicate n false)) 4)):=by
 obtain ⟨i0,hi,hz0,hz1,hz2⟩:=info_parts infoBool
 have h:=run_makeSlice (P:=Tryz.prog) w 190 4 i0 (.bool false) Tryz.underlying190 hi hz0 .i64 .i64 (n : Int) (n : Int) (by omega) (by omega) (by rw [hz1]; simp; omega) (by rw [hz2]; omega) (by omega)
 rw [hz1] at h
 simp only [Int.toNat_natCast,Nat.mul_one] at h
 rw [made_bools] at h
 exact h
theorem bwc_put (O : List Bool) (a : Nat) (b : Bool) : (bwc O).setIfInBounds a (.bool b) = bwc (O.set a b):=by
 unfold bwc
 rw [List.setIfInBounds_toArray,List.map_set]
end Ve
end Go.Proofs.YtjbmjnbkibmkpaaGreatDoor


namespace Go.Proofs.YtjbmjnbkibmkpaaGreatDoor
open Go.RowKit Go.Maps
namespace Ve
def unmV : List Value -> Nat
 | []=>0
 | .bool false :: l=>unmV l + 1
 | _ :: l=>unmV l
theorem unmV_is : ∀ O : List Bool,unmV (O.map Value.bool) = unm O
 | []=>rfl
 | true :: O=>by show unmV (O.map Value.bool) = unm O; exact unmV_is O
 | false :: O=>by show unmV (O.map Value.bool) + 1 = unm O + 1; rw [unmV_is O]
def unmW : Option Obj -> Nat
 | some (.cells cs _ _)=>unmV cs.toList
 | _=>0
theorem unmW_is {W : World} {g : Nat} {O : List Bool} (h : W.heap[g]? = some (.cells (bwc O) 4 (0,0))) : unmW W.heap[g]? = unm O:=by
 rw [h]
 show unmV (bwc O).toList = unm O
 unfold bwc
 rw [List.toList_toArray,unmV_is]
theorem idx_univ {w : World} {v : Value} {Q : List Raw} {L : List Ent} (I : Ixs w v Q L) {m : Bm} (hm : m ∈ univ L) : ∃ k,∃ hk : k < (univ L).length,idxOf (isM m) Q = (k : Int) /\ (univ L)[k] = m:=by
 obtain ⟨k,hk⟩:=(found_iff I m).1 hm
 obtain ⟨h1,h2⟩:=idx_is hk
 have h3 : k < L.length:=by rw [<- I.ln]; exact h1
 refine ⟨k,by simpa [univ] using h3,hk,?_⟩
 have:=of_decide_eq_true h2
 simp only [univ,List.getElem_map]
 rw [<- (I.ok k h1 h3).m]
 exact Prod.ext this.1 this.2
theorem univ_nd {Q : List Raw} {L : List Ent} (h : (chk Q L).1 = 0) : (univ L).Nodup:=
 (univ_rises h).imp fun {a b} h e=>by subst e; rw [mAhead_irr] at h; cases h
theorem req_at {w : World} {v : Value} {Q : List Raw} {L : List Ent} (I : Ixs w v Q L) (h : (chk Q L).1 = 0) {i : Nat} (hi : i < L.length) (hi' : i < (univ L).length) : reqQ Q L (univ L)[i] = L[i].2.1:=by
 obtain ⟨k,hk,e1,e2⟩:=idx_univ I (List.getElem_mem hi')
 have hki : k = i:=by
  have hp:=List.pairwise_iff_getElem.1 (univ_nd h)
  rcases Nat.lt_trichotomy k i with h1 | h1 | h1
  ·exact absurd e2 (hp k i hk hi' h1)
  ·exact h1
  ·exact absurd e2.symm (hp i k hi' hk h1)
 subst hki
 exact reqQ_at e1 hi
end Ve
end Go.Proofs.YtjbmjnbkibmkpaaGreatDoor


namespace Go.Proofs.YtjbmjnbkibmkpaaGreatDoor
open Go.RowKit Go.Maps
namespace Ve
theorem box_two {W : World} {g : Nat} {x y : Value} {T : TypeId} (h : W.heap[g]? = some (.cells #[x,y] T (0,0))) : W.cell? ⟨g,0,none⟩ = some x /\ W.cell? ⟨g,1,none⟩ = some y /\ ∀ o,W.frozen? ⟨g,o,none⟩ = false:=
 ⟨by rw [Lib.cell_of_heap h]; rfl,by rw [Lib.cell_of_heap h]; rfl,fun o=>Lib.frozen_of_heap h o⟩
def selO : List Bool -> List Bm -> List Bm
 | b :: O,m :: U=>if b then m :: selO O U else selO O U
 | _,_=>[]
theorem selO_take : ∀ (O : List Bool) (U : List Bm) (k : Nat) (h : k < O.length) (h' : k < U.length),selO (O.take (k + 1)) (U.take (k + 1)) = selO (O.take k) (U.take k) ++ (if O[k] then [U[k]] else [])
 | [],_,_,h,_=>absurd h (Nat.not_lt_zero _)
 | _ :: _,[],_,_,h'=>absurd h' (Nat.not_lt_zero _)
 | b :: O,m :: U,0,_,_=>by cases b <;> simp [selO]
 | b :: O,m :: U,k + 1,h,h'=>by
  have ih:=selO_take O U k (by simpa using h) (by simpa using h')
  simp only [List.take_succ_cons,selO,List.getElem_cons_succ]
  cases b <;> simp [ih]
theorem selO_filter : ∀ (O : List Bool) (U : List Bm) (P : Bm -> Bool),O.length = U.length -> (∀ i (h : i < U.length) (h' : i < O.length),O[i] = P U[i]) -> selO O U = U.filter P
 | [],[],_,_,_=>rfl
 | [],_ :: _,_,h,_=>by simp at h
 | _ :: _,[],_,h,_=>by simp at h
 | b :: O,m :: U,P,h,hp=>by
  have h0:=hp 0 (by simp) (by simp)
  have ih:=selO_filter O U P (by simpa using h) (fun i h1 h2=>by
   have h3:=hp (i + 1) (by simpa using h1) (by simpa using h2)
   simp only [List.getElem_cons_succ] at h3
   exact h3)
  simp only [List.getElem_cons_zero] at h0
  simp only [selO,List.filter_cons,ih,h0]
end Ve
end Go.Proofs.YtjbmjnbkibmkpaaGreatDoor
