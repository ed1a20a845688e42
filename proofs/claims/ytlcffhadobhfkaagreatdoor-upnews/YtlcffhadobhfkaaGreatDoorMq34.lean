/-
  GrD IxPa MvP MvB GrE
-/
import Derived.Deep.DeepCutAuto
import Derived.Shelf.SlSortCmp.WholeK
import Derived.Test.YtlcffhadobhfkaaGreatDoorMq3
import Derived.Test.YtlcffhadobhfkaaGreatDoorMq2
import Derived.Test.YtlcffhadobhfkaaGreatDoorMq5
import Derived.Test.YtlcffhadobhfkaaGreatDoorMq6
import Derived.Test.YtlcffhadobhfkaaGreatDoorMq9
import Derived.Test.YtlcffhadobhfkaaGreatDoorMq11
import Derived.Test.YtlcffhadobhfkaaGreatDoorMq18
import Derived.Test.YtlcffhadobhfkaaGreatDoorMq19
import Derived.Test.YtlcffhadobhfkaaGreatDoorMq20
import Derived.Test.YtlcffhadobhfkaaGreatDoorMq23
import Derived.Test.YtlcffhadobhfkaaGreatDoorMq22
import Derived.Test.YtlcffhadobhfkaaGreatDoorMq16
namespace Go.Proofs.YtlcffhadobhfkaaGreatDoor
open Go.RowKit Go.Maps
namespace Ve
def univ (L : List Ent) : List Bm:=L.map fun e=>e.1
theorem univ_len (L : List Ent) : (univ L).length = L.length:=by simp [univ]
def reqQ (Q : List Raw) (L : List Ent) (m : Bm) : List Bm:=if idxOf (isM m) Q < 0 then [] else ((L[(idxOf (isM m) Q).toNat]?).map fun e=>e.2.1).getD []
theorem ixs_get {w : World} {v : Value} {Q : List Raw} {L : List Ent} (I : Ixs w v Q L) {j : Nat} (hj : j < Q.length) : ∃ hj' : j < L.length,Q[j].1 = L[j].1:=by
  have hj' : j < L.length:=by rw [<- I.ln]; exact hj
  exact ⟨hj',(I.ok j hj hj').m⟩
theorem isM_iff {m : Bm} {r : Raw} : isM m r = true ↔ r.1 = m:=by
  unfold isM
  constructor
  · intro h; have h2:=of_decide_eq_true h; exact Prod.ext h2.1 h2.2
  · intro h; exact decide_eq_true (by rw [h]; exact ⟨rfl,rfl⟩)
theorem idx_nat (P : Raw -> Bool) (Q : List Raw) : idxOf P Q = -1 \/ ∃ k : Nat,idxOf P Q = (k : Int):=by
  unfold idxOf
  cases fstE (idxE P Q) Q.length with
  | none=>exact Or.inl rfl
  | some k=>exact Or.inr ⟨k,rfl⟩
theorem idx_none {P : Raw -> Bool} {Q : List Raw} (h : idxOf P Q = -1) : ∀ r,r ∈ Q -> P r = false:=fun r hr=>by
  obtain ⟨j,hj,rfl⟩:=List.getElem_of_mem hr
  unfold idxOf at h
  cases h1 : fstE (idxE P Q) Q.length with
  | some k=>rw [h1] at h; simp only at h; omega
  | none=>
    have:=fstE_of_none h1 j hj
    rw [idxE_at hj] at this
    cases hp : P Q[j] with
    | false=>rfl
    | true=>rw [hp] at this; simp at this
theorem found_iff {w : World} {v : Value} {Q : List Raw} {L : List Ent} (I : Ixs w v Q L) (m : Bm) : m ∈ univ L ↔ ∃ k : Nat,idxOf (isM m) Q = (k : Int):=by
  constructor
  · intro h
    rcases idx_nat (isM m) Q with h1 | h1
    · obtain ⟨e,he,rfl⟩:=List.mem_map.1 h
      obtain ⟨j,hj,rfl⟩:=List.getElem_of_mem he
      have hj2 : j < Q.length:=by rw [I.ln]; exact hj
      have:=idx_none h1 Q[j] (List.getElem_mem hj2)
      rw [isM_iff.2 (I.ok j hj2 hj).m] at this
      cases this
    · exact h1
  · rintro ⟨k,h⟩
    obtain ⟨hk,h1⟩:=idx_is h
    obtain ⟨hk',h2⟩:=ixs_get I hk
    exact List.mem_map.2 ⟨L[k],List.getElem_mem hk',by rw [<- h2]; exact isM_iff.1 h1⟩
theorem reqQ_at {Q : List Raw} {L : List Ent} {m : Bm} {k : Nat} (h : idxOf (isM m) Q = (k : Int)) (hk : k < L.length) : reqQ Q L m = L[k].2.1:=by
  unfold reqQ
  rw [h,if_neg (by omega),Int.toNat_natCast,List.getElem?_eq_getElem hk]
  rfl
set_option maxRecDepth 100000 in
set_option maxHeartbeats 2000000 in
theorem walk_any (Q : List Raw) (L : List Ent) (roots : List Bm) (v rv : Value) (w : World) (hn : L.length <= 1000) (hrn : roots.length <= 1000000) (I : Ixs w v Q L) (hr : MsAt w rv roots) (hz : ∀ m,m ∈ univ L -> m.1.size <= maxLen /\ m.2.size <= maxLen) (hrl : ∀ e,e ∈ L -> e.2.1.length <= 1000000)
    (hru : ∀ m,m ∈ roots -> m ∈ univ L) (hlu : ∀ m,m ∈ univ L -> ∀ x,x ∈ reqQ Q L m -> x ∈ univ L) :
    Calls Tryz.prog 67 #[v,rv] w fun e w'=>∃ b,e = .returned (.map (some b)) /\ ∃ T,ByAt w' b T /\ szT T /\ Came (reqQ Q L) (univ L) roots T /\ Below w.heap.size w w':=by
  obtain ⟨a,c,hv,-⟩:=id I.es
  subst hv
  obtain ⟨ra,rc,hrv,-⟩:=id hr
  subst hrv
  have HI:=hid I
  have HR:=hid hr
  have HZ:=hid hz
  have HRL:=hid hrl
  have HRU:=hid hru
  have HLU:=hid hlu
  have eg : ∀ args w,(callFunc 113 args).run Tryz.prog w = .ok (.enter 113 args) w:=enters_of Tryz.func113 (by kernel_rfl) rfl
  have hmk : ∀ W : World,(Instr.makeMap 86 none).run Tryz.prog W = .ok (.map (some W.heap.size)) (W.alloc (.map #[] 0)):=fun W=>run_makeMap 86 W
  clear I hr hz hrl hru hlu
  go_enter Tryz.func67,Tryz.ntmps67
  go_wp2_with fail
  have HW0:=hid (show Wk w (((w.alloc (.map #[] 0)).alloc (.cells #[.map (some w.heap.size)] 86)).alloc (.cells #[.slice none 0 0] 23)) (w.heap.size + 1) (w.heap.size + 1 + 1) w.heap.size [] by
    have b1:=(Below.refl w.heap.size w).alloc (Nat.le_refl _) (.map #[] 0)
    have b2:=b1.alloc (by simp) (.cells #[.map (some w.heap.size)] 86)
    have b3:=b2.alloc (by simp; omega) (.cells #[.slice none 0 0] 23)
    have c1:=(Below.refl (w.alloc (.map #[] 0)).heap.size (w.alloc (.map #[] 0))).alloc (Nat.le_refl _) (.cells #[.map (some w.heap.size)] 86)
    have c2:=(Below.refl ((w.alloc (.map #[] 0)).alloc (.cells #[.map (some w.heap.size)] 86)).heap.size ((w.alloc (.map #[] 0)).alloc (.cells #[.map (some w.heap.size)] 86))).alloc (Nat.le_refl _) (.cells #[.slice none 0 0] 23)
    have m0 : ByAt (w.alloc (.map #[] 0)) w.heap.size []:=World.ownsMap_made w Tryz.prog 25 rB
    have h1:=heap_new (w.alloc (.map #[] 0)) (.cells #[.map (some w.heap.size)] 86)
    have h2:=heap_new ((w.alloc (.map #[] 0)).alloc (.cells #[.map (some w.heap.size)] 86)) (.cells #[.slice none 0 0] 23)
    have s1 : (w.alloc (.map #[] 0)).heap.size = w.heap.size + 1:=by simp
    have s2 : ((w.alloc (.map #[] 0)).alloc (.cells #[.map (some w.heap.size)] 86)).heap.size = w.heap.size + 1 + 1:=by simp
    rw [s1] at h1
    rw [s2] at h2
    exact ⟨b3,fun x hx=>(by cases hx),by omega,by omega,by omega,heap_old _ _ h1,(m0.below c1).below c2,_,h2,World.ownsRow_nil _ _ _ _⟩)
  generalize hW0 : ((w.alloc (.map #[] 0)).alloc (.cells #[.map (some w.heap.size)] 86)).alloc (.cells #[.slice none 0 0] 23) = W0 at *
  clear hW0
  go_loopw [17] (fun iv wr=>∃ k : Nat,k <= roots.length /\ iv = .int .i64 k /\ Hid (∃ T,Wk w wr (w.heap.size + 1) (w.heap.size + 1 + 1) w.heap.size T /\ Bfs (reqQ Q L) (univ L) roots T 0 /\ (∀ m,m ∈ roots.take k -> m ∈ whoT T) /\ ∃ V,LvOk (reqQ Q L) roots T 0 V /\ ∀ k (hk : k < V.length),V[k] = 1)) (fun i _=>roots.length - (intOf i).toNat)
  case atStart=>exact ⟨0,Nat.zero_le _,rfl,hid ⟨[],HW0.out,Bfs.none _ _ _,fun m hm=>by simp at hm,[],LvOk.none _ _,fun _ h=>absurd h (Nat.not_lt_zero _)⟩⟩
  case round=>
    obtain ⟨k,hk,rfl,HT⟩:=hrel
    by_cases hlt : k < roots.length
    · obtain ⟨T,hT⟩:=HT.out
      have HTT:=hid hT
      have HRM:=hid (HR.out.below hT.1.bl)
      obtain ⟨rb,ro,hra,hcc⟩:=HRM.out.cells hlt
      subst hra
      have x0:=hcc.1
      have x1:=hcc.2
      have HMU:=hid (HRU.out roots[k] (List.getElem_mem hlt))
      have HMR:=hid (List.getElem_mem hlt)
      have HTK:=hid (show ∀ x,x ∈ roots.take (k + 1) -> x ∈ roots.take k \/ x = roots[k] from fun x hx=>by
        rw [List.take_succ_eq_append_getElem hlt] at hx
        rcases List.mem_append.1 hx with h | h
        · exact Or.inl h
        · exact Or.inr (List.mem_singleton.1 h))
      have HLT:=hid hlt
      have hkI : (k : Int) < (roots.length : Int):=by omega
      clear hT hcc
      generalize roots[k] = m at *
      clear hlt
      have HBa:=hid ((Below.refl wr.heap.size wr).alloc (Nat.le_refl _) (.cells #[.string m.1,.string m.2] 25))
      have HCO:=hid (come_any w _ (w.heap.size + 1) (w.heap.size + 1 + 1) w.heap.size T m m (HZ.out m HMU.out) (by have:=HTT.out.2.1.len; rw [univ_len] at this; omega) (HTT.out.1.below HBa.out))
      go_wp2_with fail
      refine HCO.out.mono ?_
      rintro e w1 ⟨rfl,hk1⟩
      have HN:=hid (show ∃ T,Wk w w1 (w.heap.size + 1) (w.heap.size + 1 + 1) w.heap.size T /\ Bfs (reqQ Q L) (univ L) roots T 0 /\ (∀ m,m ∈ roots.take (k + 1) -> m ∈ whoT T) /\ ∃ V,LvOk (reqQ Q L) roots T 0 V /\ ∀ k (hk : k < V.length),V[k] = 1 from
        ⟨_,hk1,HTT.out.2.1.come HMU.out (Or.inl ⟨rfl,HMR.out⟩),fun x hx=>by
          rcases HTK.out x hx with h | rfl
          · exact come_sub (HTT.out.2.2.1 x h)
          · exact come_mem _ _ _,by
          obtain ⟨V,h1,h2⟩:=HTT.out.2.2.2
          exact h1.root h2 HMR.out⟩)
      clear hk1
      go_wp2_with fail
      go_roundw
      case rel=>exact ⟨k + 1,HLT.out,nr_idx k,HN⟩
      case measure=>exact nr_meas HLT.out
    · have HALL:=hid (show ∃ T,Wk w wr (w.heap.size + 1) (w.heap.size + 1 + 1) w.heap.size T /\ Bfs (reqQ Q L) (univ L) roots T 0 /\ (∀ m,m ∈ roots -> m ∈ whoT T) /\ ∃ V,LvOk (reqQ Q L) roots T 0 V by
        have:=HT.out
        rw [List.take_of_length_le (by omega)] at this
        obtain ⟨T,h1,h2,h3,V,h4,_⟩:=this
        exact ⟨T,h1,h2,h3,V,h4⟩)
      have hkI : ¬ (k : Int) < (roots.length : Int):=by omega
      clear HT hlt
      go_wp2_with fail
      go_loopw [10] (fun iv wr=>∃ i : Nat,iv = .int .i64 i /\ Hid (∃ T,Wk w wr (w.heap.size + 1) (w.heap.size + 1 + 1) w.heap.size T /\ Bfs (reqQ Q L) (univ L) roots T i /\ (∀ m,m ∈ roots -> m ∈ whoT T) /\ ∃ V,LvOk (reqQ Q L) roots T i V)) (fun i _=>L.length - (intOf i).toNat)
      case atStart=>exact ⟨0,rfl,HALL⟩
      case round=>
        obtain ⟨i,rfl,HA⟩:=hrel
        obtain ⟨T,hT⟩:=HA.out
        have HTT:=hid hT
        obtain ⟨ov,o1,o2⟩:=hT.1.oc
        have hTl : T.length <= L.length:=by have:=hT.2.1.len; rw [univ_len] at this; exact this
        obtain ⟨oa,oc,hov⟩:=own_slN o2
        subst hov
        have z0 : wr.cell? ⟨w.heap.size + 1 + 1,0,none⟩ = some (.slice oa T.length oc):=by rw [Lib.cell_of_heap o1]; rfl
        have HO2:=hid o2
        clear hT o1 o2 HA
        by_cases hlt : i < T.length
        · have hiI : (i : Int) < (T.length : Int):=by omega
          obtain ⟨b1,o1,hoa,yy0,yy1⟩:=(own_ms (L:=whoT T) (by rw [whoT_len]; exact HO2.out)).cells (k:=i) (by rw [whoT_len]; exact hlt)
          subst hoa
          rw [whoT_get hlt] at yy0 yy1
          have HLT:=hid hlt
          have HOU:=hid (HTT.out.2.1.un T[i].1 (whoT_mem.2 ⟨i,hlt,rfl⟩))
          have HOM:=hid (show T[i].1 ∈ whoT T from whoT_mem.2 ⟨i,hlt,rfl⟩)
          obtain ⟨o,ho,y0,y1,hou,hom⟩ : ∃ o,T[i].1 = o /\ wr.cell? ⟨b1,o1 + i * 2,none⟩ = some (.string o.1) /\ wr.cell? ⟨b1,o1 + i * 2 + 1,none⟩ = some (.string o.2) /\ o ∈ univ L /\ o ∈ whoT T:=⟨_,rfl,yy0,yy1,HOU.out,HOM.out⟩
          clear yy0 yy1 HOU HOM
          have HOU:=hid hou
          have HOM:=hid hom
          have HOI:=hid (show ∃ h : i < T.length,(T[i]'h).1 = o from ⟨hlt,ho⟩)
          clear hou hom
          obtain ⟨kq,hkq⟩:=(found_iff HI.out o).1 HOU.out
          obtain ⟨hkl,-⟩:=idx_is hkq
          have hkl2 : kq < L.length:=by rw [<- HI.out.ln]; exact hkl
          have HFI:=hid (find_any Q o (.slice a Q.length c) wr (by rw [HI.out.ln]; omega) (HI.out.below HTT.out.1.bl).es)
          rw [hkq] at HFI
          have HRQ:=hid (reqQ_at hkq hkl2)
          have hkI : (kq : Int) < (Q.length : Int):=by omega
          have hk0 : (0 : Int) <= (kq : Int):=by omega
          have HES:=hid (fun W (h : Below w.heap.size w W)=>es_cells (HI.out.below h).es hkl)
          have HMS:=hid (fun W (h : Below w.heap.size w W)=>((HI.out.below h).ok kq hkl hkl2).rq)
          have hrl2:=HRL.out L[kq] (List.getElem_mem hkl2)
          generalize (L[kq]'hkl2).2.1 = R at *
          generalize (Q[kq]'hkl).2.1 = qv at *
          obtain ⟨qa,qc,hqv,-⟩:=HMS.out w (Below.refl _ _)
          subst hqv
          clear hkq hkl hkl2 ho hlt
          go_wp2_with fail
          refine HFI.out.mono ?_
          rintro e w1 ⟨rfl,hb⟩
          have HW1:=hid (HTT.out.1.below hb)
          obtain ⟨eb,eo,ha,x2⟩:=HES.out w1 HW1.out.bl
          subst ha
          clear hb HFI
          go_wp2_with fail
          have HMS1:=hid (HMS.out w1 HW1.out.bl)
          have HST:=hid (show ∃ T',Wk w w1 (w.heap.size + 1) (w.heap.size + 1 + 1) w.heap.size T' /\ Bfs (reqQ Q L) (univ L) roots T' i /\ (∀ m,m ∈ roots -> m ∈ whoT T') /\ (∃ h : i < T'.length,(T'[i]'h).1 = o) /\ (∀ m,m ∈ R.take 0 -> m ∈ whoT T') /\ ∃ V,LvOk (reqQ Q L) roots T' i V from
            ⟨T,HW1.out,HTT.out.2.1,HTT.out.2.2.1,HOI.out,fun m hm=>by simp at hm,HTT.out.2.2.2⟩)
          clear HW1 HTT x2 y0 y1 z0
          go_loopw [43] (fun iv wr=>∃ k : Nat,k <= R.length /\ iv = .int .i64 k /\ Hid (∃ T',Wk w wr (w.heap.size + 1) (w.heap.size + 1 + 1) w.heap.size T' /\ Bfs (reqQ Q L) (univ L) roots T' i /\ (∀ m,m ∈ roots -> m ∈ whoT T') /\ (∃ h : i < T'.length,(T'[i]'h).1 = o) /\ (∀ m,m ∈ R.take k -> m ∈ whoT T') /\ ∃ V,LvOk (reqQ Q L) roots T' i V)) (fun i _=>R.length - (intOf i).toNat)
          case atStart=>exact ⟨0,Nat.zero_le _,rfl,HST⟩
          case round=>
            obtain ⟨k2,hk2,rfl,HS2⟩:=hrel
            by_cases hlt : k2 < R.length
            · obtain ⟨T2,hT2⟩:=HS2.out
              have HT2:=hid hT2
              obtain ⟨qb,qo,hqa,xx0,xx1⟩:=(HMS.out wr hT2.1.bl).cells hlt
              subst hqa
              have HMR:=hid (show R[k2] ∈ reqQ Q L o by rw [HRQ.out]; exact List.getElem_mem hlt)
              have HTK:=hid (show ∀ x,x ∈ R.take (k2 + 1) -> x ∈ R.take k2 \/ x = R[k2] from fun x hx=>by
                rw [List.take_succ_eq_append_getElem hlt] at hx
                rcases List.mem_append.1 hx with h | h
                · exact Or.inl h
                · exact Or.inr (List.mem_singleton.1 h))
              have HLT2:=hid hlt
              have hkI2 : (k2 : Int) < (R.length : Int):=by omega
              obtain ⟨m,hm,x0,x1,hmr,htk⟩ : ∃ m,R[k2] = m /\ wr.cell? ⟨qb,qo + k2 * 2,none⟩ = some (.string m.1) /\ wr.cell? ⟨qb,qo + k2 * 2 + 1,none⟩ = some (.string m.2) /\ m ∈ reqQ Q L o /\ ∀ x,x ∈ R.take (k2 + 1) -> x ∈ R.take k2 \/ x = m:=⟨_,rfl,xx0,xx1,HMR.out,HTK.out⟩
              clear HMR HTK xx0 xx1
              have HMR:=hid hmr
              have HTK:=hid htk
              have HMU:=hid (HLU.out o HOU.out m hmr)
              obtain ⟨hi2,ho2⟩:=hT2.2.2.2.1
              have HFO:=hid (show o ∈ whoT T2 from whoT_mem.2 ⟨i,hi2,ho2⟩)
              obtain ⟨ov,o1,o2⟩:=hT2.1.oc
              obtain ⟨oa2,oc2,hov⟩:=own_slN o2
              subst hov
              have hBa:=(Below.refl wr.heap.size wr).alloc (Nat.le_refl _) (.cells #[.string m.1,.string m.2] 25)
              obtain ⟨b3,o3,hoa,w0,w1'⟩:=(own_ms (L:=whoT T2) (by rw [whoT_len]; exact o2)).cells (k:=i) (by rw [whoT_len]; exact hi2)
              subst hoa
              rw [whoT_get hi2] at w0 w1'
              have hiI2 : (i : Int) < (T2.length : Int):=by omega
              have hi00 : (0 : Int) <= (i : Int):=by omega
              obtain ⟨q0,q1⟩ : (wr.alloc (.cells #[.string m.1,.string m.2] 25)).cell? ⟨b3,o3 + i * 2,none⟩ = some (.string o.1) /\ (wr.alloc (.cells #[.string m.1,.string m.2] 25)).cell? ⟨b3,o3 + i * 2 + 1,none⟩ = some (.string o.2):=⟨cell_below hBa (by rw [<- ho2]; exact w0),cell_below hBa (by rw [<- ho2]; exact w1')⟩
              have q2 : (wr.alloc (.cells #[.string m.1,.string m.2] 25)).cell? ⟨w.heap.size + 1 + 1,0,none⟩ = some (.slice (some ⟨b3,o3,none⟩) T2.length oc2):=cell_below hBa (by rw [Lib.cell_of_heap o1]; rfl)
              have HCO:=hid (fun W (h : Wk w W (w.heap.size + 1) (w.heap.size + 1 + 1) w.heap.size T2)=>come_any w W (w.heap.size + 1) (w.heap.size + 1 + 1) w.heap.size T2 m o (HZ.out m HMU.out) (by have:=HT2.out.2.1.len; rw [univ_len] at this; omega) h)
              have HWB:=hid (hT2.1.below hBa)
              clear hT2 hm hmr htk o1 o2 w0 w1' hBa
              clear ho2 hi2 hlt
              go_upto_region 15 with fail
              go_region_with (go_at_call 113; refine (HCO.out _ (HWB.out.below (below_drawn _ 1))).mono ?_; rintro e w4 ⟨rfl,hk4⟩; have HK4:=hid hk4; clear hk4)
              all_goals
                have HNX:=hid (show ∃ T',Wk w w4 (w.heap.size + 1) (w.heap.size + 1 + 1) w.heap.size T' /\ Bfs (reqQ Q L) (univ L) roots T' i /\ (∀ m,m ∈ roots -> m ∈ whoT T') /\ (∃ h : i < T'.length,(T'[i]'h).1 = o) /\ (∀ m,m ∈ R.take (k2 + 1) -> m ∈ whoT T') /\ ∃ V,LvOk (reqQ Q L) roots T' i V from by
                  obtain ⟨h1,h2,h3,⟨h4,h5⟩,h6,V,h7⟩:=HT2.out
                  refine ⟨_,HK4.out,h2.come HMU.out (Or.inr ⟨HFO.out,HMR.out⟩),fun x hx=>come_sub (h3 x hx),?_,fun x hx=>?_,by rw [<- h5]; exact h7.reqs h4 h3 (by rw [h5]; exact HMR.out)⟩
                  · obtain ⟨E,hE⟩:=come_old T2 m o
                    rw [hE]
                    exact ⟨by simp; omega,by rw [List.getElem_append_left h4]; exact h5⟩
                  · rcases HTK.out x hx with h | rfl
                    · exact come_sub (h6 x h)
                    · exact come_mem _ _ _)
                go_wp2_with fail
                go_roundw
                case rel=>exact ⟨k2 + 1,HLT2.out,nr_idx k2,HNX⟩
                case measure=>exact nr_meas HLT2.out
            · have HSE:=hid (show ∃ T',Wk w wr (w.heap.size + 1) (w.heap.size + 1 + 1) w.heap.size T' /\ Bfs (reqQ Q L) (univ L) roots T' (i + 1) /\ (∀ m,m ∈ roots -> m ∈ whoT T') /\ ∃ V,LvOk (reqQ Q L) roots T' (i + 1) V by
                obtain ⟨T',h1,h2,h3,⟨h4,h5⟩,h6,V,h7⟩:=HS2.out
                rw [List.take_of_length_le (by omega)] at h6
                exact ⟨T',h1,h2.next h4 (by rw [h5,HRQ.out]; exact h6),h3,V,h7.next h4 (by rw [h5,HRQ.out]; exact h6)⟩)
              have hkI2 : ¬ (k2 : Int) < (R.length : Int):=by omega
              have HIL:=hid (show i < L.length by
                obtain ⟨T',h1,h2,h3,⟨h4,h5⟩,h6⟩:=HS2.out
                have:=h2.len
                rw [univ_len] at this
                omega)
              clear HS2 hlt
              go_wp2_with fail
              go_roundw
              case rel=>exact ⟨i + 1,nr_idx i,HSE⟩
              case measure=>exact nr_meas HIL.out
        · have hiI : ¬ (i : Int) < (T.length : Int):=by omega
          have HTE:=hid (show i = T.length by have:=HTT.out.2.1.le; omega)
          have z1 : wr.cell? ⟨w.heap.size + 1,0,none⟩ = some (.map (some w.heap.size)):=by rw [Lib.cell_of_heap HTT.out.1.bc]; rfl
          clear hlt
          go_wp2_with fail
          go_ret
          exact ⟨_,rfl,T,HTT.out.1.mp,HTT.out.1.sz,⟨by have:=HTT.out.2.1; rw [HTE.out] at this; exact this,HTT.out.2.2.1,by have:=HTT.out.2.2.2; rw [HTE.out] at this; exact this⟩,HTT.out.1.bl⟩
theorem mAhead_trans {a b c : Bm} (h1 : mAhead a b = true) (h2 : mAhead b c = true) : mAhead a c = true:=by
  unfold mAhead aheadB at *
  by_cases e1 : a.1.data.toList = b.1.data.toList
  · rw [if_pos e1] at h1
    rw [e1]
    by_cases e2 : b.1.data.toList = c.1.data.toList
    · rw [if_pos e2] at h2 ⊢
      unfold lessB at *
      simp only [Bool.and_eq_true,decide_eq_true_eq] at *
      exact ⟨h1.1,h2.2.1,ordV_trans h1.2.2 h2.2.2⟩
    · rw [if_neg e2] at h2 ⊢; exact h2
  · rw [if_neg e1] at h1
    by_cases e2 : b.1.data.toList = c.1.data.toList
    · rw [<- e2,if_neg e1]; exact h1
    · rw [if_neg e2] at h2
      have h3:=cbt _ _ _ (of_decide_eq_true h1) (of_decide_eq_true h2)
      by_cases e3 : a.1.data.toList = c.1.data.toList
      · rw [e3] at h3
        have:=lt_irrefl c.1
        unfold lt at this
        exact absurd h3 (of_decide_eq_false this)
      · rw [if_neg e3]; exact decide_eq_true h3
theorem chk_each0 {Q : List Raw} {L : List Ent} (h : (chk Q L).1 = 0) : L.length <= 100 /\ ∀ i,i < L.length -> entE L i = 0:=by
  by_cases h1 : 100 < L.length
  · rw [chk_full h1] at h; exact absurd h (by decide)
  · refine ⟨by omega,?_⟩
    cases hf : fstE (entE L) L.length with
    | some i=>
      rw [chk_each h1 hf] at h
      exact absurd h (fstE_of_some hf).2.1
    | none=>exact fstE_of_none hf
theorem entE_mod {L : List Ent} {i : Nat} (hi : i < L.length) (h : entE L i = 0) : mErr L[i].1 = 0:=by
  by_cases hm : mErr L[i].1 = 0
  · exact hm
  · unfold entE at h
    rw [List.getElem?_eq_getElem hi] at h
    simp only at h
    rw [entW_bad hm] at h
    exact absurd h hm
theorem entE_ahead {L : List Ent} {k : Nat} (hk : k + 1 < L.length) (h : entE L (k + 1) = 0) : mAhead (L[k]'(by omega)).1 L[k + 1].1 = true:=by
  have hm:=entE_mod hk h
  rw [entE_1 hk] at h
  cases ha : mAhead (L[k]'(by omega)).1 L[k + 1].1
  · rw [entW_order hm ha] at h; exact absurd h (by decide)
  · rfl
theorem ahead_all {L : List Ent} (h : ∀ i,i < L.length -> entE L i = 0) : ∀ (d i : Nat) (hi : i + d + 1 < L.length),mAhead (L[i]'(by omega)).1 (L[i + d + 1]'hi).1 = true
  | 0,i,hi=>entE_ahead hi (h _ hi)
  | d + 1,i,hi=>mAhead_trans (ahead_all h d i (by omega)) (entE_ahead (k:=i + d + 1) hi (h _ hi))
structure Good (Q : List Raw) : Prop where
  ver : ∀ r,r ∈ Q -> verErr r.1.2.data.toList = 0
  path : ∀ r,r ∈ Q -> pathErr r.1.1.data.toList = 0
  one : ∀ i j (hi : i < Q.length) (hj : j < Q.length),Q[i].1 = Q[j].1 -> i = j
theorem mErr_zero {m : Bm} (h : mErr m = 0) : pathErr m.1.data.toList = 0 /\ verErr m.2.data.toList = 0:=by
  unfold mErr modErr at h
  by_cases h0 : pathErr m.1.data.toList = 0
  · rw [if_pos h0] at h
    by_cases h1 : verErr m.2.data.toList = 0
    · exact ⟨h0,h1⟩
    · rw [if_neg h1] at h; exact absurd h h1
  · rw [if_neg h0] at h; exact absurd h h0
abbrev vb (m : Bm) : List UInt8:=m.2.data.toList
structure Rt (m : Bm) : Prop where
  ok : mErr m = 0
  p : m.1.size < 999999
  v : m.2.size < 999999
theorem Rt.ver {m : Bm} (h : Rt m) : verErr (vb m) = 0:=(mErr_zero h.ok).2
def nfW (a b : Bm) : Prop:=lt a.1 b.1 = true \/ (a.1 = b.1 /\ ordV (vb b) (vb a) <= 0)
structure Jn (D E : List Bm) : Prop where
  ri : rising E
  sub : ∀ e,e ∈ E -> e ∈ D /\ mErr e = 0
  top : ∀ x,x ∈ D -> mErr x = 0 -> ∃ e,e ∈ E /\ e.1 = x.1 /\ ordV (vb x) (vb e) <= 0
theorem rising_same {E : List Bm} (h : rising E) {a b : Bm} (ha : a ∈ E) (hb : b ∈ E) (e : a.1 = b.1) : a = b:=by
  obtain ⟨i,hi,rfl⟩:=List.getElem_of_mem ha
  obtain ⟨j,hj,rfl⟩:=List.getElem_of_mem hb
  have hp:=List.pairwise_iff_getElem.1 h
  rcases Nat.lt_trichotomy i j with h1 | h1 | h1
  · have:=hp i j hi hj h1
    rw [e,lt_irrefl] at this; cases this
  · subst h1; rfl
  · have:=hp j i hj hi h1
    rw [e,lt_irrefl] at this; cases this
theorem rising_ext : ∀ {E F : List Bm},rising E -> rising F -> (∀ m,m ∈ E ↔ m ∈ F) -> E = F
  | [],[],_,_,_=>rfl
  | [],f :: F,_,_,h=>by have:=(h f).2 (by simp); cases this
  | e :: E,[],_,_,h=>by have:=(h e).1 (by simp); cases this
  | e :: E,f :: F,hE,hF,h=>by
    obtain ⟨hE1,hE2⟩:=List.pairwise_cons.1 hE
    obtain ⟨hF1,hF2⟩:=List.pairwise_cons.1 hF
    have hef : e = f:=by
      rcases List.mem_cons.1 ((h e).1 (by simp)) with a | a
      · exact a
      · rcases List.mem_cons.1 ((h f).2 (by simp)) with b | b
        · exact b.symm
        · have h1:=hF1 e a
          have h2:=hE1 f b
          rw [lt_asymm h1] at h2; cases h2
    subst hef
    have : E = F:=rising_ext hE2 hF2 fun m=>by
      constructor
      · intro hm
        rcases List.mem_cons.1 ((h m).1 (List.mem_cons_of_mem _ hm)) with a | a
        · subst a; have:=hE1 m hm; rw [lt_irrefl] at this; cases this
        · exact a
      · intro hm
        rcases List.mem_cons.1 ((h m).2 (List.mem_cons_of_mem _ hm)) with a | a
        · subst a; have:=hF1 m hm; rw [lt_irrefl] at this; cases this
        · exact a
    rw [this]
theorem ver_same {a b : Bm} (ha : mErr a = 0) (hb : mErr b = 0) (e : a.1 = b.1) (h1 : ordV (vb a) (vb b) <= 0) (h2 : ordV (vb b) (vb a) <= 0) : a = b:=by
  have h0 : ordV (vb a) (vb b) = 0:=by rw [ordV_swap (vb a) (vb b)] at h2; omega
  have:=(ordV_zero (mErr_zero ha).2 (mErr_zero hb).2).1 h0
  exact Prod.ext e (str_ext this)
theorem Jn.one {D D' E F : List Bm} (hE : Jn D E) (hF : Jn D' F) (h : ∀ m,mErr m = 0 -> (m ∈ D ↔ m ∈ D')) : E = F:=by
  refine rising_ext hE.ri hF.ri fun m=>?_
  have go : ∀ {D D' E F : List Bm},Jn D E -> Jn D' F -> (∀ m,mErr m = 0 -> (m ∈ D ↔ m ∈ D')) -> ∀ m,m ∈ E -> m ∈ F:=by
    intro D D' E F hE hF h m hm
    obtain ⟨h1,h2⟩:=hE.sub m hm
    obtain ⟨f,hf,e1,h3⟩:=hF.top m ((h m h2).1 h1) h2
    obtain ⟨h4,h5⟩:=hF.sub f hf
    obtain ⟨g,hg,e2,h6⟩:=hE.top f ((h f h5).2 h4) h5
    have hgm : g = m:=rising_same hE.ri hg hm (e2.trans e1)
    subst hgm
    rw [ver_same h2 h5 e1.symm h3 h6]; exact hf
  exact ⟨go hE hF h m,go hF hE (fun m hm=>(h m hm).symm) m⟩
def atP (B : List Bm) (p : ByteArray) : Option Bm:=B.find? fun x=>decide (x.1 = p)
def hasV (B : List Bm) (m : Bm) : Bool:=match atP B m.1 with
  | none=>false
  | some x=>!lessB (vb x) (vb m)
def undB (A B : List Bm) : Bool:=A.all (hasV B)
theorem atP_rising {E : List Bm} (h : rising E) {e : Bm} (he : e ∈ E) : atP E e.1 = some e:=by
  unfold atP
  cases hf : E.find? fun x=>decide (x.1 = e.1) with
  | none=>
    have:=List.find?_eq_none.1 hf e he
    simp at this
  | some x=>
    have h1:=List.find?_some hf
    have h2:=List.mem_of_find?_eq_some hf
    have h3 : x.1 = e.1:=by simpa using h1
    rw [rising_same h h2 he h3]
theorem hasV_rising {E : List Bm} (h : rising E) {e m : Bm} (he : e ∈ E) (hp : e.1 = m.1) : hasV E m = !lessB (vb e) (vb m):=by
  unfold hasV
  rw [<- hp,atP_rising h he]
theorem hasV_of {E : List Bm} (h : rising E) {e m : Bm} (he : e ∈ E) (hp : e.1 = m.1) (ho : ordV (vb m) (vb e) <= 0) : hasV E m = true:=by
  rw [hasV_rising h he hp]
  unfold lessB
  have : ¬ ordV (vb e) (vb m) < 0:=by rw [ordV_swap (vb m) (vb e)]; omega
  simp [this]
theorem Jn.over {D E A : List Bm} (h : Jn D E) (hA : ∀ m,m ∈ A -> m ∈ D /\ mErr m = 0) : undB A E = true:=by
  unfold undB
  rw [List.all_eq_true]
  intro m hm
  obtain ⟨h1,h2⟩:=hA m hm
  obtain ⟨e,he,e1,e2⟩:=h.top m h1 h2
  exact hasV_of h.ri he e1 e2
structure Mw (w0 W : World) (g : Nat) (D : List Bm) : Prop where
  bl : Below w0.heap.size w0 W
  lo : w0.heap.size <= g
  hi : g < W.heap.size
  fz : ∀ o,W.frozen? ⟨g,o,none⟩ = false
  c0 : ∀ j (h : j < D.length),W.cell? ⟨g,j * 2,none⟩ = some (.string D[j].1)
  c1 : ∀ j (h : j < D.length),W.cell? ⟨g,j * 2 + 1,none⟩ = some (.string D[j].2)
theorem Mw.below {w0 W W' : World} {g : Nat} {D : List Bm} (h : Mw w0 W g D) (hb : Below W.heap.size W W') : Mw w0 W' g D:=
  ⟨h.bl.trans (hb.mono h.bl.size),h.lo,Nat.lt_of_lt_of_le h.hi hb.size,fun o=>by rw [hb.frozen h.hi]; exact h.fz o,fun j hj=>cell_below hb (h.c0 j hj),fun j hj=>cell_below hb (h.c1 j hj)⟩
theorem Mw.at {w0 W : World} {g : Nat} {D : List Bm} (h : Mw w0 W g D) {j : Nat} {r : Bm} (hj : D[j]? = some r) :
    W.cell? ⟨g,j * 2,none⟩ = some (.string r.1) /\ W.cell? ⟨g,j * 2 + 1,none⟩ = some (.string r.2):=by
  obtain ⟨hl,rfl⟩:=List.getElem?_eq_some_iff.1 hj
  exact ⟨h.c0 j hl,h.c1 j hl⟩
def srtM (D : List Bm) : Prop:=D.Pairwise nfW
structure CpM (D : List Bm) (m : Nat) (E : List Bm) : Prop where
  ri : rising E
  sub : ∀ e,e ∈ E -> e ∈ D.take m
  top : ∀ x,x ∈ D.take m -> ∃ e,e ∈ E /\ e.1 = x.1 /\ ordV (vb x) (vb e) <= 0
  len : E.length <= m
theorem mem_take_at {D : List Bm} {m : Nat} {x : Bm} (h : x ∈ D.take m) : ∃ i,∃ hi : i < D.length,i < m /\ D[i] = x:=by
  obtain ⟨i,hi,e⟩:=List.mem_iff_getElem.1 h
  rw [List.getElem_take] at e
  simp at hi
  exact ⟨i,by omega,by omega,e⟩
theorem take_snocM {D : List Bm} {m : Nat} (hm : m < D.length) {x : Bm} : x ∈ D.take (m + 1) ↔ x ∈ D.take m \/ x = D[m]:=by
  rw [List.take_succ_eq_append_getElem hm,List.mem_append,List.mem_singleton]
theorem srt_strictM {D : List Bm} (hs : srtM D) {i k : Nat} (hik : i <= k) (hk : k + 1 < D.length) (hne : D[k + 1].1 ≠ (D[k]'(by omega)).1) : lt (D[i]'(by omega)).1 D[k + 1].1 = true:=by
  have hp:=List.pairwise_iff_getElem.1 hs
  have h2 : lt (D[k]'(by omega)).1 D[k + 1].1 = true:=by
    rcases hp k (k + 1) (by omega) hk (by omega) with h | ⟨e,_⟩
    · exact h
    · exact absurd e.symm hne
  rcases Nat.lt_or_ge i k with h | h
  · rcases hp i k (by omega) (by omega) h with h1 | ⟨e,_⟩
    · exact lt_trans h1 h2
    · rw [e]; exact h2
  · have : i = k:=by omega
    subst this; exact h2
theorem CpM.more {D E : List Bm} {m : Nat} (h : CpM D (m + 1) E) (hs : srtM D) (hr : ∀ r,r ∈ D -> Rt r) (hm : m + 1 < D.length) (he : D[m + 1].1 ≠ (D[m]'(by omega)).1) : CpM D (m + 1 + 1) (E ++ [D[m + 1]]):=by
  refine ⟨?_,fun e h1=>?_,fun x hx=>?_,by have:=h.len; simp; omega⟩
  · unfold rising
    rw [List.pairwise_append]
    refine ⟨h.ri,List.pairwise_singleton _ _,fun a ha b hb=>?_⟩
    rw [List.mem_singleton.1 hb]
    obtain ⟨i,hi,him,rfl⟩:=mem_take_at (h.sub a ha)
    exact srt_strictM hs (by omega) hm he
  · rcases List.mem_append.1 h1 with h1 | h1
    · exact (take_snocM hm).2 (Or.inl (h.sub e h1))
    · exact (take_snocM hm).2 (Or.inr (List.mem_singleton.1 h1))
  · rcases (take_snocM hm).1 hx with hx | rfl
    · obtain ⟨e,h1,h2⟩:=h.top x hx
      exact ⟨e,List.mem_append_left _ h1,h2⟩
    · have hv:=(hr D[m + 1] (List.getElem_mem hm)).ver
      exact ⟨D[m + 1],by simp,rfl,by rw [(ordV_zero hv hv).2 rfl]; omega⟩
def chkG (Q : List Raw) (L : List Ent) (roots : List Bm) : Nat × Option Nat:=if (chk Q L).1 ≠ 0 then chk Q L else (codeE (nonE Q roots) roots.length,fstE (nonE Q roots) roots.length)
theorem chkG_bad {Q : List Raw} {L : List Ent} {roots : List Bm} (h : (chk Q L).1 ≠ 0) : chkG Q L roots = chk Q L:=by unfold chkG; rw [if_pos h]
theorem chkG_ok {Q : List Raw} {L : List Ent} {roots : List Bm} (h : (chk Q L).1 = 0) : chkG Q L roots = (codeE (nonE Q roots) roots.length,fstE (nonE Q roots) roots.length):=by unfold chkG; rw [if_neg (by simp [h])]
theorem codeE_all {E : Nat -> Nat} {n : Nat} (h : codeE E n = 0) : ∀ j,j < n -> E j = 0:=by
  cases h1 : fstE E n with
  | none=>exact fstE_of_none h1
  | some i=>
    rw [codeE_some h1] at h
    exact absurd h (fstE_of_some h1).2.1
theorem nonE_found {w : World} {v : Value} {Q : List Raw} {L : List Ent} (I : Ixs w v Q L) {R : List Bm} (h : codeE (nonE Q R) R.length = 0) : ∀ m,m ∈ R -> m ∈ univ L:=fun m hm=>by
  obtain ⟨j,hj,rfl⟩:=List.getElem_of_mem hm
  have h1:=codeE_all h j hj
  rw [nonE_at hj] at h1
  unfold nonW at h1
  refine (found_iff I _).2 ?_
  rcases idx_nat (isM R[j]) Q with h2 | h2
  · rw [h2] at h1; simp at h1
  · exact h2
theorem chk_reqs0 {w : World} {v : Value} {Q : List Raw} {L : List Ent} (I : Ixs w v Q L) (h : (chk Q L).1 = 0) : ∀ m,m ∈ univ L -> ∀ x,x ∈ reqQ Q L m -> x ∈ univ L:=fun m hm x hx=>by
  have h100 : ¬ 100 < L.length:=by have:=(chk_each0 h).1; omega
  cases hf : fstE (entE L) L.length with
  | some i=>rw [chk_each h100 hf] at h; exact absurd h (fstE_of_some hf).2.1
  | none=>
    rw [chk_reqs h100 hf] at h
    obtain ⟨k,hk⟩:=(found_iff I m).1 hm
    obtain ⟨hkq,-⟩:=idx_is hk
    have hkl : k < L.length:=by rw [<- I.ln]; exact hkq
    rw [reqQ_at hk hkl] at hx
    have:=codeE_all h k hkl
    rw [reqE2_at hkl] at this
    exact nonE_found I this x hx
set_option maxRecDepth 100000 in
set_option maxHeartbeats 2000000 in
theorem gcheck_any (Q : List Raw) (L : List Ent) (roots : List Bm) (v rv : Value) (A : Nat -> Addr) (m : Int) (w : World) (hn : L.length <= 1000) (hrn : roots.length <= 1000000) (sh : ∀ e,e ∈ L -> ShE e) (S : Te w A m) (I : Ixs w v Q L) (hr : MsAt w rv roots) :
    Calls Tryz.prog 66 #[v,rv] w fun e w'=>∃ x,e = .returned x /\ ErrAt w' A x (chkG Q L roots).1 (chkG Q L roots).2 /\ Below w.heap.size w w':=by
  have HCK:=hid (icheck_any Q L v A m w (by omega) sh S I)
  have HCM:=hid (fun W (h : Below w.heap.size w W)=>cmods_any Q roots v rv A m W (by rw [I.ln]; omega) hrn (S.below h) (I.es.below h) (hr.below h))
  obtain ⟨a,c,hv,-⟩:=id I.es
  subst hv
  obtain ⟨ra,rc,hrv,-⟩:=id hr
  subst hrv
  clear S I hr sh
  go_enter Tryz.func66,Tryz.ntmps66
  go_wp2_with fail
  refine HCK.out.mono ?_
  rintro e w1 ⟨x,rfl,he,hb⟩
  have HE:=hid he
  have HB:=hid hb
  clear hb
  rcases he.kind.symm with ⟨hc0,T,xa,rfl⟩ | ⟨hc0,rfl⟩
  · have HX:=hid (chkG_bad (roots:=roots) hc0)
    clear he hc0
    go_wp2_with fail
    go_ret
    exact ⟨_,rfl,by rw [HX.out]; exact HE.out,HB.out⟩
  · have HX:=hid (chkG_ok (roots:=roots) hc0)
    have HC2:=hid (HCM.out w1 HB.out)
    clear he hc0 HCM
    go_wp2_with fail
    refine HC2.out.mono ?_
    rintro e w2 ⟨y,rfl,he,hb⟩
    have HE2:=hid he
    have HB2:=hid (HB.out.trans (hb.mono HB.out.size))
    clear he hb
    go_wp2_with fail
    go_ret
    exact ⟨_,rfl,by rw [HX.out]; exact HE2.out,HB2.out⟩
def goQ (T : By) (Q : List Raw) : List Raw:=Q.filter fun r=>cameB T r.1
def goM (T : By) (Q : List Raw) : List Bm:=(goQ T Q).map fun r=>r.1
set_option maxRecDepth 100000 in
set_option maxHeartbeats 2000000 in
theorem reached_some (Q : List Raw) (L : List Ent) (roots : List Bm) (v rv : Value) (A : Nat -> Addr) (m : Int) (w : World) (hn : L.length <= 1000) (hrn : roots.length <= 1000000) (sh : ∀ e,e ∈ L -> ShE e) (S : Te w A m) (I : Ixs w v Q L) (hr : MsAt w rv roots) (h0 : (chkG Q L roots).1 = 0) :
    Calls Tryz.prog 60 #[v,rv] w fun e w'=>∃ u,e = .returned (.tuple #[u,.nilIface]) /\ ∃ T,Came (reqQ Q L) (univ L) roots T /\ w'.ownsRow w.heap.size 45 5 u (goQ T Q).length (flatR (goQ T Q)) /\ Below w.heap.size w w':=by
  have hc0 : (chk Q L).1 = 0:=by
    by_cases hc : (chk Q L).1 = 0
    · exact hc
    · rw [chkG_bad hc] at h0; exact absurd h0 hc
  have hru : ∀ m,m ∈ roots -> m ∈ univ L:=by rw [chkG_ok hc0] at h0; exact nonE_found I h0
  have HCK:=hid (gcheck_any Q L roots v rv A m w hn hrn sh S I hr)
  have hz : ∀ m,m ∈ univ L -> m.1.size <= maxLen /\ m.2.size <= maxLen:=fun m hm=>by
    obtain ⟨e,he,rfl⟩:=List.mem_map.1 hm
    have:=sh e he
    exact ⟨by have:=this.p; unfold maxLen; omega,by have:=this.v; unfold maxLen; omega⟩
  have HWK:=hid (fun W (h : Below w.heap.size w W)=>walk_any Q L roots v rv W hn hrn (I.below h) (hr.below h) hz (fun e he=>(sh e he).rn) hru (chk_reqs0 I hc0))
  obtain ⟨a,c,hv,-,hs,hcc⟩:=id I.es
  subst hv
  obtain ⟨ra,rc,hrv,-⟩:=id hr
  subst hrv
  obtain ⟨i0,hi0,hz0,hz1,hz2⟩:=info_parts infoEnt
  have HH0:=hid h0
  have HC:=hid hcc
  have HSL:=hid hs
  have HI:=hid I
  have HZ:=hid hz
  clear S I hr sh h0 hc0 hru hz hs hcc
  go_enter Tryz.func60,Tryz.ntmps60
  go_wp2_with fail
  refine HCK.out.mono ?_
  rintro e w1 ⟨x,rfl,he,hb⟩
  have HB:=hid hb
  have hx : x = .nilIface:=by
    rcases he.kind with ⟨_,h⟩ | ⟨h,_⟩
    · exact h
    · exact absurd HH0.out h
  subst hx
  clear hb he HCK
  go_wp2_with fail
  refine (HWK.out w1 HB.out).mono ?_
  rintro e w2 ⟨mb,rfl,T,hby,hsz,hcm,hb⟩
  have HBY:=hid hby
  have HSZ:=hid hsz
  have HCM:=hid hcm
  have HB2:=hid (HB.out.trans (hb.mono HB.out.size))
  clear hby hsz hcm hb HWK
  go_wp2_with fail
  go_loopw [8,22] (fun ov i wr=>∃ k : Nat,k <= Q.length /\ i = .int .i64 k /\ Hid (wr.ownsRow w2.heap.size 45 5 ov (goQ T (Q.take k)).length (flatR (goQ T (Q.take k)))) /\ Hid (Below w2.heap.size w2 wr)) (fun _ i _=>Q.length - (intOf i).toNat)
  case atStart=>exact ⟨0,Nat.zero_le _,rfl,hid (World.ownsRow_nil _ _ _ _),hid (Below.refl _ _)⟩
  case round=>
    obtain ⟨k,hk,rfl,HO,HBr⟩:=hrel
    by_cases hlt : k < Q.length
    · have HBw:=hid (HB2.out.trans (HBr.out.mono HB2.out.size))
      obtain ⟨eb,eo,ha,hce⟩:=HC.out (by intro h; rw [h] at hlt; simp at hlt)
      subst ha
      obtain ⟨y0,y1,y2,y3,y4⟩:=hce k hlt
      have x0:=cell_below HBw.out y0
      have x1:=cell_below HBw.out y1
      have x2:=cell_below HBw.out y2
      have x3:=cell_below HBw.out y3
      have x4:=cell_below HBw.out y4
      have hsl:=HSL.out Q[k] (List.getElem_mem hlt)
      have hkI : (k : Int) < (Q.length : Int):=by omega
      have HLT:=hid hlt
      have HQL:=hid (show Q.length <= 1000000 by have:=HI.out.ln; omega)
      have HY:=hid (fun h=>filter_yes hlt h (P:=fun r=>cameB T r.1))
      have HN:=hid (fun h=>filter_no hlt h (P:=fun r=>cameB T r.1))
      have HQZ:=hid (show Q[k].1.1.size <= maxLen /\ Q[k].1.2.size <= maxLen by
        obtain ⟨h1,h2⟩:=ixs_get HI.out hlt
        exact Eq.mpr (congrArg (fun m : Bm=>m.1.size <= maxLen /\ m.2.size <= maxLen) h2) (HZ.out _ (List.mem_map.2 ⟨L[k],List.getElem_mem h1,rfl⟩)))
      have HLN:=hid (show (goQ T (Q.take k)).length <= 1000 from Nat.le_trans (List.length_filter_le _ _) (by rw [List.length_take]; have:=HI.out.ln; omega))
      clear y0 y1 y2 y3 y4 hce
      generalize Q[k] = r at *
      obtain ⟨⟨p,q⟩,rv,pv,bk⟩:=r
      obtain ⟨⟨ra2,rn2,rc2,hrv⟩,pa,pn,pc,hpv⟩:=hsl
      simp only at hrv hpv
      subst hrv
      subst hpv
      have HBa:=hid ((Below.refl wr.heap.size wr).alloc (Nat.le_refl _) (.cells #[.string p,.string q,.slice ra2 rn2 rc2,.slice pa pn pc,.bool bk] 45))
      have HBB:=hid (HBr.out.trans (HBa.out.mono HBr.out.size))
      have HCA:=hid (came_any mb T (p,q) _ HQZ.out HSZ.out (HBY.out.below HBB.out))
      have HOa:=hid (HO.out.alloc (.cells #[.string p,.string q,.slice ra2 rn2 rc2,.slice pa pn pc,.bool bk] 45))
      clear hlt
      cases hp : cameB T (p,q) with
      | false=>
        rw [hp] at HCA
        have HN2:=hid (HN.out hp)
        clear hp
        go_wp2_with fail
        refine HCA.out.mono ?_
        rintro e w3 ⟨rfl,hb⟩
        have HB3:=hid (HBB.out.trans (hb.mono HBB.out.size))
        have HO3:=hid (owns_below HOa.out hb)
        clear hb
        go_wp2_with fail
        go_roundw
        case rel=>first | exact ⟨k + 1,HLT.out,nr_idx k,by unfold goQ; rw [HN2.out]; exact HO3,HB3⟩ | exact ⟨k + 1,HLT.out,nx_idx HLT.out HQL.out,by unfold goQ; rw [HN2.out]; exact HO3,HB3⟩
        case measure=>first | exact nr_meas HLT.out | exact nx_meas HLT.out HQL.out
      | true=>
        rw [hp] at HCA
        have HY2:=hid (HY.out hp)
        clear hp
        go_wp2_with fail
        refine HCA.out.mono ?_
        rintro e w3 ⟨rfl,hb⟩
        have HB3:=hid (HBB.out.trans (hb.mono HBB.out.size))
        have HO3:=hid (owns_below HOa.out hb)
        have HE1:=hid (show w3.heap[wr.heap.size]? = some (.cells #[.string p,.string q,.slice ra2 rn2 rc2,.slice pa pn pc,.bool bk] 45 (0,0)) by rw [hb.block _ (by simp)]; exact heap_alloc_new wr _)
        have z0 : w3.cell? ⟨wr.heap.size,0,none⟩ = some (.string p):=by rw [Lib.cell_of_heap HE1.out]; rfl
        have z1 : w3.cell? ⟨wr.heap.size,1,none⟩ = some (.string q):=by rw [Lib.cell_of_heap HE1.out]; rfl
        have z2 : w3.cell? ⟨wr.heap.size,2,none⟩ = some (.slice ra2 rn2 rc2):=by rw [Lib.cell_of_heap HE1.out]; rfl
        have z3 : w3.cell? ⟨wr.heap.size,3,none⟩ = some (.slice pa pn pc):=by rw [Lib.cell_of_heap HE1.out]; rfl
        have z4 : w3.cell? ⟨wr.heap.size,4,none⟩ = some (.bool bk):=by rw [Lib.cell_of_heap HE1.out]; rfl
        clear hb x0 x1 x2 x3 x4
        go_wp2_with (at_builtin; refine wpList_append_own _ rfl _ _ 22 rfl w2.heap.size 45 i0 _ 5 88 Tryz.underlying22 hi0 hz0 hz1 hz2 rfl (by decide) _ _ _ rfl (HO3.out.alloc _) ⟨w3.heap.size,0,none⟩ 1 1 [.string p,.string q,.slice ra2 rn2 rc2,.slice pa pn pc,.bool bk] rfl rfl ?c1 ?c2 ?c3 ?c4 ?c5 ?_)
        case c1=>exact World.news_of_block (cs:=#[.string p,.string q,.slice ra2 rn2 rc2,.slice pa pn pc,.bool bk]) (t:=45) (fr:=(0,0)) (heap_alloc_new w3 _)
        case c2=>
          intro u hu
          simp at hu
          rcases hu with rfl | rfl | rfl | rfl | rfl <;> rfl
        case c3=>have:=HLN.out; unfold maxLen; omega
        case c4=>have:=HLN.out; omega
        case c5=>have:=HB3.out.size; simp; omega
        intro v' w4 hown hgrow _
        have HR3:=hid (rel_app5 HB3.out.size HB3.out HO3.out (Below.refl _ _) hgrow)
        have HO4:=hid hown
        clear hown hgrow z0 z1 z2 z3 z4
        go_wp2_with fail
        go_roundw
        case rel=>first | exact ⟨k + 1,HLT.out,nr_idx k,hid (own_nextR (x:=((p,q),.slice ra2 rn2 rc2,.slice pa pn pc,bk)) HO4.out HY2.out),HR3⟩ | exact ⟨k + 1,HLT.out,nx_idx HLT.out HQL.out,hid (own_nextR (x:=((p,q),.slice ra2 rn2 rc2,.slice pa pn pc,bk)) HO4.out HY2.out),HR3⟩
        case measure=>first | exact nr_meas HLT.out | exact nx_meas HLT.out HQL.out
    · have HTR:=hid (show Q.take k = Q from List.take_of_length_le (by omega))
      rw [HTR.out] at HO
      have hkI : ¬ (k : Int) < (Q.length : Int):=by omega
      obtain ⟨oa,oc,hov⟩:=own_slN HO.out
      subst hov
      clear hlt
      go_wp2_with fail
      go_ret2
      exact ⟨_,rfl,T,HCM.out,own_baseN HO.out HB2.out.size,HB2.out.trans (HBr.out.mono HB2.out.size)⟩
end Ve
end Go.Proofs.YtlcffhadobhfkaaGreatDoor
