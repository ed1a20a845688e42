/-
  UpA UpB UpD
-/
import Derived.Deep.RegionHeldLaw
import Derived.Test.YtlcffhadobhfkaaGreatDoorMq3
import Derived.Test.YtlcffhadobhfkaaGreatDoorMq5
import Derived.Test.YtlcffhadobhfkaaGreatDoorMq6
import Derived.Test.YtlcffhadobhfkaaGreatDoorMq9
import Derived.Test.YtlcffhadobhfkaaGreatDoorMq11
import Derived.Test.YtlcffhadobhfkaaGreatDoorMq2
import Derived.Test.YtlcffhadobhfkaaGreatDoorMq18
import Derived.Test.YtlcffhadobhfkaaGreatDoorMq19
import Derived.Test.YtlcffhadobhfkaaGreatDoorMq20
import Derived.Test.YtlcffhadobhfkaaGreatDoorMq23
import Derived.Test.YtlcffhadobhfkaaGreatDoorMq32
import Derived.Test.YtlcffhadobhfkaaGreatDoorMq22
import Derived.Test.YtlcffhadobhfkaaGreatDoorMq45
import Derived.Test.YtlcffhadobhfkaaGreatDoorMq34
import Derived.Test.YtlcffhadobhfkaaGreatDoorMq37
import Derived.Test.YtlcffhadobhfkaaGreatDoorMq61
import Derived.Test.YtlcffhadobhfkaaGreatDoorMq73
import Derived.Test.YtlcffhadobhfkaaGreatDoorMq35
import Derived.Test.YtlcffhadobhfkaaGreatDoorMq36
import Derived.Test.YtlcffhadobhfkaaGreatDoorMq56
import Derived.Test.YtlcffhadobhfkaaGreatDoorMq17
import Derived.Test.YtlcffhadobhfkaaGreatDoorMq14
namespace Go.Proofs.YtlcffhadobhfkaaGreatDoor
open Go.RowKit Go.Maps
namespace Ve
theorem latL_next {Q : List Raw} {E : List Bm} {k : Nat} (h : k < E.length) : latL Q (E.take (k + 1)) = latL Q (E.take k) ++ [(E[k].1,latV Q E[k].1)]:=by
  unfold latL
  rw [List.take_succ_eq_append_getElem h,List.map_append]; rfl
theorem keep_grow {W3 W4 : World} {o : Obj} {b : Nat} {row : Option Nat} {x : Value} (hg : (W3.alloc o).grownBy W4 row) (hb : b < W3.heap.size) (hne : some b ≠ row) (hc : W3.cell? ⟨b,0,none⟩ = some x) : W4.cell? ⟨b,0,none⟩ = some x /\ Hid (b < W4.heap.size):=by
  have hl : b < (W3.alloc o).heap.size:=by simp; omega
  have h1:=((Below.refl W3.heap.size W3).alloc (Nat.le_refl _) o).block b hb
  have h2:=hg.block b hl hne
  refine ⟨?_,hid (Nat.lt_of_lt_of_le hl hg.size)⟩
  rw [World.cell?_of_block h2,World.cell?_of_block h1]; exact hc
def LatK (Q : List Raw) (E : List Bm) : Prop:=∀ x,x ∈ E -> ∃ X,KeptT Q x.1 X
set_option maxRecDepth 100000 in
set_option maxHeartbeats 4000000 in
theorem latest_row (Q : List Raw) (mods : List Bm) (v mv : Value) (A : Nat → Addr) (m : Int) (w : World) (hL : Q.length ≤ 1000) (hn : mods.length ≤ 1000) (hz : ∀ r, r ∈ Q → r.1.1.size ≤ 80 ∧ r.1.2.size ≤ 80) (S : Te w A m) (htab : Lib.TabIs Tryz.prog w powName .u64 Lib.pow10Tab) (hv : EsAt w v Q) (hm : MsAt w mv mods) :
    Calls Tryz.prog 88 #[v,mv] w fun e w'=>∃ u,e = .returned u /\ w'.ownsRow w.heap.size 25 2 u (latL Q mods).length (flatM (latL Q mods)) /\ LatK Q mods /\ Below w.heap.size w w':=by
  have HLA:=hid (fun t W (h : Below w.heap.size w W)=>latest_any Q t v (A 0) (A 1) m W hL hz (S.below h).vs (tab_below htab h) (hv.below h))
  have HM:=hid (fun W (h : Below w.heap.size w W)=>hm.below h)
  have HNM:=hid (show mods.length <= 1000000 by omega)
  have HN:=hid hn
  obtain ⟨i0,hi0,hz0,hz1,hz2⟩:=info_parts infoMod
  obtain ⟨va,vc,hv1,-⟩:=id hv
  subst hv1
  obtain ⟨ma,mc,hm1,-⟩:=id hm
  subst hm1
  clear hv hm S htab hz hn
  go_enter Tryz.func88,Tryz.ntmps88
  go_wp2_with fail
  go_loopw [5,10] (fun ov iv wr=>∃ i : Nat,i <= mods.length /\ iv = .int .i64 i /\ Hid (wr.ownsRow w.heap.size 25 2 ov (latL Q (mods.take i)).length (flatM (latL Q (mods.take i)))) /\ Hid (∀ j (h : j < mods.length),j < i -> ∃ X,KeptT Q mods[j].1 X) /\ Hid (Below w.heap.size w wr)) (fun _ iv _=>mods.length - (intOf iv).toNat)
  case atStart=>exact ⟨0,Nat.zero_le _,rfl,hid (World.ownsRow_nil _ _ _ _),hid (fun j _ hj=>absurd hj (Nat.not_lt_zero _)),hid (Below.refl _ _)⟩
  case round=>
    obtain ⟨i,hi,rfl,HOW,HK,HBr⟩:=hrel
    by_cases hlt : i < mods.length
    · have hiI:=ix_lt hlt
      have hii:=ix_pos i
      have HLI:=hid hlt
      obtain ⟨xb,xo,hxa,y0,y1⟩:=(HM.out _ HBr.out).cells hlt
      subst hxa
      have HST:=hid (latL_next (Q:=Q) hlt)
      have HSL:=hid (show (latL Q (mods.take i)).length <= 1000 by rw [latL_len]; exact Nat.le_trans (List.length_take_le' i mods) HN.out)
      have HKN:=hid (show (∃ X,KeptT Q mods[i].1 X) -> ∀ j (h : j < mods.length),j < i + 1 -> ∃ X,KeptT Q mods[j].1 X from fun h0 j h1 h2=>by
        rcases Nat.lt_or_ge j i with h | h
        · exact HK.out j h1 h
        · have : j = i:=by omega
          subst this; exact h0)
      generalize mods[i] = x at *
      obtain ⟨p,q⟩:=x
      simp only at y0 y1 HST HKN
      obtain ⟨SX,hSX⟩ : ∃ SX,latL Q (mods.take i) = SX:=⟨_,rfl⟩
      rw [hSX] at HOW HST HSL
      clear hSX hlt
      have HAl:=hid ((Below.refl wr.heap.size wr).alloc (Nat.le_refl _) (.cells #[.string p,.string q] 25))
      have HBa:=hid (HBr.out.trans (HAl.out.mono HBr.out.size))
      have HM0:=hid (heap_new wr (.cells #[.string p,.string q] 25))
      have HOa:=hid (HOW.out.alloc (.cells #[.string p,.string q] 25))
      have HNE:=hid (show some wr.heap.size ≠ u5.ownBlock from fun h=>Nat.lt_irrefl _ (own_lt HOW.out h.symm).1)
      go_wp2_with fail
      obtain ⟨wa,hwa⟩ : ∃ wa,wr.alloc (.cells #[.string p,.string q] 25) = wa:=⟨_,rfl⟩
      rw [hwa] at HAl HBa HM0 HOa ⊢
      have HSZ:=hid (show wr.heap.size < wa.heap.size from lt_of_blk HM0.out)
      clear hwa
      obtain ⟨m0,m1,mf⟩:=box2J HM0.out
      have HW:=hid (fun W' (hW : Below wa.heap.size wa W')=>HBa.out.trans (hW.mono HBa.out.size))
      have HT:=hid (fun W' (hW : Below wa.heap.size wa W')=>(show (fun W'=>W'.cell? ⟨wr.heap.size,0,none⟩ = some (.string p) /\ Hid (wr.heap.size < W'.heap.size)) W' from ⟨cell_below hW m0,hid (Nat.lt_of_lt_of_le HSZ.out hW.size)⟩))
      have HLP:=hid (fun W (h : Below w.heap.size w W)=>HLA.out p W h)
      go_region_held_law (fun W'=>W'.cell? ⟨wr.heap.size,0,none⟩ = some (.string p) /\ Hid (wr.heap.size < W'.heap.size)) (first | exact keep_grow HR9.out (HT.out _ HRa.out).2.out HNE.out (HT.out _ HRa.out).1 | exact HT.out _ (HRa.out.alloc HRa.out.size _) | exact HT.out _ HRa.out | exact HT.out _ (below_drawn _ 1)) (first
        | (go_at_call 131; refine (HLP.out _ (HW.out _ (below_drawn _ 1))).mono ?_; rintro e w3 ⟨X,rfl,hK,hb⟩; have HRa:=hid ((below_drawn wa 1).trans (hb.mono (Nat.le_refl _))); have HKX:=hid hK; have HLV:=hid (latV_of hK); clear hb hK)
        | (refine step_append_lies _ (by rfl) _ _ 23 (by rfl) w.heap.size 25 i0 _ 2 32 Tryz.underlying23 hi0 hz0 hz1 hz2 rfl (by decide) _ _ _ (by rfl) ((owns_below HOa.out HRa.out).alloc _) ⟨w3.heap.size,0,none⟩ 1 1 [.string p,.string (lastT X)] (by rfl) rfl (World.news_of_block (heap_new _ _)) (by intro u hu; simp at hu; rcases hu with rfl | rfl <;> rfl) (by decide) (Nat.le_trans (Nat.add_le_add_right HSL.out 1) (by unfold maxLen; decide)) (by have:=HSL.out; omega) (Nat.le_trans (HW.out _ HRa.out).size (by simp)) (w3.heap.size + 1) (by simp) ?_; intro g cap w4 hown hgrow hat hlt2; have HR9:=hid hgrow))
      all_goals
        have HB4:=hid (rel_app2 HBa.out.size HBa.out HOa.out HRa.out hgrow)
        have HO4:=hid (show w4.ownsRow w.heap.size 25 2 (.slice (some ⟨g,0,none⟩) (SX.length + 1) cap) (SX ++ [(p,latV Q p)]).length (flatM (SX ++ [(p,latV Q p)])) by rw [<- HLV.out,List.length_append,flatM_app]; exact hown)
        have HK4:=hid (HKN.out ⟨X,HKX.out⟩)
        clear hown hgrow hat hlt2 HR9 m0 m1 mf
        go_wp2_with fail
        go_roundw
        case rel=>first | exact ⟨i + 1,HLI.out,nr_idx i,hid (by rw [HST.out]; exact HO4.out),HK4,HB4⟩ | exact ⟨i + 1,HLI.out,nx_idx HLI.out HNM.out,hid (by rw [HST.out]; exact HO4.out),HK4,HB4⟩
        case measure=>first | exact nr_meas HLI.out | exact nx_meas HLI.out HNM.out
    · have hiI:=ix_nlt hlt
      have hie : i = mods.length:=Nat.le_antisymm hi (Nat.le_of_not_lt hlt)
      have HTA:=hid (show mods.take i = mods from List.take_of_length_le (by omega))
      rw [HTA.out] at HOW
      have HKA:=hid (show LatK Q mods from fun x hx=>by
        obtain ⟨j,hj,rfl⟩:=List.getElem_of_mem hx
        exact HK.out j hj (by omega))
      clear hlt
      go_wp2_with fail
      go_ret
      exact ⟨_,rfl,HOW.out,HKA.out,HBr.out⟩
theorem ms_one {W : World} {v : Value} {E F : List Bm} (hE : MsAt W v E) (hF : MsAt W v F) : E = F:=by
  obtain ⟨a,c,rfl,_,h1⟩:=hE
  obtain ⟨a',c',e,_,h2⟩:=hF
  injection e with e1 e2 e3
  subst e1
  refine List.ext_getElem e2 fun j hj hj'=>?_
  obtain ⟨b,o,rfl,k1⟩:=h1 (fun e=>by rw [e] at hj; exact absurd hj (Nat.not_lt_zero _))
  obtain ⟨b',o',e4,k2⟩:=h2 (fun e=>by rw [e] at hj'; exact absurd hj' (Nat.not_lt_zero _))
  injection e4 with e4
  injection e4 with e5 e6
  subst e5 e6
  have p1:=(k1 j hj).1
  have p2:=(k1 j hj).2
  rw [(k2 j hj').1] at p1
  rw [(k2 j hj').2] at p2
  injection p1 with p1
  injection p1 with p1
  injection p2 with p2
  injection p2 with p2
  exact Prod.ext p1.symm p2.symm
open Classical in
noncomputable def rdM (W : World) (v : Value) : List Bm:=if h : ∃ E,MsAt W v E then h.choose else []
theorem rdM_eq {W : World} {v : Value} {E : List Bm} (h : MsAt W v E) : rdM W v = E:=by
  have he : ∃ E,MsAt W v E:=⟨E,h⟩
  unfold rdM
  rw [dif_pos he]
  exact ms_one he.choose_spec h
theorem ms_single {W : World} {b : Nat} {x : Bm} {fr : Nat × Nat} (h : W.heap[b]? = some (.cells #[.string x.1,.string x.2] 25 fr)) : MsAt W (.slice (some ⟨b,0,none⟩) 1 1) [x]:=by
  refine ⟨_,1,rfl,Nat.le_refl _,fun _=>⟨b,0,rfl,fun j hj=>?_⟩⟩
  have : j = 0:=by simp at hj; exact hj
  subst this
  exact ⟨by rw [Lib.cell_of_heap h]; rfl,by rw [Lib.cell_of_heap h]; rfl⟩
theorem em_some (a : Addr) (n c : Nat) (D : List Bm) : Em (.slice (some a) n c) D:=fun a' c' e _=>by
  injection e with e1 e2 e3
  subst e1 e3
  exact Or.inr ⟨a,rfl⟩
set_option maxRecDepth 100000 in
set_option maxHeartbeats 2000000 in
theorem one_not (Q : List Raw) (L : List Ent) (roots : List Bm) (x : Bm) (v rv : Value) (A : Nat -> Addr) (m : Int) (w : World) (hn : L.length <= 1000) (hrn : roots.length <= 400) (sh : ∀ e,e ∈ L -> ShE e) (S : Te w A m) (I : Ixs w v Q L) (hr : MsAt w rv roots) (h0 : (chkG Q L roots).1 = 0) (hx : ¬ x ∈ univ L) :
    Calls Tryz.prog 42 #[v,rv,.agg #[.string x.1,.string x.2]] w fun e w'=>e = .returned (.tuple #[.slice none 0 0,errA A 5]) /\ Below w.heap.size w w':=by
  obtain ⟨p,q⟩:=x
  have HB0:=hid ((Below.refl w.heap.size w).alloc (Nat.le_refl _) (.cells #[.string p,.string q] 25))
  have HM0:=hid (heap_new w (.cells #[.string p,.string q] 25))
  have HBU:=hid (build_good Q L roots v rv A m _ hn (by omega) sh (S.below HB0.out) (I.below HB0.out) (hr.below HB0.out) h0)
  have HFI:=hid (fun W (h : Below w.heap.size w W)=>find_any Q (p,q) v W (by rw [I.ln]; omega) (I.below h).es)
  obtain ⟨k,hk,hkn⟩ : ∃ k,idxOf (isM (p,q)) Q = k /\ k < 0:=by
    rcases idx_nat (isM (p,q)) Q with h1 | ⟨k,h1⟩
    · exact ⟨_,h1,by omega⟩
    · exact absurd ((found_iff I (p,q)).2 ⟨k,h1⟩) hx
  rw [hk] at HFI
  have HS:=hid (fun W (h : Below w.heap.size w W)=>S.below h)
  obtain ⟨a,c,hv,-⟩:=id I.es
  subst hv
  obtain ⟨ra,rc,hrv,-⟩:=id hr
  subst hrv
  clear S I hr sh h0 hx hk
  go_enter Tryz.func42,Tryz.ntmps42
  go_wp2_with fail
  refine HBU.out.mono ?_
  rintro e w1 ⟨u,E,rfl,-,hm⟩
  have HB1:=hid (HB0.out.trans (hm.1.mono HB0.out.size))
  have HM1:=hid ((hm.1.block _ (lt_of_blk HM0.out)).trans HM0.out)
  obtain ⟨ua,uc,hu⟩:=hm.sl
  subst hu
  obtain ⟨m0,m1,mf⟩:=box2J HM1.out
  clear hm HBU
  go_wp2_with fail
  refine (HFI.out _ HB1.out).mono ?_
  rintro e w2 ⟨rfl,hb⟩
  have HB2:=hid (HB1.out.trans (hb.mono HB1.out.size))
  have g4:=(HS.out _ HB2.out).sen.g4
  clear hb m0 m1 mf
  go_wp2_with fail
  go_quiet (fail)
  go_wp2_with fail
  go_ret2
  exact ⟨rfl,below_drawn_of HB2.out _⟩
set_option maxRecDepth 100000 in
set_option maxHeartbeats 4000000 in
theorem one_good (Q : List Raw) (L : List Ent) (roots : List Bm) (x : Bm) (v rv : Value) (A : Nat -> Addr) (m : Int) (w : World) (hn : L.length <= 1000) (hrn : roots.length <= 400) (sh : ∀ e,e ∈ L -> ShE e) (S : Te w A m) (I : Ixs w v Q L) (hr : MsAt w rv roots) (her : Em rv roots) (h0 : (chkG Q L roots).1 = 0) (hx : x ∈ univ L) :
    Calls Tryz.prog 42 #[v,rv,.agg #[.string x.1,.string x.2]] w fun e w'=>∃ a c,e = .returned (.tuple #[.slice a (bX Q L (roots ++ [x])).length c,.nilIface]) /\ Mr w w' (.slice a (bX Q L (roots ++ [x])).length c) (bX Q L (roots ++ [x])):=by
  have hg : (chkG Q L (roots ++ [x])).1 = 0:=chkG_in I (chkG_chk h0) fun y hy=>by
    rcases List.mem_append.1 hy with h | h
    · exact (rgt_of I h0).r y h
    · rw [List.mem_singleton.1 h]; exact hx
  obtain ⟨p,q⟩:=x
  have HB0:=hid ((Below.refl w.heap.size w).alloc (Nat.le_refl _) (.cells #[.string p,.string q] 25))
  have HM0:=hid (heap_new w (.cells #[.string p,.string q] 25))
  have HBU:=hid (build_good Q L roots v rv A m _ hn (by omega) sh (S.below HB0.out) (I.below HB0.out) (hr.below HB0.out) h0)
  have HFI:=hid (fun W (h : Below w.heap.size w W)=>find_any Q (p,q) v W (by rw [I.ln]; omega) (I.below h).es)
  obtain ⟨k,hk⟩:=(found_iff I (p,q)).1 hx
  rw [hk] at HFI
  have hk0 : ¬ (k : Int) < 0:=by omega
  have HB2:=hid (fun W u (h : Below w.heap.size w W) (hu : MsAt W u (roots ++ [(p,q)]))=>build_all Q L (roots ++ [(p,q)]) v u A m W hn (by simp; omega) sh (S.below h) (I.below h) hu)
  rw [rF_good hg] at HB2
  have HR:=hid (fun W (h : Below w.heap.size w W)=>hr.below h)
  have HER:=hid her
  obtain ⟨a,c,hv,-⟩:=id I.es
  subst hv
  obtain ⟨ra,rc,hrv,-⟩:=id hr
  subst hrv
  clear S I hr sh h0 hx hk her hg
  go_enter Tryz.func42,Tryz.ntmps42
  go_wp2_with fail
  refine HBU.out.mono ?_
  rintro e w1 ⟨u,E,rfl,-,hm⟩
  have HB1:=hid (HB0.out.trans (hm.1.mono HB0.out.size))
  have HM1:=hid ((hm.1.block _ (lt_of_blk HM0.out)).trans HM0.out)
  obtain ⟨ua,uc,hu⟩:=hm.sl
  subst hu
  obtain ⟨m0,m1,mf⟩:=box2J HM1.out
  clear hm HBU
  go_wp2_with fail
  refine (HFI.out _ HB1.out).mono ?_
  rintro e w2 ⟨rfl,hb⟩
  have HBb:=hid (HB1.out.trans (hb.mono HB1.out.size))
  have HM2:=hid ((hb.block _ (lt_of_blk HM1.out)).trans HM1.out)
  clear hb m0 m1 mf
  obtain ⟨m0,m1,mf⟩:=box2J HM2.out
  have HA3:=hid ((Below.refl w2.heap.size w2).alloc (Nat.le_refl _) (.cells #[.string p,.string q] 25))
  have HN3:=hid (heap_new w2 (.cells #[.string p,.string q] 25))
  have HA4:=hid (HA3.out.alloc HA3.out.size (.cells #[.slice ra roots.length rc,.slice (some ⟨w2.heap.size,0,none⟩) 1 1] 23))
  have HN4:=hid (heap_old _ (.cells #[.slice ra roots.length rc,.slice (some ⟨w2.heap.size,0,none⟩) 1 1] 23) HN3.out)
  have HL4:=hid (heap_new (w2.alloc (.cells #[.string p,.string q] 25)) (.cells #[.slice ra roots.length rc,.slice (some ⟨w2.heap.size,0,none⟩) 1 1] 23))
  have hsz : (w2.alloc (.cells #[.string p,.string q] 25)).heap.size = w2.heap.size + 1:=by simp
  rw [hsz] at HL4
  go_wp2_with fail
  generalize (w2.alloc (.cells #[.string p,.string q] 25)).alloc (.cells #[.slice ra roots.length rc,.slice (some ⟨w2.heap.size,0,none⟩) 1 1] 23) = w4 at *
  have HB4:=hid (HBb.out.trans (HA4.out.mono HBb.out.size))
  have HCT:=hid (cat_any roots [(p,q)] (.slice ra roots.length rc) (.slice (some ⟨w2.heap.size,0,none⟩) 1 1) (w2.heap.size + 1) w4 (by rw [Lib.cell_of_heap HL4.out]; rfl) (by rw [Lib.cell_of_heap HL4.out]; rfl) (HR.out _ HB4.out) (ms_single HN4.out) HER.out (em_some _ _ _ _) (by omega) (by simp))
  clear m0 m1 mf HA3 HA4 HN3 HN4 HL4 hsz HM2 HM1 HM0
  refine HCT.out.mono ?_
  rintro e w5 ⟨cu,rfl,ho,hb⟩
  have HB5:=hid (HB4.out.trans (hb.mono HB4.out.size))
  have HBE:=hid (HB2.out w5 cu HB5.out (own_ms ho))
  obtain ⟨RX,hRX⟩ : ∃ RX,roots ++ [(p,q)] = RX:=⟨_,rfl⟩
  obtain ⟨BX,hBX⟩ : ∃ BX,bX Q L (roots ++ [(p,q)]) = BX:=⟨_,rfl⟩
  have HBX:=hid hBX
  rw [hBX] at HBE
  rw [hRX] at ho
  obtain ⟨ca,cc,hcu⟩:=own_slN ho
  subst hcu
  clear ho hb HCT HB2 hRX hBX
  go_wp2_with fail
  refine HBE.out.mono ?_
  rintro e w6 ⟨xa,xc,y,rfl,hm,he⟩
  have he : y = .nilIface:=he
  subst he
  have HMX:=hid (hm.base HB5.out)
  clear hm HBE
  go_wp2_with fail
  go_ret2
  have h:=HBX.out
  subst h
  exact ⟨_,_,rfl,HMX.out⟩
structure AllR (Q : List Raw) (L : List Ent) (roots E : List Bm) : Prop where
  fx : Fix Q L (bX Q L roots) E
  sl : Sl L E
  la : LatIn Q L E
  ov : undB (bX Q L roots) E = true
set_option maxRecDepth 100000 in
set_option maxHeartbeats 4000000 in
theorem all_good (Q : List Raw) (L : List Ent) (roots : List Bm) (v rv : Value) (A : Nat → Addr) (m : Int) (w : World) (hn : L.length ≤ 400) (hrn : roots.length ≤ 1000000) (hz : ∀ r, r ∈ Q → r.1.1.size ≤ 80 ∧ r.1.2.size ≤ 80) (sh : ∀ e, e ∈ L → ShE e) (S : Te w A m) (htab : Lib.TabIs Tryz.prog w powName .u64 Lib.pow10Tab) (I : Ixs w v Q L) (hr : MsAt w rv roots) (h0 : (chkG Q L roots).1 = 0) :
    Calls Tryz.prog 40 #[v,rv] w fun e w'=>∃ a c E,e = .returned (.tuple #[.slice a E.length c,.nilIface]) /\ Mr w w' (.slice a E.length c) E /\ AllR Q L roots E:=by
  have HC:=hid (chkG_chk h0)
  have HBU:=hid (build_all Q L roots v rv A m w (by omega) hrn sh S I hr)
  rw [rF_good h0] at HBU
  have HI:=hid (fun W (h : Below w.heap.size w W)=>I.below h)
  have HLR:=hid (fun E W u (h : Below w.heap.size w W) (hE : E.length <= L.length) (hu : MsAt W u E)=>latest_row Q E v u A m W (by rw [I.ln]; omega) (by omega) hz (S.below h) (tab_below htab h) (I.below h).es hu)
  have HLI:=hid (fun E (hE : Sl L E) (hK : LatK Q E)=>show LatIn Q L E from fun x hx=>by
    obtain ⟨X,hX⟩:=hK x hx
    exact lat_in I HC.out ⟨x,hE.un x hx,rfl⟩ hX)
  have HB2:=hid (fun E W u (hE : Sl L E) (hl : LatIn Q L E) (hEl : E.length <= L.length) (h : Below w.heap.size w W) (hu : MsAt W u (E ++ latL Q E))=>build_all Q L (E ++ latL Q E) v u A m W (by omega) (by rw [List.length_append,latL_len]; omega) sh (S.below h) (I.below h) hu)
  have HG2:=hid (fun E (hE : Sl L E) (hl : LatIn Q L E)=>rF_good (upG I HC.out hE hl))
  have HOV:=hid (fun E (hE : Sl L E) (hl : LatIn Q L E)=>up_over I HC.out hE hl)
  have HLN:=hid hn
  obtain ⟨a,c,hv,-⟩:=id I.es
  subst hv
  obtain ⟨ra,rc,hrv,-⟩:=id hr
  subst hrv
  have HB0:=hid (bX_sl Q L roots)
  have HBL:=hid (show (bX Q L roots).length <= L.length from bX_len)
  have HUR:=hid (undB_refl HC.out HB0.out)
  clear S I hr sh h0 htab hz
  go_enter Tryz.func40,Tryz.ntmps40
  go_wp2_with fail
  refine HBU.out.mono ?_
  rintro e w1 ⟨xa,xc,y,rfl,hm,he⟩
  have he : y = .nilIface:=he
  subst he
  have HM1:=hid hm
  clear hm HBU
  go_wp2_with fail
  go_loopw [6] (fun bv wr=>∃ E,Hid (Mr w wr bv E) /\ Hid (∃ n,E = upN Q L (bX Q L roots) n) /\ Hid (Sl L E) /\ Hid (E.length <= L.length) /\ Hid (undB (bX Q L roots) E = true)) (fun bv wr=>L.length - cntV L (rdM wr bv))
  case atStart=>exact ⟨_,HM1,hid ⟨0,rfl⟩,HB0,HBL,HUR⟩
  case round=>
    obtain ⟨E,HM,HNN,HSL,HEL,HUN⟩:=hrel
    have HRD:=hid (rdM_eq HM.out.ms)
    obtain ⟨ea,ec,hu6⟩:=HM.out.sl
    subst hu6
    have HLE:=hid (HLR.out E wr _ HM.out.1 HEL.out HM.out.ms)
    go_wp2_with fail
    refine HLE.out.mono ?_
    rintro e w2 ⟨lu,rfl,ho,hK,hb⟩
    have HLA:=hid (HLI.out E HSL.out hK)
    have HB2':=hid (HM.out.1.trans (hb.mono HM.out.1.size))
    have HML:=hid (mr_own ho hb)
    have HME:=hid (HM.out.below hb)
    obtain ⟨la,lc,hlu⟩:=HML.out.sl
    subst hlu
    clear ho hK hb HLE
    have HA3:=hid ((Below.refl w2.heap.size w2).alloc (Nat.le_refl _) (.cells #[.slice ea E.length ec,.slice la (latL Q E).length lc] 23))
    have HL3:=hid (heap_new w2 (.cells #[.slice ea E.length ec,.slice la (latL Q E).length lc] 23))
    go_wp2_with fail
    generalize w2.alloc (.cells #[.slice ea E.length ec,.slice la (latL Q E).length lc] 23) = w3 at *
    have HB3:=hid (HB2'.out.trans (HA3.out.mono HB2'.out.size))
    have HCT:=hid (cat_any E (latL Q E) _ _ w2.heap.size w3 (by rw [Lib.cell_of_heap HL3.out]; rfl) (by rw [Lib.cell_of_heap HL3.out]; rfl) (HME.out.ms.below HA3.out) (HML.out.ms.below HA3.out) HME.out.em HML.out.em (by have:=HEL.out; have:=HLN.out; omega) (by rw [latL_len]; have:=HEL.out; have:=HLN.out; omega))
    have HME3:=hid (HME.out.below HA3.out)
    clear HA3 HL3 HML HME
    refine HCT.out.mono ?_
    rintro e w4 ⟨cu,rfl,ho,hb⟩
    have HB4:=hid (HB3.out.trans (hb.mono HB3.out.size))
    have HBE:=hid (HB2.out E w4 cu HSL.out HLA.out HEL.out HB4.out (own_ms ho))
    rw [HG2.out E HSL.out HLA.out] at HBE
    have HME4:=hid (HME3.out.below hb)
    have HUF:=hid (show bX Q L (E ++ latL Q E) = upF Q L E from rfl)
    rw [HUF.out] at HBE
    obtain ⟨EL,hEL⟩ : ∃ EL,E ++ latL Q E = EL:=⟨_,rfl⟩
    rw [hEL] at ho
    obtain ⟨ca,cc,hcu⟩:=own_slN ho
    subst hcu
    clear ho hb HCT HME3 hEL HUF
    go_wp2_with fail
    refine HBE.out.mono ?_
    rintro e w5 ⟨na,nc,y,rfl,hm,he⟩
    have he : y = .nilIface:=he
    subst he
    have HMN:=hid (hm.base HB4.out)
    have HME5:=hid (HME4.out.below hm.1)
    have HSF:=hid (show Sl L (upF Q L E) from bX_sl _ _ _)
    have HFL:=hid (show (upF Q L E).length <= L.length from bX_len)
    have HOE:=hid (HOV.out E HSL.out HLA.out)
    have HEQ:=hid (eqS_any (upF Q L E) E _ _ w5 (by have:=HFL.out; have:=HLN.out; omega) HMN.out.ms HME5.out.ms)
    clear hm HBE HME4
    by_cases hF : upF Q L E = E
    · rw [decide_eq_true hF] at HEQ
      have HAR:=hid (show AllR Q L roots E from ⟨⟨HNN.out,hF⟩,HSL.out,HLA.out,HUN.out⟩)
      rw [hF] at HMN HEQ ⊢
      clear hF HSF HFL HOE
      go_wp2_with fail
      refine HEQ.out.mono ?_
      rintro e w6 ⟨rfl,hb⟩
      have HM6:=hid (HMN.out.below hb)
      clear hb
      go_wp2_with fail
      go_ret2
      exact ⟨_,_,E,rfl,HM6.out,HAR.out⟩
    · rw [decide_eq_false hF] at HEQ
      have HCN:=hid (cntV_lt HC.out HSL.out HSF.out HOE.out hF)
      have HN2:=hid (show ∃ n,upF Q L E = upN Q L (bX Q L roots) n by
        obtain ⟨n,hn⟩:=HNN.out
        exact ⟨n + 1,by rw [hn]; rfl⟩)
      have HU2:=hid (undB_trans HC.out HB0.out HSL.out HSF.out HUN.out HOE.out)
      have HCE:=hid (cntV_le L (upF Q L E))
      clear hF
      generalize upF Q L E = F at *
      go_wp2_with fail
      refine HEQ.out.mono ?_
      rintro e w6 ⟨rfl,hb⟩
      have HM6:=hid (HMN.out.below hb)
      clear hb
      go_wp2_with fail
      go_roundw
      case rel=>exact ⟨F,HM6,HN2,HSF,HFL,HU2⟩
      case measure=>
        show L.length - cntV L (rdM w6 _) < L.length - cntV L (rdM wr _)
        rw [rdM_eq HM6.out.ms,HRD.out]
        have h1:=HCN.out
        have h2:=HCE.out
        omega
noncomputable def newsL (Q : List Raw) (E : List Bm) : List Bm:=(E.filter fun m=>lessB (vb m) (latV Q m.1).data.toList).map fun m=>(m.1,latV Q m.1)
theorem latL_get {Q : List Raw} {E : List Bm} {i : Nat} (h : i < (latL Q E).length) (h' : i < E.length) : (latL Q E)[i] = (E[i].1,latV Q E[i].1):=by simp [latL]
theorem newsL_next {Q : List Raw} {E : List Bm} {k : Nat} (h : k < E.length) : newsL Q (E.take (k + 1)) = newsL Q (E.take k) ++ (if lessB (vb E[k]) (latV Q E[k].1).data.toList then [(E[k].1,latV Q E[k].1)] else []):=by
  unfold newsL
  rw [List.take_succ_eq_append_getElem h,List.filter_append,List.map_append]
  congr 1
  cases hb : lessB (vb E[k]) (latV Q E[k].1).data.toList <;> simp [hb]
theorem newsL_len (Q : List Raw) (E : List Bm) : (newsL Q E).length <= E.length:=by
  unfold newsL
  rw [List.length_map]
  exact List.length_filter_le _ _
theorem lat_sz {Q : List Raw} {t : ByteArray} {X : List ByteArray} (g : Good Q) (hz : ∀ r,r ∈ Q -> r.1.1.size <= 80 /\ r.1.2.size <= 80) (hK : KeptT Q t X) : (latV Q t).size <= 80:=by
  rw [<- latV_of hK]
  cases hX : X with
  | nil=>exact Nat.zero_le _
  | cons x s=>
    have hp : 0 < X.length:=by rw [hX]; simp
    rw [<- hX,lastT_get hp]
    obtain ⟨r,hr,e⟩:=kept_has g (R:=bestR (ofP t Q)) (fun r hr=>ofP_sub r (bestR_sub hr)) hK (x:=X[X.length - 1]) (List.getElem_mem _)
    rw [<- e]
    exact (hz r (ofP_sub r (bestR_sub hr))).2
set_option maxRecDepth 100000 in
set_option maxHeartbeats 4000000 in
theorem news_good (Q : List Raw) (L : List Ent) (sel : List Bm) (v sv : Value) (A : Nat → Addr) (m : Int) (w : World) (hn : L.length ≤ 1000) (hsn : sel.length ≤ 1000) (hz : ∀ r, r ∈ Q → r.1.1.size ≤ 80 ∧ r.1.2.size ≤ 80) (hsz : ∀ x, x ∈ sel → x.2.size < 999999) (sh : ∀ e, e ∈ L → ShE e) (S : Te w A m) (htab : Lib.TabIs Tryz.prog w powName .u64 Lib.pow10Tab) (I : Ixs w v Q L) (hs : MsAt w sv sel) (h0 : (chk Q L).1 = 0) (h1 : risB2 sel = true) :
    Calls Tryz.prog 41 #[v,sv] w fun e w'=>∃ u,e = .returned (.tuple #[u,.nilIface]) /\ w'.ownsRow w.heap.size 25 2 u (newsL Q sel).length (flatM (newsL Q sel)) /\ Below w.heap.size w w':=by
  have HCK:=hid (icheck_any Q L v A m w (by omega) sh S I)
  have HIS:=hid (fun W (h : Below w.heap.size w W)=>isSel_any sel sv W (hs.below h) (by omega))
  rw [h1] at HIS
  have HLR:=hid (fun W (h : Below w.heap.size w W)=>latest_row Q sel v sv A m W (by rw [I.ln]; omega) hsn hz (S.below h) (tab_below htab h) (I.below h).es (hs.below h))
  have HLZ:=hid (fun (hK : LatK Q sel) (x : Bm) (hx : x ∈ sel)=>show (latV Q x.1).size < 999999 by
    obtain ⟨X,hX⟩:=hK x hx
    have:=lat_sz (good_of I h0) hz hX
    omega)
  have HLS:=hid (fun (s t : ByteArray) W (h : Below w.heap.size w W) (h1 : s.size < 999999) (h2 : t.size < 999999)=>less_any s t (A 0) (A 1) m W h1 h2 (S.below h).vs)
  have HMS:=hid (fun W (h : Below w.heap.size w W)=>hs.below h)
  have HSZ:=hid hsz
  have HSN:=hid (show sel.length <= 1000000 by omega)
  have HSL:=hid hsn
  obtain ⟨i0,hi0,hz0,hz1,hz2⟩:=info_parts infoMod
  obtain ⟨a,c,hv,-⟩:=id I.es
  subst hv
  obtain ⟨sa,sc,hsv,-⟩:=id hs
  subst hsv
  clear S I hs sh h1 htab hz hsz
  go_enter Tryz.func41,Tryz.ntmps41
  go_wp2_with fail
  refine HCK.out.mono ?_
  rintro e w1 ⟨x,rfl,he,hb⟩
  have HB1:=hid hb
  rcases he.kind with ⟨_,rfl⟩ | ⟨h,_⟩
  rotate_left
  · exact absurd h0 h
  clear he hb HCK h0
  go_wp2_with fail
  refine (HIS.out _ HB1.out).mono ?_
  rintro e w2 ⟨rfl,hb⟩
  have HB2:=hid (HB1.out.trans (hb.mono HB1.out.size))
  clear hb
  go_wp2_with fail
  refine (HLR.out _ HB2.out).mono ?_
  rintro e w3 ⟨lu,rfl,ho,hK,hb⟩
  have HB3:=hid (HB2.out.trans (hb.mono HB2.out.size))
  have HML:=hid (own_ms ho)
  have HKZ:=hid (HLZ.out hK)
  obtain ⟨la,lc,hlu⟩:=own_slN ho
  subst hlu
  clear hb ho hK HLR HIS HLZ
  have HYL:=hid (latL_len Q sel)
  have HYG:=hid (fun (i : Nat) (h : i < (latL Q sel).length) (h' : i < sel.length)=>latL_get (Q:=Q) h h')
  obtain ⟨Y,HY⟩ : ∃ Y,Hid (latL Q sel = Y):=⟨_,hid rfl⟩
  rw [HY.out] at HML HYL HYG ⊢
  clear HY
  go_wp2_with fail
  go_loopw [7,23] (fun ov iv wr=>∃ i : Nat,i <= Y.length /\ iv = .int .i64 i /\ Hid (wr.ownsRow w3.heap.size 25 2 ov (newsL Q (sel.take i)).length (flatM (newsL Q (sel.take i)))) /\ Hid (Below w3.heap.size w3 wr)) (fun _ iv _=>Y.length - (intOf iv).toNat)
  case atStart=>exact ⟨0,Nat.zero_le _,rfl,hid (World.ownsRow_nil _ _ _ _),hid (Below.refl _ _)⟩
  case round=>
    obtain ⟨i,hi,rfl,HOW,HBr⟩:=hrel
    have HBw:=hid (HB3.out.trans (HBr.out.mono HB3.out.size))
    by_cases hlt : i < Y.length
    · have hls : i < sel.length:=by rw [<- HYL.out]; exact hlt
      have hiI:=ix_lt hlt
      have hsI:=ix_lt hls
      have hii:=ix_pos i
      have HLI:=hid hlt
      have HYM:=hid (show Y.length <= 1000000 by rw [HYL.out]; exact HSN.out)
      obtain ⟨xb,xo,hxa,x0,x1⟩:=(HML.out.below HBr.out).cells hlt
      subst hxa
      obtain ⟨yb,yo,hya,y0,y1⟩:=(HMS.out _ HBw.out).cells hls
      subst hya
      rw [HYG.out i hlt hls] at x0 x1
      have HNX:=hid (newsL_next (Q:=Q) hls)
      have HPZ:=hid (HKZ.out sel[i] (List.getElem_mem hls))
      have HQZ:=hid (HSZ.out sel[i] (List.getElem_mem hls))
      have HNL:=hid (show (newsL Q (sel.take i)).length <= 1000 from Nat.le_trans (newsL_len Q _) (Nat.le_trans (List.length_take_le' i sel) HSL.out))
      generalize sel[i] = x at *
      obtain ⟨p,q⟩:=x
      simp only at x0 x1 y0 y1 HNX HPZ HQZ
      generalize latV Q p = lv at *
      obtain ⟨SX,hSX⟩ : ∃ SX,newsL Q (sel.take i) = SX:=⟨_,rfl⟩
      rw [hSX] at HOW HNX HNL
      clear hSX hlt hls
      have HAl:=hid ((Below.refl wr.heap.size wr).alloc (Nat.le_refl _) (.cells #[.string p,.string lv] 25))
      have HBa:=hid (HBr.out.trans (HAl.out.mono HBr.out.size))
      have HBv:=hid (HBw.out.trans (HAl.out.mono HBw.out.size))
      have HM0:=hid (heap_new wr (.cells #[.string p,.string lv] 25))
      have HOa:=hid (HOW.out.alloc (.cells #[.string p,.string lv] 25))
      have HLP:=hid (fun W (h : Below w.heap.size w W)=>HLS.out q lv W h HQZ.out HPZ.out)
      replace y1:=cell_below HAl.out y1
      go_wp2_with fail
      obtain ⟨wa,hwa⟩ : ∃ wa,wr.alloc (.cells #[.string p,.string lv] 25) = wa:=⟨_,rfl⟩
      rw [hwa] at HAl HBa HBv HM0 HOa y1 ⊢
      clear hwa
      obtain ⟨m0,m1,mf⟩:=box2J HM0.out
      have HW:=hid (fun W' (hW : Below wa.heap.size wa W')=>HBv.out.trans (hW.mono HBv.out.size))
      have HT:=hid (fun W' (hW : Below wa.heap.size wa W')=>(show (fun W'=>W'.cell? ⟨yb,yo + i * 2 + 1,none⟩ = some (.string q) /\ W'.cell? ⟨wr.heap.size,1,none⟩ = some (.string lv) /\ Hid (Below wa.heap.size wa W')) W' from ⟨cell_below hW y1,cell_below hW m1,hid hW⟩))
      change Hid (newsL Q (sel.take (i + 1)) = SX ++ if lessB q.data.toList lv.data.toList then [(p,lv)] else []) at HNX
      cases hle : lessB q.data.toList lv.data.toList with
      | false=>
        rw [hle] at HLP HNX
        have HN2:=hid (show newsL Q (sel.take (i + 1)) = SX by rw [HNX.out]; simp)
        clear hle
        go_region_held (fun W'=>W'.cell? ⟨yb,yo + i * 2 + 1,none⟩ = some (.string q) /\ W'.cell? ⟨wr.heap.size,1,none⟩ = some (.string lv) /\ Hid (Below wa.heap.size wa W')) (first | exact HT.out _ HRa.out | exact HT.out _ (below_drawn _ 1)) (first
          | (go_at_call 80; refine (HLP.out _ (HW.out _ (below_drawn _ 1))).mono ?_; rintro e w4 ⟨rfl,hb⟩; have HRa:=hid ((below_drawn wa 1).trans (hb.mono (Nat.le_refl _))); clear hb))
        all_goals
          have HB5:=hid (HBa.out.trans (HRa.out.mono HBa.out.size))
          have HO5:=hid (owns_below HOa.out HRa.out)
          go_wp2_with fail
          go_roundw
          case rel=>first | exact ⟨i + 1,HLI.out,nr_idx i,hid (by rw [HN2.out]; exact HO5.out),HB5⟩ | exact ⟨i + 1,HLI.out,nx_idx HLI.out HYM.out,hid (by rw [HN2.out]; exact HO5.out),HB5⟩
          case measure=>first | exact nr_meas HLI.out | exact nx_meas HLI.out HYM.out
      | true=>
        rw [hle] at HLP HNX
        have HN2:=hid (show newsL Q (sel.take (i + 1)) = SX ++ [(p,lv)] by rw [HNX.out]; simp)
        clear hle
        go_region_held (fun W'=>W'.cell? ⟨yb,yo + i * 2 + 1,none⟩ = some (.string q) /\ W'.cell? ⟨wr.heap.size,1,none⟩ = some (.string lv) /\ Hid (Below wa.heap.size wa W')) (first | exact HT.out _ HRa.out | exact HT.out _ (below_drawn _ 1)) (first
          | (go_at_call 80; refine (HLP.out _ (HW.out _ (below_drawn _ 1))).mono ?_; rintro e w4 ⟨rfl,hb⟩; have HRa:=hid ((below_drawn wa 1).trans (hb.mono (Nat.le_refl _))); clear hb))
        all_goals
          have HB5:=hid (HBa.out.trans (HRa.out.mono HBa.out.size))
          have HO5:=hid (owns_below HOa.out HRa.out)
          have n0:=cell_below HRa.out m0
          have n1:=cell_below HRa.out m1
          clear m0 m1 mf
          go_wp2_with (at_builtin; refine wpList_append_own _ rfl _ _ 23 rfl w3.heap.size 25 i0 _ 2 32 Tryz.underlying23 hi0 hz0 hz1 hz2 rfl (by decide) _ _ _ rfl (HO5.out.alloc _) ⟨w4.heap.size,0,none⟩ 1 1 [.string p,.string lv] rfl rfl (World.news_of_block (heap_new _ _)) (by intro u hu; simp at hu; rcases hu with rfl | rfl <;> rfl) (Nat.le_trans (Nat.add_le_add_right HNL.out 1) (by unfold maxLen; decide)) (by have hz:=HNL.out; omega) (Nat.le_trans HB5.out.size (by simp)) ?_)
          intro v' w6 hown hgrow _
          have HB6:=hid (rel_app2 HB5.out.size HB5.out HO5.out (Below.refl _ _) hgrow)
          have HO6:=hid (show w6.ownsRow w3.heap.size 25 2 v' (SX ++ [(p,lv)]).length (flatM (SX ++ [(p,lv)])) by rw [List.length_append,flatM_app]; exact hown)
          clear hown hgrow
          go_wp2_with fail
          go_roundw
          case rel=>first | exact ⟨i + 1,HLI.out,nr_idx i,hid (by rw [HN2.out]; exact HO6.out),HB6⟩ | exact ⟨i + 1,HLI.out,nx_idx HLI.out HYM.out,hid (by rw [HN2.out]; exact HO6.out),HB6⟩
          case measure=>first | exact nr_meas HLI.out | exact nx_meas HLI.out HYM.out
    · have hiI:=ix_nlt hlt
      have HTA:=hid (show sel.take i = sel from List.take_of_length_le (by have:=HYL.out; omega))
      rw [HTA.out] at HOW
      have HOF:=hid (own_base HOW.out HB3.out.size)
      obtain ⟨oa,oc,hov⟩:=own_slN HOW.out
      subst hov
      clear hlt
      go_wp2_with fail
      go_ret2
      exact ⟨_,rfl,HOF.out,HBw.out⟩
end Ve
end Go.Proofs.YtlcffhadobhfkaaGreatDoor
