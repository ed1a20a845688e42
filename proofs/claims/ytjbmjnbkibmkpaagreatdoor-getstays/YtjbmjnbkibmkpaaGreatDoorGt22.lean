
import Derived.Test.YtjbmjnbkibmkpaaGreatDoorGt21
import Derived.Test.YtjbmjnbkibmkpaaGreatDoorGt3
import Derived.Lib.SliceRun
import Derived.Test.YtjbmjnbkibmkpaaGreatDoorGt7
import Derived.Test.YtjbmjnbkibmkpaaGreatDoorGt9
set_option maxHeartbeats 8000000
namespace Go.Proofs.YtjbmjnbkibmkpaaGreatDoor
open Go.RowKit
namespace Ve
def ba (t : List UInt8) : ByteArray:=⟨t.toArray⟩
theorem ba_list (t : List UInt8) : (ba t).data.toList = t:=by simp [ba]
def CompactIs : Prop:=∀ (w0 W : World) (g cap : Nat) (D : List Rc),D ≠ [] -> D.length <= 1000 -> D.length <= cap -> cap <= maxLen -> srt D -> Rw w0 W g D ->
 Calls Tryz.prog 279 #[.slice (some ⟨g,0,none⟩) D.length cap,.func (.func 280) #[] #[]] W fun e w'=>∃ E : List Rc,e = .returned (.slice (some ⟨g,0,none⟩) E.length cap) /\ E.length <= D.length /\ rises (E.map (·.1)) /\ (∀ t,t ∈ E.map (·.1) ↔ t ∈ D.map (·.1)) /\ Rw w0 w' g E
theorem text_rc (r : Rc) (g : Nat) (aT aB : Addr) (m : Int) (w : World) (S : Vs w aT aB m) (htab : Lib.TabIs Tryz.prog w powName .u64 Lib.pow10Tab) (h : RcAt w g r) :
  Calls Tryz.prog 281 #[.agg #[.int .i64 (nAt r.1 0),.int .i64 (nAt r.1 1),.int .i64 (nAt r.1 2),r.2]] w fun e w'=>e = .returned (.string (ba r.1)) /\ Below w.heap.size w w':=by
 have hb:=text_back r.1 h.1
 have h0:=h.1
 obtain ⟨hl,hz⟩:=pre_small h
 have h5 : (strs (preOf r.1)).length <= 1000:=by
  rw [strs_len]
  have:=pre_len (l:=r.1)
  have:=h.2.1
  omega
 have hp : (preText (bl (strs (preOf r.1)))).length <= 1000000:=by
  have h2:=hb
  rw [bl_strs]
  rw [textOf_pre] at h2
  split at h2
  ·have h3:=congrArg List.length h2
   rw [List.length_append] at h3
   have:=h.2.1
   omega
  ·exfalso
   rw [<- h2] at h0
   revert h0
   decide
 refine (text_any _ _ _ (strs (preOf r.1)) r.2 aT aB m w S htab h5 hz hp ?_).mono fun e w' ⟨T,e1,e2,e3⟩=>⟨?_,e3⟩
 ·rcases h.2.2.1 with h | ⟨h1,b,h2,h3,h4⟩
  ·exact Or.inl h
  ·exact Or.inr ⟨h1,b,_,h2,Nat.le_refl _,h3,h4⟩
 ·rw [e1]
  congr 2
  apply str_ext
  rw [e2,bl_strs,hb,ba_list]
theorem infoParts : (Tryz.prog.info? 66).map (fun i=>(i.zero,i.size,i.bytes)) = some (some (.agg #[.int .i64 0,.int .i64 0,.int .i64 0,.slice none 0 0]),4,48):=by kernel_rfl
def goods (L : List ByteArray) : List (List UInt8):=(bl L).filter fun t=>decide (verErr t = 0)
theorem goods_snoc (L : List ByteArray) (k : Nat) (hk : k < L.length) : goods (L.take (k + 1)) = if verErr L[k].data.toList = 0 then goods (L.take k) ++ [L[k].data.toList] else goods (L.take k):=by
 unfold goods
 rw [bl_take_snoc L k hk,List.filter_append]
 by_cases h : verErr L[k].data.toList = 0
 ·rw [if_pos h]; simp [h]
 ·rw [if_neg h]; simp [h]
theorem kept_of {L : List ByteArray} {D E : List Rc} (hr : rises (E.map (·.1))) (hm : ∀ t,t ∈ E.map (·.1) ↔ t ∈ D.map (·.1)) (hD : ∀ t,t ∈ D.map (·.1) ↔ t ∈ goods L) : Kept L L.length (E.map fun r=>ba r.1):=by
 have e : bl (E.map fun r=>ba r.1) = E.map (·.1):=by
  unfold bl
  rw [List.map_map]
  refine List.map_congr_left fun r _=>?_
  exact ba_list r.1
 refine ⟨by rw [e]; exact hr,fun t=>?_⟩
 rw [e,hm,hD,List.take_length]
 unfold goods
 rw [List.mem_filter,decide_eq_true_iff]
set_option maxRecDepth 100000 in
theorem vsort_some (HCI : CompactIs) (HS0 : ∀ W : World,Calls Tryz.prog 278 #[.slice none 0 0,.func (.func 171) #[] #[]] W fun e w'=>e = .returned (.tuple #[]) /\ Below W.heap.size W w')
  (HC0 : ∀ W : World,Calls Tryz.prog 279 #[.slice none 0 0,.func (.func 280) #[] #[]] W fun e w'=>e = .returned (.slice none 0 0) /\ Below W.heap.size W w') (b0 o0 cap : Nat) (L : List ByteArray) (aT aB : Addr) (m : Int) (w : World) (S : Vs w aT aB m) (htab : Lib.TabIs Tryz.prog w powName .u64 Lib.pow10Tab) (hL : ∀ j (h : j < L.length),w.cell? ⟨b0,o0 + j,none⟩ = some (.string L[j])) (h12 : L.length <= 1000) (hz : ∀ x,x ∈ L -> x.size <= 80) :
  Calls Tryz.prog 240 #[.slice (some ⟨b0,o0,none⟩) L.length cap] w fun e w'=>∃ v X,e = .returned v /\ w'.ownsRow w.heap.size 9 1 v X.length (X.map Value.string) /\ Kept L L.length X /\ Below w.heap.size w w':=by
 obtain ⟨i0,hi,hz0,hz1,hz2⟩:=info_parts infoStr
 obtain ⟨i1,hi1,hy0,hy1,hy2⟩:=info_parts infoParts
 have HL:=hid hL
 have HZ:=hid hz
 have HS:=hid S
 have HTB:=hid htab
 have HCF:=hid HCI
 have HSN:=hid HS0
 have HCN:=hid HC0
 clear hL hz S htab HCI HS0 HC0
 go_enter Tryz.func240,Tryz.ntmps240
 go_wp2_with fail
 go_loopw [3,13] (fun v i wr=>∃ (k : Nat) (D : List Rc),k <= L.length /\ D.length <= k /\ i = .int .i64 k /\ Hid (D.map (·.1) = goods (L.take k)) /\ Hid (Fd w wr v D)) (fun _ i _=>L.length - (intOf i).toNat)
 case atStart=>exact ⟨0,[],Nat.zero_le _,Nat.le_refl _,rfl,hid rfl,hid ⟨World.ownsRow_nil _ _ _ _,fun _=>rfl,Below.refl _ _,fun r hr=>by cases hr⟩⟩
 case round=>
  obtain ⟨k,D,hk,hDk,rfl,HG,HF⟩:=hrel
  by_cases hkL : k < L.length
  ·have hcell:=cell_below HF.out.bl (HL.out k hkL)
   have hq80 : L[k].size <= 80:=HZ.out _ (List.getElem_mem hkL)
   have HGS:=hid (goods_snoc L k hkL)
   generalize L[k] = q at *
   have hkl : (k : Int) < (L.length : Int):=by omega
   have hk0 : (0 : Int) <= (k : Int):=by omega
   by_cases hv : verErr q.data.toList = 0
   ·have HSP:=hid (vsplit_is q aT aB m wr (by omega) (HS.out.below HF.out.bl) hv (strs (preOf q.data.toList)) (bl_strs _))
    rw [if_pos hv] at HGS
    have HV:=hid hv
    clear hv
    go_wp2_with fail
    refine HSP.out.mono ?_
    rintro e w1 ⟨pv,rfl,hst,hb1⟩
    obtain ⟨pa,na,ca,rfl⟩:=hst.slice
    have HF1:=hid (HF.out.below hb1)
    have HBP:=hid ((Below.refl w1.heap.size w1).alloc (Nat.le_refl _) (.cells #[.int .i64 (nAt q.data.toList 0),.int .i64 (nAt q.data.toList 1),.int .i64 (nAt q.data.toList 2),.slice pa na ca] 66))
    have HF2:=hid (HF1.out.below HBP.out)
    have HRR:=hid (show verErr q.data.toList = 0 /\ q.data.toList.length <= 80 /\ StrsAt (w1.alloc (.cells #[.int .i64 (nAt q.data.toList 0),.int .i64 (nAt q.data.toList 1),.int .i64 (nAt q.data.toList 2),.slice pa na ca] 66)) (.slice pa na ca) (strs (preOf q.data.toList)) from ⟨HV.out,by rw [len_eq]; exact hq80,hst.below HBP.out⟩)
    have hwz:=HF1.out.bl.size
    clear hst hb1 hcell
    go_wp2_with (at_builtin; refine wpList_append_own _ rfl _ _ 280 rfl w.heap.size 66 i1 (.agg #[.int .i64 0,.int .i64 0,.int .i64 0,.slice none 0 0]) 4 48 Tryz.underlying280 hi1 hy0 hy1 hy2 rfl (by decide) _ _ _ rfl (HF2.out.own.alloc _) ⟨w1.heap.size + 1,0,none⟩ 1 1 (rcells (q.data.toList,.slice pa na ca)) rfl rfl ?c1 ?c2 ?c3 ?c4 ?c5 ?_)
    case c1=>
     intro t u ht
     match t,ht with
     | 0,ht=>simp [rcells] at ht; subst ht; simp [Addr.add]
     | 1,ht=>simp [rcells] at ht; subst ht; simp [Addr.add]
     | 2,ht=>simp [rcells] at ht; subst ht; simp [Addr.add]
     | 3,ht=>simp [rcells] at ht; subst ht; simp [Addr.add]
     | t + 4,ht=>simp [rcells] at ht
    case c2=>intro u hu; simp [rcells] at hu; rcases hu with rfl | rfl | rfl | rfl <;> rfl
    case c3=>unfold maxLen; omega
    case c4=>omega
    case c5=>simp; omega
    intro v' w3 hown' hgrow _
    have HF3:=hid (HF2.out.more (r:=(q.data.toList,.slice pa na ca)) HRR.out hown' hgrow)
    have HG3:=hid (show (D ++ [((q.data.toList,.slice pa na ca) : Rc)]).map (·.1) = goods (L.take (k + 1)) by rw [HGS.out,List.map_append,HG.out]; rfl)
    clear hown' hgrow
    go_wp2_with fail
    go_roundw
    case rel=>exact ⟨k + 1,D ++ [(q.data.toList,.slice pa na ca)],by omega,by simp; omega,by go_num,HG3,HF3⟩
    case measure=>simp [intOf]; omega
   ·have HSP:=hid (vsplit_not q aT aB m wr (by omega) (HS.out.below HF.out.bl) hv)
    rw [if_neg hv] at HGS
    clear hv
    go_wp2_with fail
    refine HSP.out.mono ?_
    rintro e w1 ⟨a9,rfl,hb1⟩
    have HF1:=hid (HF.out.below hb1)
    have HF2:=hid (HF1.out.below ((Below.refl w1.heap.size w1).alloc (Nat.le_refl _) (.cells #[.int .i64 0,.int .i64 0,.int .i64 0,.slice none 0 0] 66)))
    clear hb1 hcell
    go_wp2_with fail
    go_roundw
    case rel=>exact ⟨k + 1,D,by omega,by omega,by go_num,hid (HG.out.trans HGS.out.symm),HF2⟩
    case measure=>simp [intOf]; omega
  ·obtain rfl : k = L.length:=by omega
   have HG2:=hid (show D.map (·.1) = goods L by rw [HG.out,List.take_length])
   by_cases hD : D = []
   ·subst hD
    obtain rfl:=HF.out.nl rfl
    go_wp2_with fail
    refine (HSN.out _).mono ?_
    rintro e w1 ⟨rfl,hb1⟩
    go_wp2_with fail
    refine (HCN.out _).mono ?_
    rintro e w2 ⟨rfl,hb2⟩
    have HB2:=hid (HF.out.bl.trans ((hb1.trans (hb2.mono hb1.size)).mono HF.out.bl.size))
    have HK0:=hid (kept_of (L:=L) (D:=[]) (E:=[]) List.Pairwise.nil (fun t=>Iff.rfl) (fun t=>by rw [HG2.out]))
    clear hb1 hb2
    go_wp2_with fail
    go_loop [8,35] (fun v i=>v = .slice none 0 0 /\ i = .int .i64 0) (fun _ _=>0)
    case atStart=>exact ⟨rfl,rfl⟩
    case round=>
     obtain ⟨rfl,rfl⟩:=hrel
     go_wp2_with fail
     go_ret
     exact ⟨_,rfl,[],World.ownsRow_nil _ _ _ _,HK0.out,HB2.out⟩
   ·obtain ⟨g,cp,rfl,hRw⟩:=HF.out.rw hD
    obtain ⟨_,_,_,_,_,hcp1,hcp2,_,_⟩:=own_cells HF.out.own hD
    have HR0:=hid hRw
    clear hRw
    go_wp2_with fail
    refine (sort_rw w wr g cp D hD (by omega) HR0.out).mono ?_
    rintro e w1 ⟨rfl,D1,hp1,hs1,hR1⟩
    have hl1 : D1.length = D.length:=hp1.length_eq
    have HD1:=hid (show ∀ t,t ∈ D1.map (·.1) ↔ t ∈ goods L from fun t=>by rw [<- HG2.out]; exact (hp1.map _).mem_iff)
    have HCC:=hid (HCF.out w w1 g cp D1 (fun e=>hD (by rw [e] at hl1; exact List.length_eq_zero_iff.1 hl1.symm)) (by omega) (by omega) (by omega) hs1 hR1)
    rw [hl1] at HCC
    clear hs1 hR1 hp1
    go_wp2_with fail
    refine HCC.out.mono ?_
    rintro e w2 ⟨E,rfl,hEl,hr,hm,hR2⟩
    have HR2:=hid hR2
    have HKE:=hid (kept_of hr hm HD1.out)
    clear hr hm hR2
    have HSB:=hid (fun W (h : Below w2.heap.size w2 W)=>HS.out.below (HR2.out.bl.trans (h.mono HR2.out.bl.size)))
    have HTB2:=hid (fun W (h : Below w2.heap.size w2 W)=>tab_below HTB.out (HR2.out.bl.trans (h.mono HR2.out.bl.size)))
    go_wp2_with fail
    go_loopw [8,35] (fun v i wr'=>∃ k : Nat,k <= E.length /\ i = .int .i64 k /\ Hid (wr'.ownsRow w2.heap.size 9 1 v k (((E.take k).map fun r=>ba r.1).map Value.string)) /\ Hid (Below w2.heap.size w2 wr')) (fun _ i _=>E.length - (intOf i).toNat)
    case atStart=>exact ⟨0,Nat.zero_le _,rfl,hid (World.ownsRow_nil _ _ _ _),hid (Below.refl _ _)⟩
    case round=>
     obtain ⟨k,hkE,rfl,HO,HB⟩:=hrel
     by_cases hkl : k < E.length
     ·have HRK:=hid (HR2.out.below HB.out)
      obtain ⟨y0,y1,y2,y3⟩:=HRK.out.at (j:=k) (r:=E[k]) (List.getElem?_eq_getElem hkl)
      have HRC:=hid (HRK.out.rc E[k] (List.getElem_mem hkl))
      have HTK:=hid (show ((E.take (k + 1)).map fun r=>ba r.1).map Value.string = ((E.take k).map fun r=>ba r.1).map Value.string ++ [.string (ba E[k].1)] by rw [List.take_succ_eq_append_getElem hkl,List.map_append,List.map_append]; rfl)
      obtain ⟨pa,na,ca,hpv⟩:=HRC.out.2.2.1.slice
      have HTX:=hid (fun W (h : Below wr.heap.size wr W)=>text_rc E[k] g aT aB m W (HSB.out W (HB.out.trans (h.mono HB.out.size))) (HTB2.out W (HB.out.trans (h.mono HB.out.size))) (HRC.out.below h))
      generalize E[k] = r at *
      rw [hpv] at y3 HTX
      generalize nAt r.1 0 = x0 at *
      generalize nAt r.1 1 = x1 at *
      generalize nAt r.1 2 = x2 at *
      generalize ba r.1 = tx at *
      have hk0 : (0 : Int) <= (k : Int):=by omega
      have hk1 : (k : Int) < (E.length : Int):=by omega
      have HBA:=hid ((Below.refl wr.heap.size wr).alloc (Nat.le_refl _) (.cells #[.int .i64 x0,.int .i64 x1,.int .i64 x2,.slice pa na ca] 66))
      have hwz:=HB.out.size
      have hE12 : E.length <= 1000:=by omega
      go_wp2_with fail
      refine (HTX.out _ HBA.out).mono ?_
      rintro e w3 ⟨rfl,hb3⟩
      have HB3:=hid (HBA.out.trans (hb3.mono HBA.out.size))
      have HO3:=hid (owns_below HO.out HB3.out)
      have HB4:=hid (HB.out.trans (HB3.out.mono HB.out.size))
      have hw3:=HB4.out.size
      clear hb3 y0 y1 y2 y3
      go_wp2_with (at_builtin; refine wpList_append_own _ rfl _ _ 26 rfl w2.heap.size 9 i0 (.string ByteArray.empty) 1 16 Tryz.underlying26 hi hz0 hz1 hz2 rfl (by decide) _ _ _ rfl (HO3.out.alloc _) ⟨w3.heap.size,0,none⟩ 1 1 [.string tx] rfl rfl ?c1 ?c2 ?c3 ?c4 ?c5 ?_)
      case c1=>
       intro t u ht
       match t,ht with
       | 0,ht=>simp at ht; subst ht; simp [Addr.add]
      case c2=>intro u hu; simp at hu; subst hu; rfl
      case c3=>unfold maxLen; omega
      case c4=>omega
      case c5=>simp; omega
      intro v' w4 hown' hgrow _
      have HR:=hid (rel_app hw3 HB4.out HO3.out (Below.refl _ _) hgrow)
      have HO4:=hid hown'
      clear hown' hgrow
      go_wp2_with fail
      go_roundw
      case rel=>exact ⟨k + 1,by omega,by go_num,hid (by rw [HTK.out]; simpa using HO4.out),HR⟩
      case measure=>simp [intOf]; omega
     ·obtain rfl : k = E.length:=by omega
      have HO2:=hid (show wr.ownsRow w.heap.size 9 1 u8 (E.map fun r=>ba r.1).length ((E.map fun r=>ba r.1).map Value.string) by
       have h:=owns_mono HO.out (HR2.out.bl.size)
       rw [List.take_length] at h
       rw [List.length_map]; exact h)
      have HBF:=hid (HR2.out.bl.trans (HB.out.mono HR2.out.bl.size))
      go_wp2_with fail
      go_ret
      exact ⟨u8,(E.map fun r=>ba r.1),rfl,HO2.out,HKE.out,HBF.out⟩
end Ve
end Go.Proofs.YtjbmjnbkibmkpaaGreatDoor


namespace Go.Proofs.YtjbmjnbkibmkpaaGreatDoor
namespace Ve
theorem srt_strict {D : List Rc} (hs : srt D) (hv : ∀ r,r ∈ D -> verErr r.1 = 0) {i k : Nat} (hik : i <= k) (hk : k + 1 < D.length) (hne : ordV D[k + 1].1 (D[k]'(by omega)).1 ≠ 0) : ordV (D[i]'(by omega)).1 D[k + 1].1 < 0:=by
 unfold srt at hs
 rw [List.pairwise_iff_getElem] at hs
 have hi : i < D.length:=by omega
 have hk' : k < D.length:=by omega
 have v1:=hv D[i] (List.getElem_mem hi)
 have v2:=hv D[k + 1] (List.getElem_mem hk)
 have v3:=hv D[k] (List.getElem_mem hk')
 have h1:=hs i (k + 1) hi hk (by omega)
 have h2:=hs k (k + 1) hk' hk (by omega)
 rcases ordV_range D[i].1 D[k + 1].1 with e | e | e
 ·omega
 ·exfalso
  have e1:=(ordV_zero v1 v2).1 e
  rcases Nat.lt_or_ge i k with h | h
  ·have h3:=hs i k hi hk' h
   rw [e1,ordV_swap D[k].1 D[k + 1].1] at h3
   have h4 : ordV D[k].1 D[k + 1].1 = 0:=by omega
   rw [ordV_swap D[k].1 D[k + 1].1] at hne
   omega
  ·have : i = k:=by omega
   subst this
   rw [ordV_swap D[i].1 D[i + 1].1,e] at hne
   exact hne rfl
 ·omega
structure Cp (D : List Rc) (m : Nat) (E : List Rc) : Prop where
 ri : rises (E.map (·.1))
 mem : ∀ t,t ∈ E.map (·.1) ↔ t ∈ (D.take m).map (·.1)
 len : E.length <= m
 sub : ∀ r,r ∈ E -> r ∈ D
theorem take_snoc' (D : List Rc) (m : Nat) (hm : m < D.length) : (D.take (m + 1)).map (·.1) = (D.take m).map (·.1) ++ [D[m].1]:=by
 rw [List.take_succ_eq_append_getElem hm,List.map_append]; rfl
theorem Cp.same {D E : List Rc} {m : Nat} (h : Cp D (m + 1) E) (hv : ∀ r,r ∈ D -> verErr r.1 = 0) (hm : m + 1 < D.length) (he : ordV D[m + 1].1 (D[m]'(by omega)).1 = 0) : Cp D (m + 1 + 1) E:=by
 have e1:=(ordV_zero (hv _ (List.getElem_mem hm)) (hv _ (List.getElem_mem (by omega)))).1 he
 refine ⟨h.ri,fun t=>?_,by have:=h.len; omega,h.sub⟩
 rw [h.mem,take_snoc' D (m + 1) hm,List.mem_append,List.mem_singleton]
 constructor
 ·exact Or.inl
 ·rintro (a | a)
  ·exact a
  ·rw [a,e1,take_snoc' D m (by omega),List.mem_append]
   exact Or.inr (by simp)
theorem Cp.more {D E : List Rc} {m : Nat} (h : Cp D (m + 1) E) (hs : srt D) (hv : ∀ r,r ∈ D -> verErr r.1 = 0) (hm : m + 1 < D.length) (he : ordV D[m + 1].1 (D[m]'(by omega)).1 ≠ 0) : Cp D (m + 1 + 1) (E ++ [D[m + 1]]):=by
 refine ⟨?_,fun t=>?_,by have:=h.len; simp; omega,fun r hr=>?_⟩
 ·unfold rises
  rw [List.map_append,List.pairwise_append]
  refine ⟨h.ri,List.pairwise_singleton _ _,fun a ha b hb=>?_⟩
  have hb' : b = D[m + 1].1:=by simpa using hb
  rw [hb']
  obtain ⟨r,hr,e⟩:=List.mem_map.1 ((h.mem a).1 ha)
  obtain ⟨i,hi,e2⟩:=List.mem_iff_getElem.1 hr
  rw [List.getElem_take] at e2
  simp at hi
  rw [<- e,<- e2]
  exact srt_strict hs hv (by omega) hm he
 ·rw [List.map_append,List.mem_append,h.mem,take_snoc' D (m + 1) hm,List.mem_append]
  simp
 ·rcases List.mem_append.1 hr with hr | hr
  ·exact h.sub r hr
  ·rw [List.mem_singleton.1 hr]; exact List.getElem_mem hm
theorem Cp.start {D : List Rc} (hD : 0 < D.length) : Cp D 1 (D.take 1):=by
 match D,hD with
 | r :: R,_=>exact ⟨List.pairwise_singleton _ _,fun t=>Iff.rfl,by simp,fun q hq=>List.mem_of_mem_take hq⟩
theorem Cp.plain {D : List Rc} {m : Nat} (h : Cp D (m + 1) (D.take (m + 1))) (hs : srt D) (hv : ∀ r,r ∈ D -> verErr r.1 = 0) (hm : m + 1 < D.length) (he : ordV D[m + 1].1 (D[m]'(by omega)).1 ≠ 0) : Cp D (m + 1 + 1) (D.take (m + 1 + 1)):=by
 have:=h.more hs hv hm he
 rw [List.take_succ_eq_append_getElem hm]
 exact this
end Ve
end Go.Proofs.YtjbmjnbkibmkpaaGreatDoor


namespace Go.Proofs.YtjbmjnbkibmkpaaGreatDoor
open Go.RowKit
namespace Ve
theorem RcAt.set {W : World} {g : Nat} {r : Rc} (h : RcAt W g r) (o : Nat) (vs : List Value) : RcAt (W.setCells g o vs) g r:=by
 refine ⟨h.1,h.2.1,?_,h.2.2.2⟩
 rcases h.2.2.1 with h0 | ⟨hne,b,e1,e2,e3⟩
 ·exact Or.inl h0
 ·have hbg : b ≠ g:=h.2.2.2 b 0 none _ _ e1
  refine Or.inr ⟨hne,b,e1,by rw [Go.Sort.size_setCells]; exact e2,fun j hj=>?_⟩
  rw [World.cell?_setCells_out g vs o W _ (fun e=>absurd e hbg)]
  exact e3 j hj
theorem setCells_below {w0 W : World} {g : Nat} (h : Below w0.heap.size w0 W) (hg : w0.heap.size <= g) : ∀ (vs : List Value) (o : Nat),Below w0.heap.size w0 (W.setCells g o vs):=by
 intro vs
 induction vs generalizing W with
 | nil=>intro o; exact h
 | cons v r ih=>intro o; exact ih (h.setCell hg v) (o + 1)
theorem Rw.cell {w0 W : World} {g : Nat} {D : List Rc} (h : Rw w0 W g D) (j : Nat) (hj : j < D.length) (c : Nat) (hc : c < 4) : W.cell? ⟨g,j * 4 + c,none⟩ = (rcells D[j])[c]?:=by
 match c,hc with
 | 0,_=>exact h.c0 j hj
 | 1,_=>exact h.c1 j hj
 | 2,_=>exact h.c2 j hj
 | 3,_=>exact h.c3 j hj
theorem Rw.of_cells {w0 W : World} {g : Nat} {D : List Rc} (h1 : Below w0.heap.size w0 W) (h2 : w0.heap.size <= g) (h3 : g < W.heap.size) (h4 : ∀ o,W.frozen? ⟨g,o,none⟩ = false) (h5 : ∀ r,r ∈ D -> RcAt W g r)
  (h : ∀ j (hj : j < D.length) c (_ : c < 4),W.cell? ⟨g,j * 4 + c,none⟩ = (rcells D[j])[c]?) : Rw w0 W g D:=
 ⟨h1,h2,h3,h4,h5,fun j hj=>h j hj 0 (by omega),fun j hj=>h j hj 1 (by omega),fun j hj=>h j hj 2 (by omega),fun j hj=>h j hj 3 (by omega)⟩
theorem Rw.setAt {w0 W : World} {g : Nat} {D : List Rc} (h : Rw w0 W g D) (i : Nat) (hi : i < D.length) (r : Rc) (hr : RcAt W g r) : Rw w0 (W.setCells g (i * 4) (rcells r)) g (D.set i r):=by
 refine Rw.of_cells (setCells_below h.bl h.lo _ _) h.lo (by rw [Go.Sort.size_setCells]; exact h.hi) (fun o=>by rw [World.frozen?_setCells]; exact h.fz o) (fun q hq=>?_) (fun j hj c hc=>?_)
 ·rcases List.mem_or_eq_of_mem_set hq with hq | hq
  ·exact (h.rc q hq).set _ _
  ·rw [hq]; exact hr.set _ _
 ·have hj' : j < D.length:=by simpa using hj
  by_cases e : j = i
  ·subst e
   have:=World.cell?_setCells_in g (rcells r) (j * 4) W (fun t ht=>by
    have h9 : t < 4:=ht
    rw [h.cell j hj' t h9]
    match t,h9 with
    | 0,_=>rfl
    | 1,_=>rfl
    | 2,_=>rfl
    | 3,_=>rfl) c hc
   rw [this]
   simp
   exact (List.getElem?_eq_getElem (show c < (rcells r).length from hc)).symm
  ·rw [World.cell?_setCells_out g (rcells r) (i * 4) W _ (fun _ _=>by
    show j * 4 + c < i * 4 \/ i * 4 + 4 <= j * 4 + c
    omega),h.cell j hj' c hc]
   rw [List.getElem_set_ne (by omega)]
theorem Rw.cleared {w0 W : World} {g : Nat} {D : List Rc} (h : Rw w0 W g D) (n : Nat) (hn : n <= D.length) (zs : List Value) : Rw w0 (W.setCells g (n * 4) zs) g (D.take n):=by
 refine Rw.of_cells (setCells_below h.bl h.lo _ _) h.lo (by rw [Go.Sort.size_setCells]; exact h.hi) (fun o=>by rw [World.frozen?_setCells]; exact h.fz o) (fun q hq=>(h.rc q (List.mem_of_mem_take hq)).set _ _) (fun j hj c hc=>?_)
 have hj' : j < n:=by simp at hj; omega
 rw [World.cell?_setCells_out g zs (n * 4) W _ (fun _ _=>Or.inl (by show j * 4 + c < n * 4; omega)),h.cell j (by omega) c hc,List.getElem_take]
theorem run_clear_rw {w0 W : World} {g : Nat} {D : List Rc} (h : Rw w0 W g D) (n : Nat) (hn : n < D.length) :
  ∃ zs,∀ ty c,(Builtin.clear_ #[280] ty #[.slice (some ⟨g,n * 4,none⟩) (D.length - n) c]).run Tryz.prog W = .ok (.tuple #[]) (W.setCells g (n * 4) zs):=by
 have hzl : (Builtin.zeroCells (Value.agg #[.int .i64 0,.int .i64 0,.int .i64 0,.slice none 0 0]).cells (D.length - n)).toList.length = (D.length - n) * 4:=by
  simp [Builtin.zeroCells,Value.cells]
 refine ⟨(Builtin.zeroCells (Value.agg #[.int .i64 0,.int .i64 0,.int .i64 0,.slice none 0 0]).cells (D.length - n)).toList,fun ty c=>?_⟩
 have hst:=run_storeCells_cells (P:=Tryz.prog) g (n * 4) (Builtin.zeroCells (Value.agg #[.int .i64 0,.int .i64 0,.int .i64 0,.slice none 0 0]).cells (D.length - n)).toList 0 W (fun j hj=>by
  rw [hzl] at hj
  have e : n * 4 + 0 + j = (n + j / 4) * 4 + j % 4:=by omega
  rw [e,h.cell (n + j / 4) (by omega) (j % 4) (by omega)]
  have h9 : j % 4 < 4:=by omega
  match j % 4,h9 with
  | 0,_=>rfl
  | 1,_=>rfl
  | 2,_=>rfl
  | 3,_=>rfl) (fun j _=>h.fz _) (fun v hv=>by
  simp only [Builtin.zeroCells,Value.cells] at hv
  simp at hv
  obtain ⟨t,_,rfl⟩:=hv
  have h9 : t % 4 < 4:=by omega
  match t % 4,h9 with
  | 0,_=>rfl
  | 1,_=>rfl
  | 2,_=>rfl
  | 3,_=>rfl)
 simp only [Nat.add_zero] at hst
 obtain ⟨m,hm⟩ : ∃ m,D.length - n = m + 1:=⟨D.length - n - 1,by omega⟩
 rw [hm] at hst ⊢
 have hu:=Tryz.underlying280
 have hv : ∀ w,(zeroValue 66).run Tryz.prog w = .ok (.agg #[.int .i64 0,.int .i64 0,.int .i64 0,.slice none 0 0]) w:=fun w=>Tryz.zeroValue66 w
 simp [Builtin.clear_,run_underlying hu,hv,hst]
end Ve
end Go.Proofs.YtjbmjnbkibmkpaaGreatDoor


namespace Go.Proofs.YtjbmjnbkibmkpaaGreatDoor
open Go.RowKit
namespace Ve
theorem same_rc (r q : Rc) (g : Nat) (W : World) (hr : RcAt W g r) (hq : RcAt W g q) :
  Calls Tryz.prog 280 #[.agg #[.int .i64 (nAt r.1 0),.int .i64 (nAt r.1 1),.int .i64 (nAt r.1 2),r.2],.agg #[.int .i64 (nAt q.1 0),.int .i64 (nAt q.1 1),.int .i64 (nAt q.1 2),q.2]] W
   fun e w'=>e = .returned (.bool (ordV r.1 q.1 == 0)) /\ Below W.heap.size W w':=by
 have HB0:=hid (((Below.refl W.heap.size W).alloc (Nat.le_refl _) (.cells #[.int .i64 (nAt r.1 0),.int .i64 (nAt r.1 1),.int .i64 (nAt r.1 2),r.2] 66)).alloc (by simp) (.cells #[.int .i64 (nAt q.1 0),.int .i64 (nAt q.1 1),.int .i64 (nAt q.1 2),q.2] 66))
 have HC:=hid (compare_rc r q g _ (hr.below HB0.out) (hq.below HB0.out))
 obtain ⟨pr,nr,cr,hrv⟩:=hr.2.2.1.slice
 obtain ⟨pq,nq,cq,hqv⟩:=hq.2.2.1.slice
 clear hr hq
 obtain ⟨tr,vr⟩:=r
 obtain ⟨tq,vq⟩:=q
 simp only at hrv hqv
 subst hrv hqv
 generalize ordV tr tq = od at *
 go_enter Tryz.func280,Tryz.ntmps280
 go_wp2_with fail
 refine HC.out.mono ?_
 rintro e w1 ⟨rfl,hb⟩
 have HB:=hid (HB0.out.trans (hb.mono HB0.out.size))
 clear hb
 go_wp2_with fail
 go_ret
 exact ⟨rfl,HB.out⟩
theorem compact_nil (W : World) : Calls Tryz.prog 279 #[.slice none 0 0,.func (.func 280) #[] #[]] W fun e w'=>e = .returned (.slice none 0 0) /\ Below W.heap.size W w':=by
 go_enter Tryz.func279,Tryz.ntmps279
 go_wp2_with fail
 go_ret
 exact ⟨rfl,Below.refl _ _⟩
set_option maxRecDepth 100000 in
theorem compact_rw (w0 w : World) (g cap : Nat) (D : List Rc) (hD : D ≠ []) (h12 : D.length <= 1000) (hc : D.length <= cap) (_hcm : cap <= maxLen) (hs : srt D) (hR : Rw w0 w g D) :
  Calls Tryz.prog 279 #[.slice (some ⟨g,0,none⟩) D.length cap,.func (.func 280) #[] #[]] w fun e w'=>∃ E : List Rc,e = .returned (.slice (some ⟨g,0,none⟩) E.length cap) /\ E.length <= D.length /\ rises (E.map (·.1)) /\ (∀ t,t ∈ E.map (·.1) ↔ t ∈ D.map (·.1)) /\ Rw w0 w' g E:=by
 have HR:=hid hR
 have HS:=hid hs
 have hpos : 0 < D.length:=List.length_pos_iff.2 hD
 clear hR hs hD
 by_cases h2 : D.length < 2
 ·have h2i : (D.length : Int) < 2:=by omega
  have HRI:=hid (show rises (D.map (·.1)) by
   match D,h2 with
   | [],_=>exact List.Pairwise.nil
   | [r],_=>exact List.pairwise_singleton _ _)
  go_enter Tryz.func279,Tryz.ntmps279
  go_wp2_with fail
  go_ret
  exact ⟨D,rfl,Nat.le_refl _,HRI.out,fun _=>Iff.rfl,HR.out⟩
 ·have h2i : ¬ (D.length : Int) < 2:=by omega
  go_enter Tryz.func279,Tryz.ntmps279
  go_wp2_with fail
  have HVV:=hid (show ∀ r,r ∈ D -> verErr r.1 = 0 from fun r hr=>(HR.out.rc r hr).1)
  go_loopw [5] (fun i wr=>∃ k : Nat,k + 1 <= D.length /\ i = .int .i64 ((k : Int) + 1) /\ Hid (Cp D (k + 1) (D.take (k + 1))) /\ Hid (Rw w0 wr g D)) (fun i _=>D.length - (intOf i).toNat)
  case atStart=>exact ⟨0,by omega,rfl,hid (Cp.start hpos),HR⟩
  case round=>
   obtain ⟨k,hk,rfl,HCP,HRW⟩:=hrel
   by_cases hkn : k + 1 < D.length
   ·have hi1 : (0 : Int) <= (k : Int) + 1:=by omega
    have hi2 : (k : Int) + 1 < (D.length : Int):=by omega
    have hi3 : (0 : Int) <= (k : Int):=by omega
    have hi4 : (k : Int) < (D.length : Int):=by omega
    have hi5 : (k : Int) + 1 - 1 = (k : Int):=by omega
    have hwp : IntKind.i64.wrap (k : Int) = (k : Int):=by rw [IntKind.wrap_i64]; omega
    have hwe : ((k : Int) + 1).toNat = k + 1:=by omega
    have hcap1 : (k : Int) + 1 <= (cap : Int):=by omega
    have hcap2 : (D.length : Int) <= (cap : Int):=by omega
    have HPL:=hid (fun h=>HCP.out.plain HS.out HVV.out hkn h)
    have HSA:=hid (fun h=>HCP.out.same HVV.out hkn h)
    have HY:=hid (HRW.out.rc D[k] (List.getElem_mem (by omega)))
    have HX:=hid (HRW.out.rc D[k + 1] (List.getElem_mem hkn))
    have hy2 : D[k]? = some D[k]:=List.getElem?_eq_getElem (by omega)
    have hx2 : D[k + 1]? = some D[k + 1]:=List.getElem?_eq_getElem hkn
    generalize D[k] = y at *
    generalize D[k + 1] = x at *
    obtain ⟨ty,vy⟩:=y
    obtain ⟨tx,vx⟩:=x
    obtain ⟨py,ny,cy,rfl⟩:=HY.out.2.2.1.slice
    obtain ⟨px,nx,cx,rfl⟩:=HX.out.2.2.1.slice
    have HCM:=hid (fun W (hr : RcAt W g (tx,.slice px nx cx)) (hq : RcAt W g (ty,.slice py ny cy))=>(show Calls Tryz.prog 280 #[.agg #[.int .i64 (nAt tx 0),.int .i64 (nAt tx 1),.int .i64 (nAt tx 2),.slice px nx cx],.agg #[.int .i64 (nAt ty 0),.int .i64 (nAt ty 1),.int .i64 (nAt ty 2),.slice py ny cy]] W
      fun e w'=>e = .returned (.bool (ordV tx ty == 0)) /\ Below W.heap.size W w' from same_rc (tx,.slice px nx cx) (ty,.slice py ny cy) g W hr hq))
    have HTW:=hid (fun (W : World) (h : Rw w0 W g D)=>(show W.cell? ⟨g,k * 4,none⟩ = some (.int .i64 (nAt ty 0)) /\ W.cell? ⟨g,k * 4 + 1,none⟩ = some (.int .i64 (nAt ty 1)) /\ W.cell? ⟨g,k * 4 + 2,none⟩ = some (.int .i64 (nAt ty 2)) /\ W.cell? ⟨g,k * 4 + 3,none⟩ = some (.slice py ny cy) /\ W.cell? ⟨g,(k + 1) * 4,none⟩ = some (.int .i64 (nAt tx 0)) /\ W.cell? ⟨g,(k + 1) * 4 + 1,none⟩ = some (.int .i64 (nAt tx 1)) /\ W.cell? ⟨g,(k + 1) * 4 + 2,none⟩ = some (.int .i64 (nAt tx 2)) /\ W.cell? ⟨g,(k + 1) * 4 + 3,none⟩ = some (.slice px nx cx) /\ Hid (Rw w0 W g D) from h.two hy2 hx2))
    obtain ⟨a0,a1,a2,a3,b0,b1,b2,b3,_⟩:=HTW.out _ HRW.out
    clear hy2 hx2
    by_cases hod : ordV tx ty = 0
    ·have HC2:=hid (HSA.out hod)
     rw [hod] at HCM
     clear hod
     go_wp2_with fail
     go_region_held (fun W=>W.cell? ⟨g,k * 4,none⟩ = some (.int .i64 (nAt ty 0)) /\ W.cell? ⟨g,k * 4 + 1,none⟩ = some (.int .i64 (nAt ty 1)) /\ W.cell? ⟨g,k * 4 + 2,none⟩ = some (.int .i64 (nAt ty 2)) /\ W.cell? ⟨g,k * 4 + 3,none⟩ = some (.slice py ny cy) /\ W.cell? ⟨g,(k + 1) * 4,none⟩ = some (.int .i64 (nAt tx 0)) /\ W.cell? ⟨g,(k + 1) * 4 + 1,none⟩ = some (.int .i64 (nAt tx 1)) /\ W.cell? ⟨g,(k + 1) * 4 + 2,none⟩ = some (.int .i64 (nAt tx 2)) /\ W.cell? ⟨g,(k + 1) * 4 + 3,none⟩ = some (.slice px nx cx) /\ Hid (Rw w0 W g D)) (first | exact HTW.out _ HRa.out | exact HTW.out _ (HRW.out.below (below_drawn _ 1))) (first
      | (go_at_call 280; refine (HCM.out _ ?_ ?_).mono ?_; exact HX.out.below (below_drawn _ 1); exact HY.out.below (below_drawn _ 1); rintro e w' ⟨rfl,hb⟩; have HRa:=hid ((HRW.out.below (below_drawn _ 1)).below hb); clear hb))
     all_goals
      have HN:=hid (show (D.take (k + 1)).length = k + 1 by simp; omega)
      clear a0 a1 a2 a3 b0 b1 b2 b3
      go_wp2_with fail
      go_loopw [5,7] (fun a b wr2=>∃ (j : Nat) (E : List Rc),a = .int .i64 (E.length : Int) /\ b = .int .i64 ((j : Int) + 1) /\ k + 1 + (j + 1) <= D.length /\ E.length <= k + 1 + j /\ Hid (Cp D (k + 1 + j + 1) E) /\ Hid (Rw w0 wr2 g (E ++ D.drop E.length))) (fun _ b _=>D.length - (intOf b).toNat)
      case atStart=>exact ⟨0,D.take (k + 1),by rw [HN.out]; rfl,rfl,by omega,by rw [HN.out]; omega,HC2,hid (by rw [HN.out,List.take_append_drop]; exact HRa.out)⟩
      case round=>
       obtain ⟨j,E,rfl,rfl,hjD,hEj,HCE,HRV⟩:=hrel
       have HAT:=hid (show ∀ i,E.length <= i -> (E ++ D.drop E.length)[i]? = D[i]? from fun i hi=>by rw [List.getElem?_append_right hi,List.getElem?_drop]; congr 1; omega)
       by_cases hj : k + 1 + (j + 1) < D.length
       ·have g1 : (0 : Int) <= (j : Int) + 1:=by omega
        have g2 : (j : Int) + 1 < ((D.length - (k + 1) : Nat) : Int):=by omega
        have g3 : (0 : Int) <= (j : Int):=by omega
        have g4 : (j : Int) < ((D.length - (k + 1) : Nat) : Int):=by omega
        have g5 : (j : Int) + 1 - 1 = (j : Int):=by omega
        have gwp : IntKind.i64.wrap (j : Int) = (j : Int):=by rw [IntKind.wrap_i64]; omega
        have gwe : ((j : Int) + 1).toNat = j + 1:=by omega
        have HMO:=hid (fun h=>HCE.out.more HS.out HVV.out hj h)
        have HSM:=hid (fun h=>HCE.out.same HVV.out hj h)
        have hv2 : (E ++ D.drop E.length)[k + 1 + j]? = some D[k + 1 + j]:=by rw [HAT.out _ hEj]; exact List.getElem?_eq_getElem (by omega)
        have hu2 : (E ++ D.drop E.length)[k + 1 + j + 1]? = some D[k + 1 + j + 1]:=by rw [HAT.out _ (by omega)]; exact List.getElem?_eq_getElem hj
        have HVY:=hid (HRV.out.rc D[k + 1 + j] (List.mem_of_getElem? hv2))
        have HVX:=hid (HRV.out.rc D[k + 1 + j + 1] (List.mem_of_getElem? hu2))
        have HUM:=hid (List.mem_of_getElem? hu2)
        generalize D[k + 1 + j] = y at *
        generalize D[k + 1 + j + 1] = x at *
        obtain ⟨sy,vy⟩:=y
        obtain ⟨sx,vx⟩:=x
        obtain ⟨qy,my,dy,rfl⟩:=HVY.out.2.2.1.slice
        obtain ⟨qx,mx,dx,rfl⟩:=HVX.out.2.2.1.slice
        have HCN:=hid (fun W (hr : RcAt W g (sx,.slice qx mx dx)) (hq : RcAt W g (sy,.slice qy my dy))=>(show Calls Tryz.prog 280 #[.agg #[.int .i64 (nAt sx 0),.int .i64 (nAt sx 1),.int .i64 (nAt sx 2),.slice qx mx dx],.agg #[.int .i64 (nAt sy 0),.int .i64 (nAt sy 1),.int .i64 (nAt sy 2),.slice qy my dy]] W
         fun e w'=>e = .returned (.bool (ordV sx sy == 0)) /\ Below W.heap.size W w' from same_rc (sx,.slice qx mx dx) (sy,.slice qy my dy) g W hr hq))
        have HTV:=hid (fun (W : World) (h : Rw w0 W g (E ++ D.drop E.length))=>(show W.cell? ⟨g,(k + 1) * 4 + j * 4,none⟩ = some (.int .i64 (nAt sy 0)) /\ W.cell? ⟨g,(k + 1) * 4 + j * 4 + 1,none⟩ = some (.int .i64 (nAt sy 1)) /\ W.cell? ⟨g,(k + 1) * 4 + j * 4 + 2,none⟩ = some (.int .i64 (nAt sy 2)) /\ W.cell? ⟨g,(k + 1) * 4 + j * 4 + 3,none⟩ = some (.slice qy my dy) /\ W.cell? ⟨g,(k + 1) * 4 + (j + 1) * 4,none⟩ = some (.int .i64 (nAt sx 0)) /\ W.cell? ⟨g,(k + 1) * 4 + (j + 1) * 4 + 1,none⟩ = some (.int .i64 (nAt sx 1)) /\ W.cell? ⟨g,(k + 1) * 4 + (j + 1) * 4 + 2,none⟩ = some (.int .i64 (nAt sx 2)) /\ W.cell? ⟨g,(k + 1) * 4 + (j + 1) * 4 + 3,none⟩ = some (.slice qx mx dx) /\ Hid (Rw w0 W g (E ++ D.drop E.length)) by
         have h2:=h.two hv2 hu2
         unfold Two at h2
         rw [show (k + 1 + j) * 4 = (k + 1) * 4 + j * 4 by omega,show (k + 1 + j + 1) * 4 = (k + 1) * 4 + (j + 1) * 4 by omega] at h2
         exact h2))
        obtain ⟨a0,a1,a2,a3,b0,b1,b2,b3,_⟩:=HTV.out _ HRV.out
        clear hv2 hu2
        by_cases hoe : ordV sx sy = 0
        ·have HC3:=hid (HSM.out hoe)
         rw [hoe] at HCN
         clear hoe
         go_wp2_with fail
         go_region_held (fun W=>W.cell? ⟨g,(k + 1) * 4 + j * 4,none⟩ = some (.int .i64 (nAt sy 0)) /\ W.cell? ⟨g,(k + 1) * 4 + j * 4 + 1,none⟩ = some (.int .i64 (nAt sy 1)) /\ W.cell? ⟨g,(k + 1) * 4 + j * 4 + 2,none⟩ = some (.int .i64 (nAt sy 2)) /\ W.cell? ⟨g,(k + 1) * 4 + j * 4 + 3,none⟩ = some (.slice qy my dy) /\ W.cell? ⟨g,(k + 1) * 4 + (j + 1) * 4,none⟩ = some (.int .i64 (nAt sx 0)) /\ W.cell? ⟨g,(k + 1) * 4 + (j + 1) * 4 + 1,none⟩ = some (.int .i64 (nAt sx 1)) /\ W.cell? ⟨g,(k + 1) * 4 + (j + 1) * 4 + 2,none⟩ = some (.int .i64 (nAt sx 2)) /\ W.cell? ⟨g,(k + 1) * 4 + (j + 1) * 4 + 3,none⟩ = some (.slice qx mx dx) /\ Hid (Rw w0 W g (E ++ D.drop E.length))) (first | exact HTV.out _ HRb.out | exact HTV.out _ (HRV.out.below (below_drawn _ 1))) (first
         | (go_at_call 280; refine (HCN.out _ ?_ ?_).mono ?_; exact HVX.out.below (below_drawn _ 1); exact HVY.out.below (below_drawn _ 1); rintro e w' ⟨rfl,hb⟩; have HRb:=hid ((HRV.out.below (below_drawn _ 1)).below hb); clear hb))
         all_goals
          go_wp2_with fail
          go_roundw
          case rel=>exact ⟨j + 1,E,rfl,by go_num,by omega,by omega,HC3,HRb⟩
          case measure=>simp [intOf]; omega
        ·have HC3:=hid (HMO.out hoe)
         have hob : (ordV sx sy == 0) = false:=beq_eq_false_iff_ne.2 hoe
         rw [hob] at HCN
         clear hoe hob
         go_wp2_with fail
         go_region_held (fun W=>W.cell? ⟨g,(k + 1) * 4 + j * 4,none⟩ = some (.int .i64 (nAt sy 0)) /\ W.cell? ⟨g,(k + 1) * 4 + j * 4 + 1,none⟩ = some (.int .i64 (nAt sy 1)) /\ W.cell? ⟨g,(k + 1) * 4 + j * 4 + 2,none⟩ = some (.int .i64 (nAt sy 2)) /\ W.cell? ⟨g,(k + 1) * 4 + j * 4 + 3,none⟩ = some (.slice qy my dy) /\ W.cell? ⟨g,(k + 1) * 4 + (j + 1) * 4,none⟩ = some (.int .i64 (nAt sx 0)) /\ W.cell? ⟨g,(k + 1) * 4 + (j + 1) * 4 + 1,none⟩ = some (.int .i64 (nAt sx 1)) /\ W.cell? ⟨g,(k + 1) * 4 + (j + 1) * 4 + 2,none⟩ = some (.int .i64 (nAt sx 2)) /\ W.cell? ⟨g,(k + 1) * 4 + (j + 1) * 4 + 3,none⟩ = some (.slice qx mx dx) /\ Hid (Rw w0 W g (E ++ D.drop E.length))) (first | exact HTV.out _ HRb.out | exact HTV.out _ (HRV.out.below (below_drawn _ 1))) (first
         | (go_at_call 280; refine (HCN.out _ ?_ ?_).mono ?_; exact HVX.out.below (below_drawn _ 1); exact HVY.out.below (below_drawn _ 1); rintro e w' ⟨rfl,hb⟩; have HRb:=hid ((HRV.out.below (below_drawn _ 1)).below hb); clear hb))
         all_goals
          clear a0 a1 a2 a3 b0 b1 b2 b3
          obtain ⟨a0,a1,a2,a3,b0,b1,b2,b3,_⟩:=HTV.out _ HRb.out
          have hfz:=HRb.out.fz
          have e1 : (0 : Int) <= (E.length : Int):=by omega
          have e2 : (E.length : Int) < (D.length : Int):=by omega
          have hEl : E.length < (E ++ D.drop E.length).length:=by simp; omega
          obtain ⟨z0,z1,z2,z3⟩:=HRb.out.at (j:=E.length) (r:=(E ++ D.drop E.length)[E.length]) (List.getElem?_eq_getElem hEl)
          have HW4:=hid (show Rw w0 ((((w'.setCell ⟨g,E.length * 4,none⟩ (.int .i64 (nAt sx 0))).setCell ⟨g,E.length * 4 + 1,none⟩ (.int .i64 (nAt sx 1))).setCell ⟨g,E.length * 4 + 2,none⟩ (.int .i64 (nAt sx 2))).setCell ⟨g,E.length * 4 + 3,none⟩ (.slice qx mx dx)) g ((E ++ [((sx,.slice qx mx dx) : Rc)]) ++ D.drop (E ++ [((sx,.slice qx mx dx) : Rc)]).length) by
           have h:=HRb.out.setAt E.length hEl (sx,.slice qx mx dx) (HRb.out.rc _ HUM.out)
           have e : (E ++ D.drop E.length).set E.length (sx,.slice qx mx dx) = (E ++ [((sx,.slice qx mx dx) : Rc)]) ++ D.drop (E ++ [((sx,.slice qx mx dx) : Rc)]).length:=by
            rw [List.set_append_right _ _ (Nat.le_refl _),Nat.sub_self,List.drop_eq_getElem_cons (show E.length < D.length by omega),List.set_cons_zero,List.length_append]
            simp
           rw [e] at h
           exact h)
          go_wp2_with fail
          go_roundw
          case rel=>exact ⟨j + 1,E ++ [(sx,.slice qx mx dx)],by simp,by go_num,by omega,by simp; omega,HC3,HW4⟩
          case measure=>simp [intOf]; omega
       ·have hje : k + 1 + (j + 1) = D.length:=by omega
        have g2 : ¬ (j : Int) + 1 < ((D.length - (k + 1) : Nat) : Int):=by omega
        have hRl : (E ++ D.drop E.length).length = D.length:=by simp; omega
        obtain ⟨zs,hcl⟩:=run_clear_rw HRV.out E.length (by omega)
        rw [hRl] at hcl
        have HEN:=hid (show Cp D D.length E by have:=HCE.out; rw [show k + 1 + j + 1 = D.length by omega] at this; exact this)
        have HRE:=hid (show Rw w0 (wr.setCells g (E.length * 4) zs) g E by
         have:=HRV.out.cleared E.length (by omega) zs
         rw [List.take_left'  rfl] at this
         exact this)
        have c1 : (E.length : Int) <= (D.length : Int):=by omega
        have c2 : (E.length : Int) < (cap : Int):=by omega
        have c3 : (E.length : Int) <= (cap : Int):=by omega
        have c4 : (0 : Int) <= (E.length : Int):=by omega
        have c5 : E.length < cap:=by omega
        go_wp2_with fail
        go_ret
        exact ⟨E,rfl,by omega,HEN.out.ri,fun t=>by have h:=HEN.out.mem t; rw [List.take_length] at h; simpa using h,HRE.out⟩
    ·have HC2:=hid (HPL.out hod)
     have hob : (ordV tx ty == 0) = false:=beq_eq_false_iff_ne.2 hod
     rw [hob] at HCM
     clear hod hob
     go_wp2_with fail
     go_region_held (fun W=>W.cell? ⟨g,k * 4,none⟩ = some (.int .i64 (nAt ty 0)) /\ W.cell? ⟨g,k * 4 + 1,none⟩ = some (.int .i64 (nAt ty 1)) /\ W.cell? ⟨g,k * 4 + 2,none⟩ = some (.int .i64 (nAt ty 2)) /\ W.cell? ⟨g,k * 4 + 3,none⟩ = some (.slice py ny cy) /\ W.cell? ⟨g,(k + 1) * 4,none⟩ = some (.int .i64 (nAt tx 0)) /\ W.cell? ⟨g,(k + 1) * 4 + 1,none⟩ = some (.int .i64 (nAt tx 1)) /\ W.cell? ⟨g,(k + 1) * 4 + 2,none⟩ = some (.int .i64 (nAt tx 2)) /\ W.cell? ⟨g,(k + 1) * 4 + 3,none⟩ = some (.slice px nx cx) /\ Hid (Rw w0 W g D)) (first | exact HTW.out _ HRa.out | exact HTW.out _ (HRW.out.below (below_drawn _ 1))) (first
      | (go_at_call 280; refine (HCM.out _ ?_ ?_).mono ?_; exact HX.out.below (below_drawn _ 1); exact HY.out.below (below_drawn _ 1); rintro e w' ⟨rfl,hb⟩; have HRa:=hid ((HRW.out.below (below_drawn _ 1)).below hb); clear hb))
     all_goals
      go_wp2_with fail
      go_roundw
      case rel=>exact ⟨k + 1,by omega,by go_num,HC2,HRa⟩
      case measure=>simp [intOf]; omega
   ·obtain hke : k + 1 = D.length:=by omega
    have HFI:=hid (show Cp D D.length D by have:=HCP.out; rw [hke,List.take_length] at this; exact this)
    have hi2 : ¬ (k : Int) + 1 < (D.length : Int):=by omega
    go_wp2_with fail
    go_ret
    exact ⟨D,rfl,Nat.le_refl _,HFI.out.ri,fun t=>Iff.rfl,HRW.out⟩
end Ve
end Go.Proofs.YtjbmjnbkibmkpaaGreatDoor


namespace Go.Proofs.YtjbmjnbkibmkpaaGreatDoor
open Go.RowKit
namespace Ve
theorem ins_nil (W : World) : Calls Tryz.prog 300 #[.slice none 0 0,.int .i64 0,.int .i64 0,.func (.func 171) #[] #[]] W fun e w'=>e = .returned (.tuple #[]) /\ w' = W:=by
 go_enter Tryz.func300,Tryz.ntmps300
 go_wp2_with fail
 go_loop [8] (fun i=>i = .int .i64 1) (fun _=>0)
 case atStart=>rfl
 case round=>
  obtain rfl:=hrel
  go_wp2_with fail
  go_end0
  exact ⟨rfl,rfl⟩
set_option maxRecDepth 100000 in
theorem pdq_nil (n : Int) (W : World) : Calls Tryz.prog 294 #[.slice none 0 0,.int .i64 0,.int .i64 0,.int .i64 n,.func (.func 171) #[] #[]] W fun e w'=>e = .returned (.tuple #[]) /\ w' = W:=by
 have HI:=hid (ins_nil W)
 go_enter Tryz.func294,Tryz.ntmps294
 go_wp2_with fail
 go_loop [1,2,3,10,11] (fun a b _ _ _=>a = .int .i64 0 /\ b = .int .i64 0) (fun _ _ _ _ _=>0)
 case atStart=>exact ⟨rfl,rfl⟩
 case round=>
  obtain ⟨rfl,rfl⟩:=hrel
  go_wp2_with fail
  refine HI.out.mono ?_
  rintro e w' ⟨rfl,rfl⟩
  go_wp2_with fail
  first | (go_end0; exact ⟨rfl,rfl⟩) | (go_ret; exact ⟨rfl,rfl⟩) | (refine bodyPost_ret (v:=.tuple #[]) (by simp [results,Tryz.results294]) rfl ⟨rfl,rfl⟩)
theorem sortf_nil (W : World) : Calls Tryz.prog 278 #[.slice none 0 0,.func (.func 171) #[] #[]] W fun e w'=>e = .returned (.tuple #[]) /\ Below W.heap.size W w':=by
 have HLN:=hid (show Calls Tryz.prog 129 #[.int .u64 0] W fun e w'=>e = .returned (.int .i64 (Lib.bitLen 0 : Nat)) /\ w' = W from by
  have h:=Any.bits_Len (SlLaysF0.n15.bits (P:=Tryz.prog) (ρ:=Tryz.sortParts_ren) { Tryz.sortParts with }) 0 W (by omega) (by omega)
  exact h)
 have HP:=hid (fun n=>pdq_nil n W)
 go_enter Tryz.func278,Tryz.ntmps278
 go_wp2_with fail
 refine HLN.out.mono ?_
 rintro e w' ⟨rfl,rfl⟩
 go_wp2_with fail
 refine (HP.out _).mono ?_
 rintro e w' ⟨rfl,rfl⟩
 go_wp2_with fail
 go_end0
 exact ⟨rfl,Below.refl _ _⟩
theorem compact_is : CompactIs:=fun w0 W g cap D hD h12 hc hcm hs hR=>compact_rw w0 W g cap D hD h12 hc hcm hs hR
theorem vsort_any (b0 o0 cap : Nat) (L : List ByteArray) (aT aB : Addr) (m : Int) (w : World) (S : Vs w aT aB m) (htab : Lib.TabIs Tryz.prog w powName .u64 Lib.pow10Tab) (hL : ∀ j (h : j < L.length),w.cell? ⟨b0,o0 + j,none⟩ = some (.string L[j])) (h12 : L.length <= 1000) (hz : ∀ x,x ∈ L -> x.size <= 80) :
  Calls Tryz.prog 240 #[.slice (some ⟨b0,o0,none⟩) L.length cap] w fun e w'=>∃ v X,e = .returned v /\ w'.ownsRow w.heap.size 9 1 v X.length (X.map Value.string) /\ Kept L L.length X /\ Below w.heap.size w w':=
 vsort_some compact_is sortf_nil compact_nil b0 o0 cap L aT aB m w S htab hL h12 hz
theorem kept_none : Kept [] 0 []:=⟨List.Pairwise.nil,fun t=>by simp [bl]⟩
theorem vsort_none (W : World) : Calls Tryz.prog 240 #[.slice none 0 0] W fun e w'=>e = .returned (.slice none 0 0) /\ Below W.heap.size W w':=by
 have HSN:=hid sortf_nil
 have HCN:=hid compact_nil
 go_enter Tryz.func240,Tryz.ntmps240
 go_wp2_with fail
 go_loop [3,13] (fun v i=>v = .slice none 0 0 /\ i = .int .i64 0) (fun _ _=>0)
 case atStart=>exact ⟨rfl,rfl⟩
 case round=>
  obtain ⟨rfl,rfl⟩:=hrel
  go_wp2_with fail
  refine (HSN.out _).mono ?_
  rintro e w1 ⟨rfl,hb1⟩
  go_wp2_with fail
  refine (HCN.out _).mono ?_
  rintro e w2 ⟨rfl,hb2⟩
  have HB2:=hid (hb1.trans (hb2.mono hb1.size))
  clear hb1 hb2
  go_wp2_with fail
  go_loop [8,35] (fun v i=>v = .slice none 0 0 /\ i = .int .i64 0) (fun _ _=>0)
  case atStart=>exact ⟨rfl,rfl⟩
  case round=>
   obtain ⟨rfl,rfl⟩:=hrel
   go_wp2_with fail
   go_ret
   exact ⟨rfl,HB2.out⟩
end Ve
end Go.Proofs.YtjbmjnbkibmkpaaGreatDoor


namespace Go.Proofs.YtjbmjnbkibmkpaaGreatDoor
open Go.RowKit
namespace Ve
def verL (L : List Raw) : List ByteArray:=L.map fun r=>r.1.2
theorem verL_len (L : List Raw) : (verL L).length = L.length:=by simp [verL]
theorem verL_next {L : List Raw} {k : Nat} (hk : k < L.length) : verL (L.take (k + 1)) = verL (L.take k) ++ [L[k].1.2]:=by
 unfold verL
 rw [List.take_succ_eq_append_getElem hk,List.map_append]; rfl
theorem own_nextT {W : World} {B : Nat} {e : TypeId} {v : Value} {X X' : List ByteArray} {x : ByteArray} (h : W.ownsRow B e 1 v (X.length + 1) (X.map Value.string ++ [.string x])) (hl : X' = X ++ [x]) : W.ownsRow B e 1 v X'.length (X'.map Value.string):=by
 subst hl
 rw [List.length_append,List.map_append]
 exact h
set_option maxRecDepth 100000 in
theorem versions_some (L : List Raw) (b o c : Nat) (w : World) (hL : L.length <= 1000) (hs : ∀ r,r ∈ L -> slR r)
  (hc : ∀ j (h : j < L.length),w.cell? ⟨b,o + j * 5,none⟩ = some (.string L[j].1.1) /\ w.cell? ⟨b,o + j * 5 + 1,none⟩ = some (.string L[j].1.2) /\ w.cell? ⟨b,o + j * 5 + 2,none⟩ = some L[j].2.1 /\ w.cell? ⟨b,o + j * 5 + 3,none⟩ = some L[j].2.2.1 /\ w.cell? ⟨b,o + j * 5 + 4,none⟩ = some (.bool L[j].2.2.2))
  (Post : Value -> World -> Prop) (hk : ∀ u W,W.ownsRow w.heap.size 9 1 u (verL L).length ((verL L).map Value.string) -> Below w.heap.size w W -> Calls Tryz.prog 240 #[u] W fun e w'=>∃ x,e = .returned x /\ Post x w') :
  Calls Tryz.prog 189 #[.slice (some ⟨b,o,none⟩) L.length c] w fun e w'=>∃ x,e = .returned x /\ Post x w':=by
 obtain ⟨i0,hi,hz0,hz1,hz2⟩:=info_parts infoStr
 have HC:=hid hc
 have HSL:=hid hs
 have HK:=hid hk
 clear hc hs hk
 go_enter Tryz.func189,Tryz.ntmps189
 go_wp2_with fail
 go_loopw [3,8] (fun ov i wr=>∃ k : Nat,k <= L.length /\ i = .int .i64 k /\ Hid (wr.ownsRow w.heap.size 9 1 ov (verL (L.take k)).length ((verL (L.take k)).map Value.string)) /\ Hid (Below w.heap.size w wr)) (fun _ i _=>L.length - (intOf i).toNat)
 case atStart=>exact ⟨0,Nat.zero_le _,rfl,hid (World.ownsRow_nil _ _ _ _),hid (Below.refl _ _)⟩
 case round=>
  obtain ⟨k,hk,rfl,HO,HB⟩:=hrel
  by_cases hlt : k < L.length
  ·obtain ⟨y0,y1,y2,y3,y4⟩:=HC.out k hlt
   have x0:=cell_below HB.out y0
   have x1:=cell_below HB.out y1
   have x2:=cell_below HB.out y2
   have x3:=cell_below HB.out y3
   have x4:=cell_below HB.out y4
   have hsl:=HSL.out L[k] (List.getElem_mem hlt)
   have hkI : (k : Int) < (L.length : Int):=by omega
   have HLT:=hid hlt
   have HY:=hid (verL_next hlt)
   have hln : (verL (L.take k)).length = k:=by rw [verL_len,List.length_take]; omega
   clear y0 y1 y2 y3 y4
   generalize L[k] = x at *
   obtain ⟨⟨p,q⟩,rv,pv,bk⟩:=x
   obtain ⟨⟨ra,rn,rc,hrv⟩,pa,pn,pc,hpv⟩:=hsl
   simp only at hrv hpv
   subst hrv
   subst hpv
   have HBa:=hid (HB.out.alloc HB.out.size (.cells #[.string p,.string q,.slice ra rn rc,.slice pa pn pc,.bool bk] 54))
   have HOa:=hid (HO.out.alloc (.cells #[.string p,.string q,.slice ra rn rc,.slice pa pn pc,.bool bk] 54))
   clear hlt
   have hzz:=HB.out.size
   go_wp2_with (at_builtin; refine wpList_append_own _ rfl _ _ 26 rfl w.heap.size 9 i0 _ 1 16 Tryz.underlying26 hi hz0 hz1 hz2 rfl (by decide) _ _ _ rfl (HOa.out.alloc _) ⟨wr.heap.size + 1,0,none⟩ 1 1 [.string q] rfl rfl ?c1 ?c2 ?c3 ?c4 ?c5 ?_)
   case c2=>rfl
   case c3=>unfold maxLen; omega
   case c4=>omega
   case c5=>omega
   intro v' w3 hown hgrow _
   have HR3:=hid (rel_app HBa.out.size HBa.out HOa.out (Below.refl _ _) hgrow)
   have HO3:=hid hown
   clear hown hgrow x0 x1 x2 x3 x4
   go_wp2_with fail
   go_roundw
   case rel=>exact ⟨k + 1,by have:=HLT.out; omega,by go_num,hid (own_nextT (X:=verL (L.take k)) (by rw [hln]; exact HO3.out) HY.out),HR3⟩
   case measure=>have:=HLT.out; simp [intOf]; omega
  ·have HTR:=hid (show L.take k = L from List.take_of_length_le (by omega))
   rw [HTR.out] at HO
   have hkI : ¬ (k : Int) < (L.length : Int):=by omega
   have HKK:=hid (HK.out _ _ HO.out HB.out)
   clear hlt
   go_wp2_with fail
   refine HKK.out.mono ?_
   rintro e w1 ⟨x,rfl,hp⟩
   have HP:=hid hp
   clear hp
   go_wp2_with fail
   go_ret
   exact ⟨_,rfl,HP.out⟩
theorem versions_none (a : Option Addr) (c : Nat) (w : World)
  (Post : Value -> World -> Prop) (hk : Calls Tryz.prog 240 #[.slice none 0 0] w fun e w'=>∃ x,e = .returned x /\ Post x w') :
  Calls Tryz.prog 189 #[.slice a 0 c] w fun e w'=>∃ x,e = .returned x /\ Post x w':=by
 have HK:=hid hk
 clear hk
 go_enter Tryz.func189,Tryz.ntmps189
 go_wp2_with fail
 go_loopw [3,8] (fun ov i wr=>ov = .slice none 0 0 /\ i = .int .i64 0 /\ wr = w) (fun _ i _=>0)
 case atStart=>exact ⟨rfl,rfl,rfl⟩
 case round=>
  obtain ⟨rfl,rfl,rfl⟩:=hrel
  go_wp2_with fail
  refine HK.out.mono ?_
  rintro e w1 ⟨x,rfl,hp⟩
  have HP:=hid hp
  clear hp
  go_wp2_with fail
  go_ret
  exact ⟨_,rfl,HP.out⟩
theorem versions_any (L : List Raw) (v : Value) (aT aB : Addr) (m : Int) (w : World) (hL : L.length <= 1000) (hz : ∀ r,r ∈ L -> r.1.2.size <= 80) (S : Vs w aT aB m) (htab : Lib.TabIs Tryz.prog w powName .u64 Lib.pow10Tab) (hv : EsAt w v L) :
  Calls Tryz.prog 189 #[v] w fun e w'=>∃ u,e = .returned u /\ ∃ X,w'.ownsRow w.heap.size 9 1 u X.length (X.map Value.string) /\ Kept (verL L) (verL L).length X /\ Below w.heap.size w w':=by
 obtain ⟨a,c,rfl,_,hs,h⟩:=hv
 cases L with
 | nil=>exact versions_none a c w (fun u w'=>∃ X,w'.ownsRow w.heap.size 9 1 u X.length (X.map Value.string) /\ Kept (verL []) (verL []).length X /\ Below w.heap.size w w') ((vsort_none w).mono fun e w' ⟨h1,h2⟩=>⟨_,h1,[],World.ownsRow_nil _ _ _ _,kept_none,h2⟩)
 | cons x r=>
  obtain ⟨b,o,rfl,h2⟩:=h (by simp)
  refine versions_some (x :: r) b o c w hL hs h2 (fun u w'=>∃ X,w'.ownsRow w.heap.size 9 1 u X.length (X.map Value.string) /\ Kept (verL (x :: r)) (verL (x :: r)).length X /\ Below w.heap.size w w') fun u W ho hb=>?_
  obtain ⟨a',c',rfl,_,h3⟩:=own_tx ho
  obtain ⟨b',o',rfl,h4⟩:=h3 (by simp [verL])
  refine (vsort_any b' o' c' (verL (x :: r)) aT aB m W (S.below hb) (tab_below htab hb) h4 (by rw [verL_len]; exact hL) (fun y hy=>?_)).mono ?_
  ·obtain ⟨r',hr',rfl⟩:=List.mem_map.1 hy
   exact hz r' hr'
  ·rintro e w' ⟨u,X,rfl,h5,h6,h7⟩
   exact ⟨u,rfl,X,own_baseN h5 hb.size,h6,hb.trans (h7.mono hb.size)⟩
end Ve
end Go.Proofs.YtjbmjnbkibmkpaaGreatDoor


namespace Go.Proofs.YtjbmjnbkibmkpaaGreatDoor
open Go.RowKit
namespace Ve
def ofP (t : ByteArray) (L : List Raw) : List Raw:=L.filter (isP t)
theorem ofP_len (t : ByteArray) (L : List Raw) : (ofP t L).length <= L.length:=List.length_filter_le _ _
theorem bestR_sub {L : List Raw} {r : Raw} (h : r ∈ bestR L) : r ∈ L:=by
 unfold bestR at h
 split at h
 ·exact (List.mem_filter.1 (List.mem_filter.1 h).1).1
 ·split at h
  ·exact (List.mem_filter.1 h).1
  ·exact h
theorem bestR_len (L : List Raw) : (bestR L).length <= L.length:=by
 unfold bestR
 split
 ·exact Nat.le_trans (List.length_filter_le _ _) (List.length_filter_le _ _)
 ·split
  ·exact List.length_filter_le _ _
  ·exact Nat.le_refl _
def lastT (X : List ByteArray) : ByteArray:=X.getLast?.getD ⟨#[]⟩
theorem lastT_get {X : List ByteArray} (h : 0 < X.length) : lastT X = X[X.length - 1]:=by
 unfold lastT
 rw [List.getLast?_eq_getElem?,List.getElem?_eq_getElem (by omega)]; rfl
theorem own_max {W : World} {B n k : Nat} {e : TypeId} {v : Value} {xs : List Value} (h : W.ownsRow B e k v n xs) : n <= maxLen:=by
 obtain ⟨_,⟨hv,hn0⟩ | ⟨g,cap,cur,hv,hg,hblk,hcap,hcm,hcs,hct⟩⟩:=h
 ·rw [hn0]; exact Nat.zero_le _
 ·exact Nat.le_trans hcap hcm
set_option maxRecDepth 100000 in
theorem ibest_any (L : List Raw) (t : ByteArray) (v : Value) (aT aB : Addr) (m : Int) (w : World) (hL : L.length <= 1000) (hz : ∀ r,r ∈ L -> r.1.1.size <= 80 /\ r.1.2.size <= 80) (S : Vs w aT aB m) (htab : Lib.TabIs Tryz.prog w powName .u64 Lib.pow10Tab) (hv : EsAt w v L) :
  Calls Tryz.prog 139 #[v,.string t] w fun e w'=>∃ u,e = .returned u /\ ∃ X,w'.ownsRow w.heap.size 9 1 u X.length (X.map Value.string) /\ Kept (verL (bestR (ofP t L))) (verL (bestR (ofP t L))).length X /\ Below w.heap.size w w':=by
 obtain ⟨a,c,rfl,_⟩:=id hv
 have hsh : shortR L:=fun r hr=>⟨by have:=(hz r hr).1; omega,by have:=(hz r hr).2; omega⟩
 have HP:=hid (ofPath_any L t _ aT aB m w (by omega) hsh S hv)
 have HSH:=hid (hsh.filter (isP t))
 have HZ:=hid hz
 have HS:=hid S
 have HT:=hid htab
 have hll:=ofP_len t L
 have hlb:=bestR_len (ofP t L)
 clear hv S htab hz hsh
 go_enter Tryz.func139,Tryz.ntmps139
 go_wp2_with fail
 refine HP.out.mono ?_
 rintro e w1 ⟨v1,rfl,he,hb⟩
 have HBE:=hid (best_any (ofP t L) v1 aT aB m w1 (by omega) HSH.out (HS.out.below hb) he)
 have HB:=hid hb
 obtain ⟨a1,c1,rfl,_⟩:=he
 clear hb
 go_wp2_with fail
 refine HBE.out.mono ?_
 rintro e w2 ⟨v2,rfl,he,hb⟩
 have HB2:=hid (HB.out.trans (hb.mono HB.out.size))
 have HV:=hid (versions_any (bestR (ofP t L)) v2 aT aB m w2 (by omega) (fun r hr=>(HZ.out r (List.mem_filter.1 (bestR_sub hr)).1).2) (HS.out.below HB2.out) (tab_below HT.out HB2.out) he)
 obtain ⟨a2,c2,rfl,_⟩:=he
 clear hb
 go_wp2_with fail
 refine HV.out.mono ?_
 rintro e w3 ⟨u,rfl,X,h1,h2,h3⟩
 obtain ⟨ua,uc,hu⟩:=own_slN h1
 subst hu
 have HR:=hid (⟨own_baseN h1 HB2.out.size,h2,HB2.out.trans (h3.mono HB2.out.size)⟩ : _ /\ _ /\ Below w.heap.size w w3)
 clear h1 h2 h3
 go_wp2_with fail
 go_ret
 exact ⟨_,rfl,X,HR.out⟩
end Ve
end Go.Proofs.YtjbmjnbkibmkpaaGreatDoor


namespace Go.Proofs.YtjbmjnbkibmkpaaGreatDoor
open Go.RowKit
namespace Ve
theorem Good.ofP {Q : List Raw} (g : Good Q) (t : ByteArray) : ofP t Q = Q.filter fun r=>decide (r.1.1 = t):=by
 unfold Ve.ofP
 refine List.filter_congr fun r hr=>?_
 unfold isP
 rw [decide_eq_true (g.ver r hr),Bool.and_true]
theorem Good.ofP_mem {Q : List Raw} (g : Good Q) {t : ByteArray} {r : Raw} : r ∈ Ve.ofP t Q ↔ r ∈ Q /\ r.1.1 = t:=by
 rw [g.ofP t,List.mem_filter,decide_eq_true_iff]
theorem Good.pair {Q : List Raw} (g : Good Q) : Q.Pairwise fun r s=>r.1 ≠ s.1:=
 List.pairwise_iff_getElem.2 fun i j hi hj hij e=>by have:=g.one i j hi hj e; omega
theorem kept_mem {L X : List ByteArray} (hK : Kept L L.length X) (hv : ∀ x,x ∈ L -> verErr x.data.toList = 0) (t : List UInt8) : t ∈ bl X ↔ t ∈ bl L:=by
 have:=hK.2 t
 rw [List.take_length] at this
 rw [this]
 constructor
 ·exact fun h=>h.1
 ·intro h
  refine ⟨h,?_⟩
  obtain ⟨x,hx,rfl⟩:=List.mem_map.1 h
  exact hv x hx
theorem verL_ok {Q R : List Raw} (g : Good Q) (hR : ∀ r,r ∈ R -> r ∈ Q) : ∀ x,x ∈ verL R -> verErr x.data.toList = 0:=fun x hx=>by
 obtain ⟨r,hr,rfl⟩:=List.mem_map.1 hx
 exact g.ver r (hR r hr)
theorem ofP_sub {Q : List Raw} {t : ByteArray} : ∀ r,r ∈ ofP t Q -> r ∈ Q:=fun _ hr=>(List.mem_filter.1 hr).1
theorem kept_has {Q R : List Raw} (g : Good Q) (hR : ∀ r,r ∈ R -> r ∈ Q) {X : List ByteArray} (hK : Kept (verL R) (verL R).length X) {x : ByteArray} (hx : x ∈ X) : ∃ r,r ∈ R /\ r.1.2 = x:=by
 have h1 : x.data.toList ∈ bl X:=List.mem_map.2 ⟨x,hx,rfl⟩
 obtain ⟨y,hy,e⟩:=List.mem_map.1 ((kept_mem hK (verL_ok g hR) _).1 h1)
 obtain ⟨r,hr,rfl⟩:=List.mem_map.1 hy
 exact ⟨r,hr,str_ext e⟩
theorem kept_in {Q R : List Raw} (g : Good Q) (hR : ∀ r,r ∈ R -> r ∈ Q) {X : List ByteArray} (hK : Kept (verL R) (verL R).length X) {r : Raw} (hr : r ∈ R) : r.1.2 ∈ X:=by
 have h1 : r.1.2.data.toList ∈ bl (verL R):=List.mem_map.2 ⟨r.1.2,List.mem_map.2 ⟨r,hr,rfl⟩,rfl⟩
 obtain ⟨y,hy,e⟩:=List.mem_map.1 ((kept_mem hK (verL_ok g hR) _).2 h1)
 rw [<- str_ext e]; exact hy
theorem bestR_ne {L : List Raw} (h : L ≠ []) : bestR L ≠ []:=by
 unfold bestR
 split
 ·rename_i h1; intro e; rw [e] at h1; simp at h1
 ·split
  ·rename_i h1; intro e; rw [e] at h1; simp at h1
  ·exact h
end Ve
end Go.Proofs.YtjbmjnbkibmkpaaGreatDoor
