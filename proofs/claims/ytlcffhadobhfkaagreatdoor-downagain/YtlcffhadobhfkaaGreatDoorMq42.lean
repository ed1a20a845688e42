/-
  GrA DnP DaP
-/
import Derived.Test.YtlcffhadobhfkaaGreatDoorMq2
import Derived.Test.YtlcffhadobhfkaaGreatDoorMq6
import Derived.Test.YtlcffhadobhfkaaGreatDoorMq20
import Derived.Test.YtlcffhadobhfkaaGreatDoorMq9
import Derived.Test.YtlcffhadobhfkaaGreatDoorMq36
import Derived.Test.YtlcffhadobhfkaaGreatDoorMq15
import Derived.Test.YtlcffhadobhfkaaGreatDoorMq22
import Derived.Test.YtlcffhadobhfkaaGreatDoorMq39
import Derived.Test.YtlcffhadobhfkaaGreatDoorMq45
import Derived.Test.YtlcffhadobhfkaaGreatDoorMq34
import Derived.Test.YtlcffhadobhfkaaGreatDoorMq48
import Derived.Test.YtlcffhadobhfkaaGreatDoorMq38
import Derived.Test.YtlcffhadobhfkaaGreatDoorMq5
import Derived.Test.YtlcffhadobhfkaaGreatDoorMq3
import Derived.Test.YtlcffhadobhfkaaGreatDoorMq16
import Derived.Test.YtlcffhadobhfkaaGreatDoorMq18
import Derived.Test.YtlcffhadobhfkaaGreatDoorMq19
import Derived.Test.YtlcffhadobhfkaaGreatDoorMq23
import Derived.Test.YtlcffhadobhfkaaGreatDoorMq17
import Derived.Test.YtlcffhadobhfkaaGreatDoorMq43
import Derived.Test.YtlcffhadobhfkaaGreatDoorMq37
import Derived.Test.YtlcffhadobhfkaaGreatDoorMq87
import Derived.Test.YtlcffhadobhfkaaGreatDoorMq88
import Derived.Test.YtlcffhadobhfkaaGreatDoorMq89
import Derived.Test.YtlcffhadobhfkaaGreatDoorMq90
namespace Go.Proofs.YtlcffhadobhfkaaGreatDoor
namespace Ve
theorem Wy.at_ {req : Bm -> List Bm} {T : By} {m : Bm} {k : Nat} {Y : List Bm} (h : Wy req T m k Y) : ∃ Z,Y = (T[k]'h.lt).1 :: Z:=by
  cases h with
  | start h=>exact ⟨[],rfl⟩
  | next h hk hj _ _=>exact ⟨_,rfl⟩
open Go.RowKit
theorem capB_less {caps less : List Bm} (h : rising caps) (hs : less.Sublist caps) {m : Bm} (hm : capB less m = true) : capB caps m = true:=by
  unfold capB at hm ⊢
  cases h1 : atP less m.1 with
  | none=>rw [h1] at hm; cases hm
  | some c=>
    rw [h1] at hm
    have h2 : c ∈ less:=List.mem_of_find?_eq_some h1
    have h3 : c.1 = m.1:=by have:=List.find?_some h1; simpa using this
    have h4:=atP_rising h (hs.subset h2)
    rw [h3] at h4
    rw [h4]
    exact hm
theorem bd_less {req : Bm -> List Bm} {caps less : List Bm} (h : rising caps) (hs : less.Sublist caps) {m : Bm} (hm : Bd req less m) : Bd req caps m:=
  let ⟨k,h1,h2⟩:=hm
  ⟨k,h1,capB_less h hs h2⟩
theorem Tw.again {bad : Bm -> Prop} {U roots X : List Bm} (u : Un U) (h : Tw bad U roots X) : Tw bad U X X:=
  ⟨h.ri,fun x=>⟨fun hx=>⟨x,hx,Lw.self (h.good hx).1 (h.good hx).2⟩,fun ⟨r,hr,h1⟩=>by
    rw [h1.same u (Lw.self (h.good hr).1 (h.good hr).2)]; exact hr⟩⟩
open Go.Maps
structure DaF (Q : List Raw) (L : List Ent) (roots caps T : List Bm) (O : List Bool) : Prop where
  ln : T.length <= L.length
  un : ∀ x,x ∈ T -> x ∈ univ L
  ok : (tF Q L T caps).1 = 0
  ag : toL Q L T caps = T
  ol : O.length = L.length
  ke : ∀ r,r ∈ roots -> ∃ k : Nat,idxOf (isM r) Q = (k : Int) /\ k < L.length /\ ∀ (h : k < O.length),O[k] = false -> hasM T r = true
  by_ : ∀ i (h : i < L.length) (h' : i < O.length),O[i] = (capB caps L[i].1 || L[i].2.1.any fun m=>O[(idxOf (isM m) Q).toNat]?.getD false)
  rq : ∀ i (h : i < L.length) m,m ∈ L[i].2.1 -> ∃ k : Nat,idxOf (isM m) Q = (k : Int) /\ k < L.length
theorem univ_atL {L : List Ent} {i : Nat} (h : i < L.length) (h' : i < (univ L).length) : (univ L)[i] = L[i].1:=by simp [univ]
theorem daF_of {w : World} {v : Value} {Q : List Raw} {L : List Ent} {roots caps : List Bm} (I : Ixs w v Q L) (h : (tF Q L roots caps).1 = 0) : DaF Q L roots caps (toL Q L roots caps) (bdL Q L caps):=by
  obtain ⟨hb,hg⟩:=tF_ok h
  obtain ⟨k0,k1⟩:=bF_chk hb
  have tw:=toL_tw h
  have u : Un (univ L):=⟨univ_rises k0,univ_right k0⟩
  have hok : (chkG Q L (toL Q L roots caps)).1 = 0:=chkG_in I k0 fun x hx=>(tw.good hx).1
  have htf : (tF Q L (toL Q L roots caps) caps).1 = 0:=by unfold tF; rw [if_pos hb]; exact hok
  have hbl : (bdL Q L caps).length = L.length:=bdL_len Q L caps
  have hul : (univ L).length = L.length:=univ_len L
  refine ⟨by have:=selO_len (kpN (univ L) (bdL Q L caps) roots) (univ L); rw [univ_len] at this; exact this,fun x hx=>(tw.good hx).1,htf,(toL_tw htf).one (tw.again u),hbl,fun r hr=>?_,fun i hi hi'=>?_,fun i hi m hm=>?_⟩
  · obtain ⟨k,hk,e1,e2⟩:=idx_univ I ((rgt_of I hg).r r hr)
    refine ⟨k,e1,by omega,fun hk' ho=>hasM_iff.2 (tw.keeps hr ((rgt_of I hg).r r hr) fun hbd=>?_)⟩
    rw [<- e2] at hbd
    have:=(bdL_at hk hk').2 hbd
    rw [ho] at this; cases this
  · have hiu : i < (univ L).length:=by omega
    have hq:=req_at I k0 hi hiu
    refine Bool.eq_iff_iff.2 ((bdL_at hiu hi').trans (bd_iff.trans ?_))
    rw [Bool.or_eq_true,List.any_eq_true,univ_atL hi hiu]
    rw [univ_atL hi hiu] at hq
    rw [hq]
    refine or_congr Iff.rfl ⟨fun ⟨r,h1,h2⟩=>⟨r,h1,?_⟩,fun ⟨r,h1,h2⟩=>⟨r,h1,?_⟩⟩
    · have hru : r ∈ univ L:=chk_reqs0 I k0 L[i].1 (by rw [<- univ_atL hi hiu]; exact List.getElem_mem hiu) r (by rw [hq]; exact h1)
      obtain ⟨k,hk,e1,e2⟩:=idx_univ I hru
      have hk' : k < (bdL Q L caps).length:=by omega
      rw [e1,Int.toNat_natCast,List.getElem?_eq_getElem hk']
      exact (bdL_at hk hk').2 (by rw [e2]; exact h2)
    · have hru : r ∈ univ L:=chk_reqs0 I k0 L[i].1 (by rw [<- univ_atL hi hiu]; exact List.getElem_mem hiu) r (by rw [hq]; exact h1)
      obtain ⟨k,hk,e1,e2⟩:=idx_univ I hru
      have hk' : k < (bdL Q L caps).length:=by omega
      rw [e1,Int.toNat_natCast,List.getElem?_eq_getElem hk'] at h2
      have:=(bdL_at hk hk').1 h2
      rw [e2] at this; exact this
  · have hiu : i < (univ L).length:=by omega
    have hq:=req_at I k0 hi hiu
    obtain ⟨k,hk,e1,e2⟩:=idx_univ I (chk_reqs0 I k0 (univ L)[i] (List.getElem_mem hiu) m (by rw [hq]; exact hm))
    exact ⟨k,e1,by omega⟩
def lessC (caps : List Bm) (k : Nat) : List Bm:=caps.take k ++ caps.drop (k + 1)
theorem lessC_sub (caps : List Bm) (k : Nat) : (lessC caps k).Sublist caps:=by
  unfold lessC
  have h : (caps.take k ++ caps.drop (k + 1)).Sublist (caps.take k ++ caps.drop k):=List.Sublist.append (List.Sublist.refl _) (by
    rw [<- List.drop_drop]
    exact List.drop_sublist _ _)
  rwa [List.take_append_drop] at h
theorem caps_of {caps : List Bm} (hr : rising caps) (h : ∀ c, c ∈ caps → pathErr c.1.data.toList = 0 ∧ (vb c = noneL ∨ verErr (vb c) = 0)) : (chkP caps).1 = 0 := by
  have hp:=List.pairwise_iff_getElem.1 hr
  have : chkP caps = (0,none):=caps_good fun j hj=>by
    rw [capE_at hj]
    obtain ⟨h1,h2⟩:=h _ (List.getElem_mem hj)
    cases j with
    | zero=>exact capW_first h1 h2
    | succ k=>
      have e : prevOf caps (k + 1) = some (caps[k]'(by omega)):=by
        unfold prevOf
        rw [if_neg (by omega)]
        exact List.getElem?_eq_getElem (by omega)
      rw [e]
      exact capW_right h1 h2 (by
        have h3:=hp k (k + 1) (by omega) hj (by omega)
        rw [noLess_lt]
        have h3 : lt (caps[k]'(by omega)).1 caps[k + 1].1 = true:=h3
        rw [h3]; rfl)
  rw [this]
theorem caps_less {caps less : List Bm} (h : (chkP caps).1 = 0) (hs : less.Sublist caps) : (chkP less).1 = 0:=by
  have hr:=caps_rise h
  refine caps_of (hr.sublist hs) fun c hc=>?_
  obtain ⟨i,hi,rfl⟩:=List.getElem_of_mem (hs.subset hc)
  have:=capW_zero (caps_each h hi)
  exact ⟨this.1,this.2.1⟩
theorem bd_lessL {Q : List Raw} {L : List Ent} {caps : List Bm} (h : (chkP caps).1 = 0) (k i : Nat) (h1 : i < (bdL Q L (lessC caps k)).length) (h2 : i < (bdL Q L caps).length) (hb : (bdL Q L (lessC caps k))[i] = true) : (bdL Q L caps)[i] = true:=by
  have hu : i < (univ L).length:=by rw [bdL_len] at h1; rw [univ_len]; exact h1
  exact (bdL_at hu h2).2 (bd_less (caps_rise h) (lessC_sub caps k) ((bdL_at hu h1).1 hb))
end Ve
end Go.Proofs.YtlcffhadobhfkaaGreatDoor
