/-
  DnP DnG DnI DtA DtB
-/
import Derived.Test.YtlcffhadobhfkaaGreatDoorMq2
import Derived.Test.YtlcffhadobhfkaaGreatDoorMq18
import Derived.Test.YtlcffhadobhfkaaGreatDoorMq22
import Derived.Test.YtlcffhadobhfkaaGreatDoorMq45
import Derived.Test.YtlcffhadobhfkaaGreatDoorMq48
import Derived.Test.YtlcffhadobhfkaaGreatDoorMq9
import Derived.Test.YtlcffhadobhfkaaGreatDoorMq11
import Derived.Test.YtlcffhadobhfkaaGreatDoorMq19
import Derived.Test.YtlcffhadobhfkaaGreatDoorMq20
import Derived.Test.YtlcffhadobhfkaaGreatDoorMq23
import Derived.Test.YtlcffhadobhfkaaGreatDoorMq16
import Derived.Test.YtlcffhadobhfkaaGreatDoorMq6
import Derived.Test.YtlcffhadobhfkaaGreatDoorMq39
import Derived.Test.YtlcffhadobhfkaaGreatDoorMq34
import Derived.Test.YtlcffhadobhfkaaGreatDoorMq87
import Derived.Test.YtlcffhadobhfkaaGreatDoorMq88
import Derived.Test.YtlcffhadobhfkaaGreatDoorMq36
import Derived.Test.YtlcffhadobhfkaaGreatDoorMq37
import Derived.Test.YtlcffhadobhfkaaGreatDoorMq89
import Derived.Test.YtlcffhadobhfkaaGreatDoorMq3
import Derived.Test.YtlcffhadobhfkaaGreatDoorMq5
import Derived.Test.YtlcffhadobhfkaaGreatDoorMq24
import Derived.Test.YtlcffhadobhfkaaGreatDoorMq27
import Derived.Test.YtlcffhadobhfkaaGreatDoorMq30
import Derived.Test.YtlcffhadobhfkaaGreatDoorMq1
import Derived.Test.YtlcffhadobhfkaaGreatDoorMq47
import Derived.Test.YtlcffhadobhfkaaGreatDoorMq43
namespace Go.Proofs.YtlcffhadobhfkaaGreatDoor
open Go.RowKit
namespace Ve
theorem caps_bad {caps : List Bm} {k : Nat} (hk : k < caps.length) (h0 : ∀ j,j < k -> capE caps j = 0) (h : capE caps k ≠ 0) : chkP caps = (capE caps k,some k):=by
  have hs:=fstE_some h0 h hk
  unfold chkP
  rw [codeE_some hs,hs]
end Ve
end Go.Proofs.YtlcffhadobhfkaaGreatDoor
namespace Go.Proofs.YtlcffhadobhfkaaGreatDoor
open Go.RowKit Go.Maps
namespace Ve
open Classical in
noncomputable def bO (Q : List Raw) (L : List Ent) (caps : List Bm) : List Bool:=if (bF Q L caps).1 = 0 then bdL Q L caps else []
theorem bad_all (Q : List Raw) (L : List Ent) (caps : List Bm) (v cv : Value) (A : Nat → Addr) (m : Int) (w : World) (hn : L.length ≤ 1000) (hcn : caps.length ≤ 1000000) (sh : ∀ e, e ∈ L → ShE e) (hs : shortL caps) (S : Te w A m) (I : Ixs w v Q L) (hc : MsAt w cv caps) :
    Calls Tryz.prog 52 #[v,cv] w fun e w'=>∃ a c x,e = .returned (.tuple #[.slice a (bO Q L caps).length c,x]) /\ BsAt w' (.slice a (bO Q L caps).length c) (bO Q L caps) /\ ErrAt w' A x (bF Q L caps).1 (bF Q L caps).2 /\ Below w.heap.size w w':=by
  by_cases h0 : (bF Q L caps).1 = 0
  · refine (bad_good Q L caps v cv A m w hn hcn sh hs S I hc h0).mono ?_
    rintro e w' ⟨g,rfl,hM⟩
    have hb : bO Q L caps = bdL Q L caps:=if_pos h0
    rw [hb]
    refine ⟨_,_,_,rfl,⟨_,_,rfl,fun _=>⟨g,rfl,hM.hp⟩⟩,?_,hM.bl⟩
    have h2 : (bF Q L caps).2 = none:=by
      obtain ⟨k0,k1⟩:=bF_chk h0
      have e : bF Q L caps = chkP caps:=if_pos k0
      rw [e]
      cases h3 : fstE (capE caps) caps.length with
      | none=>exact h3
      | some j=>
        have h4 : codeE (capE caps) caps.length = 0:=k1
        rw [codeE_some h3] at h4
        exact absurd h4 (fstE_of_some h3).2.1
    rw [h0,h2]
    rfl
  · refine (bad_bad Q L caps v cv A m w hn hcn sh hs S I hc h0).mono ?_
    rintro e w' ⟨T,a,rfl,he,hb⟩
    have hb' : bO Q L caps = []:=if_neg h0
    rw [hb']
    exact ⟨none,0,_,rfl,⟨none,0,rfl,fun h=>absurd rfl h⟩,he,hb⟩
open Go.Shelf
attribute [local go_sem] Oper.semAt_some
open Classical in
noncomputable def tX (Q : List Raw) (L : List Ent) (roots caps : List Bm) : List Bm:=if (tF Q L roots caps).1 = 0 then toL Q L roots caps else []
theorem tF_good {Q : List Raw} {L : List Ent} {roots caps : List Bm} (h : (tF Q L roots caps).1 = 0) : tF Q L roots caps = (0,none):=by
  obtain ⟨h1,h2⟩:=tF_ok h
  have e : tF Q L roots caps = chkG Q L roots:=if_pos h1
  obtain ⟨k0,-⟩:=bF_chk h1
  rw [e,chkG_ok k0]
  rw [chkG_ok k0] at h2
  have h3 : codeE (nonE Q roots) roots.length = 0:=h2
  cases h4 : fstE (nonE Q roots) roots.length with
  | none=>rw [h3]
  | some j=>
    rw [codeE_some h4] at h3
    exact absurd h3 (fstE_of_some h4).2.1
theorem to_all (Q : List Raw) (L : List Ent) (roots caps : List Bm) (v rv cv : Value) (A : Nat -> Addr) (m : Int) (w : World) (hn : L.length <= 1000) (hrn : roots.length <= 1000000) (hcn : caps.length <= 1000000) (sh : ∀ e,e ∈ L -> ShE e) (hs : shortL caps) (S : Te w A m) (I : Ixs w v Q L) (hr : MsAt w rv roots) (hc : MsAt w cv caps) :
    Calls Tryz.prog 47 #[v,rv,cv] w fun e w'=>∃ a c x,e = .returned (.tuple #[.slice a (tX Q L roots caps).length c,x]) /\ Mr w w' (.slice a (tX Q L roots caps).length c) (tX Q L roots caps) /\ ErrAt w' A x (tF Q L roots caps).1 (tF Q L roots caps).2:=by
  by_cases h : (tF Q L roots caps).1 = 0
  · have ht : tX Q L roots caps = toL Q L roots caps:=if_pos h
    rw [ht]
    refine (to_good Q L roots caps v rv cv A m w hn hrn hcn sh hs S I hr hc h).mono ?_
    rintro e w' ⟨u,rfl,ho,hb⟩
    have hm:=mr_own ho hb
    obtain ⟨a,c,hu⟩:=hm.sl
    subst hu
    exact ⟨a,c,_,rfl,hm,by rw [tF_good h]; rfl⟩
  · have ht : tX Q L roots caps = []:=if_neg h
    rw [ht]
    refine (to_bad Q L roots caps v rv cv A m w hn hrn hcn sh hs S I hr hc h).mono ?_
    rintro e w' ⟨T,a,rfl,he,hb⟩
    exact ⟨_,_,_,rfl,mr_nil0 hb,he⟩
theorem ms_atC {W : World} {b o n c : Nat} {X : List Bm} (h : MsAt W (.slice (some ⟨b,o,none⟩) n c) X) {k : Nat} (hk : k < X.length) : W.cell? ⟨b,o + k * 2,none⟩ = some (.string X[k].1) /\ W.cell? ⟨b,o + k * 2 + 1,none⟩ = some (.string X[k].2):=by
  obtain ⟨b',o',e,h1⟩:=h.cells hk
  injection e with e
  injection e with e1 e2
  subst e1 e2
  exact h1
set_option maxRecDepth 100000 in
set_option maxHeartbeats 8000000 in
theorem capsF_any (R : List Bm) (rv : Value) (w : World) (hR : R.length ≤ 1000000) (hs : shortL R) (hr : MsAt w rv R) :
    Calls Tryz.prog 51 #[rv] w fun e w'=>e = .returned (faultV (chkP R)) /\ Below w.heap.size w w':=by
  have HB0:=hid ((Below.refl w.heap.size w).alloc (Nat.le_refl _) (.cells #[.int .i64 0,.int .i64 0] 36))
  have HE0:=hid (heap_new w (.cells #[.int .i64 0,.int .i64 0] 36))
  have HFN:=hid (fun W=>fine_any W)
  have HMR:=hid (fun W (h : Below w.heap.size w W)=>hr.below h)
  have HGD:=hid (caps_good (caps:=R))
  have HBD:=hid (fun k (hk : k < R.length) h0 h=>caps_bad (caps:=R) (k:=k) hk h0 h)
  have HSZ:=hid hs
  obtain ⟨ra,rc,hrv,-⟩:=id hr
  subst hrv
  have HCE:=hid (fun k (h : k < R.length)=>capE_at h)
  generalize chkP R = ans at *
  clear hr hs
  go_enter Tryz.func51,Tryz.ntmps51
  go_wp2_with fail
  go_loopw [3] (fun kv wr=>∃ k : Nat,k <= R.length /\ kv = .int .i64 k /\ Hid (∀ j,j < k -> capE R j = 0) /\ Hid (Below w.heap.size w wr) /\ Hid (wr.heap[w.heap.size]? = some (.cells #[.int .i64 0,.int .i64 0] 36 (0,0)))) (fun kv _=>R.length - (intOf kv).toNat)
  case atStart=>exact ⟨0,Nat.zero_le _,rfl,hid (fun j h=>absurd h (Nat.not_lt_zero _)),HB0,HE0⟩
  case round=>
    obtain ⟨k,hk,rfl,HZ3,HB3,HE3⟩:=hrel
    by_cases hlk : k < R.length
    · have hkI : (k : Int) < (R.length : Int):=by omega
      have hk0 : (0 : Int) <= (k : Int):=by omega
      obtain ⟨xb,xo,hxa,-,-⟩:=(HMR.out _ HB3.out).cells hlk
      subst hxa
      have HLK:=hid hlk
      obtain ⟨x,hxc,hxs,hxe⟩ : ∃ x : Bm,(∀ W,Below w.heap.size w W -> W.cell? ⟨xb,xo + k * 2,none⟩ = some (.string x.1) /\ W.cell? ⟨xb,xo + k * 2 + 1,none⟩ = some (.string x.2)) /\ (x.1.size < 999999 /\ x.2.size < 999999) /\ capE R k = capW (prevOf R k) x:=⟨_,fun W h=>ms_atC (HMR.out W h) hlk,HSZ.out _ (List.getElem_mem hlk),HCE.out k hlk⟩
      have HBK:=hid (HBD.out k hlk HZ3.out)
      have HNK:=hid (fun h0=>zero_next (E:=capE R) HZ3.out (k:=k) h0)
      obtain ⟨p,v⟩:=x
      simp only at hxs
      have HXC:=hid hxc
      have HXE:=hid hxe
      obtain ⟨y0,y1⟩:=HXC.out _ HB3.out
      have HPE:=hid (pathError_any p wr (by omega))
      have HVO:=hid (fun W=>verOf_any v W (by omega))
      clear hxc hxs hxe
      by_cases hp : pathErr p.data.toList = 0
      · rw [hp] at HPE
        have HP0:=hid (show pathErr ((p,v) : Bm).1.data.toList = 0 from hp)
        clear hp
        by_cases hv : v.data.toList = noneL
        · have hq : (v.toList == [110,111,110,101]) = true:=by rw [ByteArray.toList_eq]; exact beq_iff_eq.2 hv
          have HV0:=hid (show vb ((p,v) : Bm) = noneL \/ verErr (vb ((p,v) : Bm)) = 0 from Or.inl hv)
          clear hv HVO
          go_wp2_with fail
          refine HPE.out.mono ?_
          rintro e w1 ⟨rfl,hb⟩
          have HB4:=hid (HB3.out.trans (hb.mono HB3.out.size))
          have HE4:=hid ((hb.block _ (lt_of_blk HE3.out)).trans HE3.out)
          clear hb
          obtain ⟨z0,z1⟩:=HXC.out _ HB4.out
          clear y0 y1
          rcases Nat.eq_zero_or_pos k with h00 | h00
          · have HN2:=hid (HNK.out (by rw [HXE.out,show prevOf R k = none by subst h00; rfl]; exact capW_first HP0.out HV0.out))
            have g3 : decide (0 < k) = false:=decide_eq_false (by omega)
            clear h00
            go_wp2_with fail
            go_quiet (fail)
            go_wp2_with fail
            have HBq:=hid (below_drawn_of HB4.out nq)
            go_roundw
            case rel=>first | exact ⟨k + 1,HLK.out,nr_idx k,HN2,HBq,HE4⟩ | exact ⟨k + 1,HLK.out,nx_idx HLK.out hR,HN2,HBq,HE4⟩
            case measure=>first | exact nr_meas HLK.out | exact nx_meas HLK.out hR
          · obtain ⟨j,hj⟩ : ∃ j,k = j + 1:=⟨k - 1,by omega⟩
            obtain ⟨pr,hpr,hpc⟩ : ∃ pr : Bm,prevOf R k = some pr /\ w1.cell? ⟨xb,xo + j * 2,none⟩ = some (.string pr.1):=⟨R[j]'(by omega),by subst hj; unfold prevOf; rw [if_neg (by omega)]; exact List.getElem?_eq_getElem (by omega),(ms_atC (HMR.out _ HB4.out) (k:=j) (by omega)).1⟩
            have HPR:=hid hpr
            obtain ⟨q,qv⟩:=pr
            have hle:=fun X=>leq_is p q X
            have g3 : decide (0 < k) = true:=decide_eq_true (by omega)
            have g0 : (0 : Int) < (k : Int):=by omega
            have g4 : (k : Int) - 1 = (j : Int):=by omega
            have g5 : (0 : Int) <= (j : Int):=by omega
            have g6 : (j : Int) < (R.length : Int):=by omega
            have gw : IntKind.i64.wrap (j : Int) = (j : Int):=by rw [IntKind.wrap_i64]; omega
            obtain ⟨u0,u1⟩:=HXC.out _ HB4.out
            clear hj hpr h00
            cases hz : noLess q p
            · rw [hz] at hle
              have HN2:=hid (HNK.out (by rw [HXE.out,HPR.out]; exact capW_right HP0.out HV0.out hz))
              clear hz
              go_wp2_with fail
              go_quiet (fail)
              go_wp2_with fail
              have HBq:=hid (below_drawn_of HB4.out nq)
              go_roundw
              case rel=>first | exact ⟨k + 1,HLK.out,nr_idx k,HN2,HBq,HE4⟩ | exact ⟨k + 1,HLK.out,nx_idx HLK.out hR,HN2,HBq,HE4⟩
              case measure=>first | exact nr_meas HLK.out | exact nx_meas HLK.out hR
            · rw [hz] at hle
              have hc8 : capE R k = 8:=by rw [HXE.out,HPR.out]; exact capW_order HP0.out HV0.out hz
              have HX:=hid (HBK.out (by rw [hc8]; decide))
              rw [hc8] at HX
              clear hz hc8
              have s0 : w1.cell? ⟨w.heap.size,0,none⟩ = some (.int .i64 0):=by rw [Lib.cell_of_heap HE4.out]; rfl
              have s1 : w1.cell? ⟨w.heap.size,1,none⟩ = some (.int .i64 0):=by rw [Lib.cell_of_heap HE4.out]; rfl
              have tf:=fun o=>Lib.frozen_of_heap HE4.out o
              go_wp2_with fail
              go_quiet (fail)
              go_wp2_with fail
              refine bodyPost_ret (v:=.agg #[.int .i64 8,.int .i64 (k : Int)]) (by simp [results,Tryz.results51,go_sem,s0,s1]) rfl ⟨by rw [HX.out]; rfl,?_⟩
              exact put2_below (below_drawn_of HB4.out _) (Nat.le_refl _)
        · have hq : (v.toList == [110,111,110,101]) = false:=by rw [ByteArray.toList_eq]; exact beq_eq_false_iff_ne.2 hv
          have HVN:=hid hv
          clear hv
          by_cases hve : verErr v.data.toList = 0
          · have HV0:=hid (show vb ((p,v) : Bm) = noneL \/ verErr (vb ((p,v) : Bm)) = 0 from Or.inr hve)
            have HV9:=hid hve
            clear hve
            go_wp2_with fail
            refine HPE.out.mono ?_
            rintro e w1 ⟨rfl,hb⟩
            have HB4:=hid (HB3.out.trans (hb.mono HB3.out.size))
            have HE4:=hid ((hb.block _ (lt_of_blk HE3.out)).trans HE3.out)
            clear hb
            obtain ⟨z0,z1⟩:=HXC.out _ HB4.out
            clear y0 y1
            go_wp2_with fail
            refine (HVO.out w1).mono ?_
            rintro e w2 ⟨hvo,hb⟩
            rcases hvo with ⟨h,-⟩ | ⟨-,sa,cap,X2,rfl,-,-⟩
            · exact absurd HV9.out h
            have HB5:=hid (HB4.out.trans (hb.mono HB4.out.size))
            have HE5:=hid ((hb.block _ (lt_of_blk HE4.out)).trans HE4.out)
            clear hb
            clear z0 z1
            rcases Nat.eq_zero_or_pos k with h00 | h00
            · have HN2:=hid (HNK.out (by rw [HXE.out,show prevOf R k = none by subst h00; rfl]; exact capW_first HP0.out HV0.out))
              have g3 : decide (0 < k) = false:=decide_eq_false (by omega)
              clear h00
              go_wp2_with fail
              go_quiet (fail)
              go_wp2_with fail
              have HBq:=hid (below_drawn_of HB5.out nq)
              go_roundw
              case rel=>first | exact ⟨k + 1,HLK.out,nr_idx k,HN2,HBq,HE5⟩ | exact ⟨k + 1,HLK.out,nx_idx HLK.out hR,HN2,HBq,HE5⟩
              case measure=>first | exact nr_meas HLK.out | exact nx_meas HLK.out hR
            · obtain ⟨j,hj⟩ : ∃ j,k = j + 1:=⟨k - 1,by omega⟩
              obtain ⟨pr,hpr,hpc⟩ : ∃ pr : Bm,prevOf R k = some pr /\ w2.cell? ⟨xb,xo + j * 2,none⟩ = some (.string pr.1):=⟨R[j]'(by omega),by subst hj; unfold prevOf; rw [if_neg (by omega)]; exact List.getElem?_eq_getElem (by omega),(ms_atC (HMR.out _ HB5.out) (k:=j) (by omega)).1⟩
              have HPR:=hid hpr
              obtain ⟨q,qv⟩:=pr
              have hle:=fun X=>leq_is p q X
              have g3 : decide (0 < k) = true:=decide_eq_true (by omega)
              have g0 : (0 : Int) < (k : Int):=by omega
              have g4 : (k : Int) - 1 = (j : Int):=by omega
              have g5 : (0 : Int) <= (j : Int):=by omega
              have g6 : (j : Int) < (R.length : Int):=by omega
              have gw : IntKind.i64.wrap (j : Int) = (j : Int):=by rw [IntKind.wrap_i64]; omega
              obtain ⟨u0,u1⟩:=HXC.out _ HB5.out
              clear hj hpr h00
              cases hz : noLess q p
              · rw [hz] at hle
                have HN2:=hid (HNK.out (by rw [HXE.out,HPR.out]; exact capW_right HP0.out HV0.out hz))
                clear hz
                go_wp2_with fail
                go_quiet (fail)
                go_wp2_with fail
                have HBq:=hid (below_drawn_of HB5.out nq)
                go_roundw
                case rel=>first | exact ⟨k + 1,HLK.out,nr_idx k,HN2,HBq,HE5⟩ | exact ⟨k + 1,HLK.out,nx_idx HLK.out hR,HN2,HBq,HE5⟩
                case measure=>first | exact nr_meas HLK.out | exact nx_meas HLK.out hR
              · rw [hz] at hle
                have hc8 : capE R k = 8:=by rw [HXE.out,HPR.out]; exact capW_order HP0.out HV0.out hz
                have HX:=hid (HBK.out (by rw [hc8]; decide))
                rw [hc8] at HX
                clear hz hc8
                have s0 : w2.cell? ⟨w.heap.size,0,none⟩ = some (.int .i64 0):=by rw [Lib.cell_of_heap HE5.out]; rfl
                have s1 : w2.cell? ⟨w.heap.size,1,none⟩ = some (.int .i64 0):=by rw [Lib.cell_of_heap HE5.out]; rfl
                have tf:=fun o=>Lib.frozen_of_heap HE5.out o
                go_wp2_with fail
                go_quiet (fail)
                go_wp2_with fail
                refine bodyPost_ret (v:=.agg #[.int .i64 8,.int .i64 (k : Int)]) (by simp [results,Tryz.results51,go_sem,s0,s1]) rfl ⟨by rw [HX.out]; rfl,?_⟩
                exact put2_below (below_drawn_of HB5.out _) (Nat.le_refl _)
          · have hc9 : capE R k = verErr v.data.toList:=by rw [HXE.out]; exact capW_ver HP0.out HVN.out hve
            have HX:=hid (HBK.out (by rw [hc9]; exact hve))
            rw [hc9] at HX
            have HV9:=hid hve
            have hpos : (0 : Int) < (verErr v.data.toList : Int):=by omega
            have hnz : ((verErr v.data.toList : Int) == 0) = false:=by simp; omega
            clear hve hc9
            generalize verErr v.data.toList = ve at *
            go_wp2_with fail
            refine HPE.out.mono ?_
            rintro e w1 ⟨rfl,hb⟩
            have HB4:=hid (HB3.out.trans (hb.mono HB3.out.size))
            have HE4:=hid ((hb.block _ (lt_of_blk HE3.out)).trans HE3.out)
            clear hb
            obtain ⟨z0,z1⟩:=HXC.out _ HB4.out
            clear y0 y1
            go_wp2_with fail
            refine (HVO.out w1).mono ?_
            rintro e w2 ⟨hvo,hb⟩
            rcases hvo with ⟨-,rfl⟩ | ⟨h,-⟩
            rotate_left
            · exact absurd h HV9.out
            have HB5:=hid (HB4.out.trans (hb.mono HB4.out.size))
            have HE5:=hid ((hb.block _ (lt_of_blk HE4.out)).trans HE4.out)
            clear hb
            clear z0 z1
            have s0 : w2.cell? ⟨w.heap.size,0,none⟩ = some (.int .i64 0):=by rw [Lib.cell_of_heap HE5.out]; rfl
            have s1 : w2.cell? ⟨w.heap.size,1,none⟩ = some (.int .i64 0):=by rw [Lib.cell_of_heap HE5.out]; rfl
            have tf:=fun o=>Lib.frozen_of_heap HE5.out o
            go_wp2_with fail
            go_quiet (fail)
            go_wp2_with fail
            refine bodyPost_ret (v:=.agg #[.int .i64 (ve : Nat),.int .i64 (k : Int)]) (by simp [results,Tryz.results51,go_sem,s0,s1]) rfl ⟨by rw [HX.out]; rfl,?_⟩
            exact put2_below (below_drawn_of HB5.out _) (Nat.le_refl _)
      · have hc9 : capE R k = pathErr p.data.toList:=by rw [HXE.out]; exact capW_path hp
        have HX:=hid (HBK.out (by rw [hc9]; exact hp))
        rw [hc9] at HX
        have hpos : (0 : Int) < (pathErr p.data.toList : Int):=by omega
        have hnz : ((pathErr p.data.toList : Int) == 0) = false:=by simp; omega
        clear hp hc9 HVO
        generalize pathErr p.data.toList = pe at *
        go_wp2_with fail
        refine HPE.out.mono ?_
        rintro e w1 ⟨rfl,hb⟩
        have HB4:=hid (HB3.out.trans (hb.mono HB3.out.size))
        have HE4:=hid ((hb.block _ (lt_of_blk HE3.out)).trans HE3.out)
        clear hb
        clear y0 y1
        have s0 : w1.cell? ⟨w.heap.size,0,none⟩ = some (.int .i64 0):=by rw [Lib.cell_of_heap HE4.out]; rfl
        have s1 : w1.cell? ⟨w.heap.size,1,none⟩ = some (.int .i64 0):=by rw [Lib.cell_of_heap HE4.out]; rfl
        have tf:=fun o=>Lib.frozen_of_heap HE4.out o
        go_wp2_with fail
        go_quiet (fail)
        go_wp2_with fail
        refine bodyPost_ret (v:=.agg #[.int .i64 (pe : Nat),.int .i64 (k : Int)]) (by simp [results,Tryz.results51,go_sem,s0,s1]) rfl ⟨by rw [HX.out]; rfl,?_⟩
        exact put2_below (below_drawn_of HB4.out _) (Nat.le_refl _)
    · have hkI : ¬ (k : Int) < (R.length : Int):=by omega
      have HX:=hid (HGD.out (fun j h=>HZ3.out j (by omega)))
      clear hlk
      go_wp2_with fail
      refine (HFN.out _).mono ?_
      rintro e w1 ⟨rfl,hb⟩
      have HB4:=hid (HB3.out.trans (hb.mono HB3.out.size))
      have HE4:=hid ((hb.block _ (lt_of_blk HE3.out)).trans HE3.out)
      clear hb
      have s0 : w1.cell? ⟨w.heap.size,0,none⟩ = some (.int .i64 0):=by rw [Lib.cell_of_heap HE4.out]; rfl
      have s1 : w1.cell? ⟨w.heap.size,1,none⟩ = some (.int .i64 0):=by rw [Lib.cell_of_heap HE4.out]; rfl
      have tf:=fun o=>Lib.frozen_of_heap HE4.out o
      go_wp2_with fail
      refine bodyPost_ret (v:=.agg #[.int .i64 0,.int .i64 (-1)]) (by simp [results,Tryz.results51,go_sem,s0,s1]) rfl ⟨by rw [HX.out]; rfl,?_⟩
      exact put2_below HB4.out (Nat.le_refl _)
def anyN (f : Nat -> Bool) : Nat -> Bool
  | 0=>false
  | n + 1=>anyN f n || f n
theorem anyN_iff {f : Nat → Bool} : ∀ n, anyN f n = true ↔ ∃ j, j < n ∧ f j = true
  | 0=>by simp [anyN]
  | n + 1 => by
    simp only [anyN,Bool.or_eq_true,anyN_iff n]
    constructor
    · rintro (⟨j,h1,h2⟩ | h)
      · exact ⟨j,by omega,h2⟩
      · exact ⟨n,by omega,h⟩
    · rintro ⟨j,h1,h2⟩
      rcases Nat.lt_or_ge j n with h | h
      · exact Or.inl ⟨j,h,h2⟩
      · have : j = n:=by omega
        subst this; exact Or.inr h2
def hitN (O : List Bool) (U caps : List Bm) (j : Nat) : Bool:=match U[j]?,O[j]? with
  | some u,some o=>o && capB caps u
  | _,_=>false
theorem hitN_at {O : List Bool} {U caps : List Bm} {j : Nat} (h : j < U.length) (h' : j < O.length) : hitN O U caps j = (O[j] && capB caps U[j]):=by
  unfold hitN
  rw [List.getElem?_eq_getElem h,List.getElem?_eq_getElem h']
theorem rch_uniB {w : World} {v : Value} {Q : List Raw} {L : List Ent} {roots : List Bm} (I : Ixs w v Q L) (h : (chkG Q L roots).1 = 0) {m : Bm} (hm : Rch (reqQ Q L) roots m) : m ∈ univ L:=by
  have r:=rgt_of I h
  induction hm with
  | root hr=>exact r.r _ hr
  | step _ hr ih=>exact chk_reqs0 I r.c _ ih _ hr
theorem hit_bd {w : World} {v : Value} {Q : List Raw} {L : List Ent} {caps : List Bm} {O : List Bool} {i : Nat} (I : Ixs w v Q L) (k0 : (chk Q L).1 = 0) (hi : i < (univ L).length) (hl : O.length = (univ L).length)
    (hO : ∀ j (h : j < (univ L).length) (h' : j < O.length),O[j] = true ↔ Rch (reqQ Q L) [(univ L)[i]] (univ L)[j]) (h' : i < (bdL Q L caps).length) : anyN (hitN O (univ L) caps) (univ L).length = (bdL Q L caps)[i]:=by
  refine Bool.eq_iff_iff.2 ((anyN_iff _).trans (Iff.trans ?_ (bdL_at hi h').symm))
  constructor
  · rintro ⟨j,h1,h2⟩
    rw [hitN_at h1 (by omega),Bool.and_eq_true] at h2
    exact ⟨_,(hO j h1 (by omega)).1 h2.1,h2.2⟩
  · rintro ⟨k,hk,hc⟩
    have hG : (chkG Q L [(univ L)[i]]).1 = 0:=chkG_in I k0 fun x hx=>by
      rw [List.mem_singleton.1 hx]; exact List.getElem_mem hi
    obtain ⟨j,hj,rfl⟩:=List.getElem_of_mem (rch_uniB I hG hk)
    exact ⟨j,hj,by rw [hitN_at hj (by omega),hc,(hO j hj (by omega)).2 hk]; rfl⟩
def BvAt (W : World) (v : Value) (O : List Bool) : Prop:=∃ a c,v = .slice a O.length c /\ (O ≠ [] -> ∃ b o,a = some ⟨b,o,none⟩ /\ ∀ j (h : j < O.length),W.cell? ⟨b,o + j,none⟩ = some (.bool O[j]))
theorem BvAt.below {W W' : World} {v : Value} {O : List Bool} (h : BvAt W v O) (hb : Below W.heap.size W W') : BvAt W' v O:=by
  obtain ⟨a,c,rfl,h1⟩:=h
  refine ⟨a,c,rfl,fun hO=>?_⟩
  obtain ⟨b,o,rfl,h2⟩:=h1 hO
  exact ⟨b,o,rfl,fun j hj=>cell_below hb (h2 j hj)⟩
theorem BvAt.cells {W : World} {a : Option Addr} {n c : Nat} {O : List Bool} (h : BvAt W (.slice a n c) O) {j : Nat} (hj : j < O.length) : ∃ b o,a = some ⟨b,o,none⟩ /\ W.cell? ⟨b,o + j,none⟩ = some (.bool O[j]):=by
  obtain ⟨a',c',e,h1⟩:=h
  injection e with e1 e2 e3
  subst e1
  obtain ⟨b,o,rfl,h2⟩:=h1 (fun e=>by rw [e] at hj; exact absurd hj (Nat.not_lt_zero _))
  exact ⟨b,o,rfl,h2 j hj⟩
theorem BvAt.at {W : World} {b o n c : Nat} {O : List Bool} (h : BvAt W (.slice (some ⟨b,o,none⟩) n c) O) {j : Nat} (hj : j < O.length) : W.cell? ⟨b,o + j,none⟩ = some (.bool O[j]):=by
  obtain ⟨b',o',e,h1⟩:=h.cells hj
  injection e with e
  injection e with e1 e2
  subst e1 e2
  exact h1
theorem own_bv {W : World} {B : Nat} {v : Value} {O : List Bool} (h : W.ownsRow B 4 1 v O.length (O.map Value.bool)) : BvAt W v O:=by
  obtain ⟨_,⟨hv,hn0⟩ | ⟨g,cap,cur,hv,hg,hblk,hcap,hcm,hcs,hct⟩⟩:=h
  · exact ⟨none,0,by rw [hv,hn0],fun hP=>absurd (List.length_eq_zero_iff.1 hn0) hP⟩
  · refine ⟨_,cap,hv,fun _=>⟨g,0,rfl,fun j hj=>?_⟩⟩
    have h1 : (O.map Value.bool)[j]? = some (.bool O[j]):=by simp [hj]
    rw [<- hct,List.getElem?_take,if_pos (by omega)] at h1
    simp only [World.cell?,hblk]
    rw [Nat.zero_add,<- h1]; simp
theorem rel_appK {B k : Nat} {w wr w2 w3 : World} {e : TypeId} {v : Value} {n : Nat} {xs : List Value} {o : Obj} (hB : B <= wr.heap.size) (hb : Below B w wr) (hown : wr.ownsRow B e k v n xs) (hb2 : Below wr.heap.size wr w2)
    (hg : (w2.alloc o).grownBy w3 v.ownBlock) : Below B w w3:=by
  have h2 : Below B w w2:=hb.trans (hb2.mono hB)
  have h3 : Below B w (w2.alloc o):=h2.alloc (Nat.le_trans hB hb2.size) o
  exact h3.grown hg (by simp; exact Nat.le_succ_of_le (Nat.le_trans hB hb2.size)) (fun k hk=>(hown.lt k hk).1)
set_option maxRecDepth 100000 in
set_option maxHeartbeats 4000000 in
theorem bdo_bad1 (Q : List Raw) (L : List Ent) (caps : List Bm) (v cv : Value) (w : World) (hn : L.length <= 1000) (sh : ∀ e,e ∈ L -> ShE e) (I : Ixs w v Q L) (hc : MsAt w cv caps) (h0 : (chk Q L).1 ≠ 0) :
    Calls Tryz.prog 53 #[v,cv] w fun e w'=>e = .returned (.tuple #[.slice none 0 0,faultV (chk Q L)]) /\ Below w.heap.size w w':=by
  have HB0:=hid ((Below.refl w.heap.size w).alloc (Nat.le_refl _) (.cells #[.int .i64 0,.int .i64 0] 36))
  have HE0:=hid (heap_new w (.cells #[.int .i64 0,.int .i64 0] 36))
  have HIF:=hid (iFault_any Q L v _ hn sh (I.below HB0.out))
  obtain ⟨a,c,hv1,-⟩:=id I.es
  subst hv1
  obtain ⟨ra,rc,hrv,-⟩:=id hc
  subst hrv
  obtain ⟨cc,oo,hco⟩ : ∃ cc oo,chk Q L = (cc,oo):=⟨_,_,rfl⟩
  rw [hco] at HIF h0 ⊢
  unfold faultV at HIF ⊢
  simp only at HIF h0 ⊢
  generalize atOf oo = ao at *
  have hpos : (0 : Int) < (cc : Int):=by omega
  have hnz : ((cc : Int) == 0) = false:=by simp; omega
  have hnz2 : ¬ (cc : Int) = 0:=by omega
  clear I hc sh h0 hco
  go_enter Tryz.func53,Tryz.ntmps53
  go_wp2_with fail
  refine HIF.out.mono ?_
  rintro e w1 ⟨rfl,hb⟩
  have HB1:=hid (HB0.out.trans (hb.mono HB0.out.size))
  have HE1:=hid ((hb.block _ (lt_of_blk HE0.out)).trans HE0.out)
  clear hb
  have HB2:=hid (HB1.out.alloc HB1.out.size (.cells #[.int .i64 (cc : Int),.int .i64 ao] 36))
  have HE2:=hid (heap_old w1 (.cells #[.int .i64 (cc : Int),.int .i64 ao] 36) HE1.out)
  have HF2:=hid (heap_new w1 (.cells #[.int .i64 (cc : Int),.int .i64 ao] 36))
  have HLT:=hid (lt_of_blk HE1.out)
  have hne : ¬ w1.heap.size = w.heap.size:=Nat.ne_of_gt (lt_of_blk HE1.out)
  have hne2 : ¬ w.heap.size = w1.heap.size:=Nat.ne_of_lt (lt_of_blk HE1.out)
  go_wp2_with fail
  generalize w1.alloc (.cells #[.int .i64 (cc : Int),.int .i64 ao] 36) = w2 at *
  have HBx:=HB2
  have HEx:=HE2
  have HFx:=HF2
  obtain ⟨s0,s1,tf⟩:=box_two HEx.out
  obtain ⟨f0,f1,_⟩:=box_two HFx.out
  go_region_with fail
  all_goals
    go_wp2_with fail
    refine bodyPost_ret (v:=.tuple #[.slice none 0 0,.agg #[.int .i64 (cc : Int),.int .i64 ao]]) (by simp [results,Tryz.results53,go_sem,s0,s1]) rfl ⟨rfl,?_⟩
    exact put2_below (below_drawn_of HBx.out 1) (Nat.le_refl _)
set_option maxRecDepth 100000 in
set_option maxHeartbeats 4000000 in
theorem bdo_bad2 (Q : List Raw) (L : List Ent) (caps : List Bm) (v cv : Value) (w : World) (hn : L.length <= 1000) (hcn : caps.length <= 1000000) (hs : shortL caps) (sh : ∀ e,e ∈ L -> ShE e) (I : Ixs w v Q L) (hc : MsAt w cv caps) (h0 : (chk Q L).1 = 0) (h1 : (chkP caps).1 ≠ 0) :
    Calls Tryz.prog 53 #[v,cv] w fun e w'=>e = .returned (.tuple #[.slice none 0 0,faultV (chkP caps)]) /\ Below w.heap.size w w':=by
  have HB0:=hid ((Below.refl w.heap.size w).alloc (Nat.le_refl _) (.cells #[.int .i64 0,.int .i64 0] 36))
  have HE0:=hid (heap_new w (.cells #[.int .i64 0,.int .i64 0] 36))
  have HIF:=hid (iFault_any Q L v _ hn sh (I.below HB0.out))
  have HRF:=hid (fun W (h : Below w.heap.size w W)=>capsF_any caps cv W hcn hs (hc.below h))
  obtain ⟨a,c,hv1,-⟩:=id I.es
  subst hv1
  obtain ⟨ra,rc,hrv,-⟩:=id hc
  subst hrv
  obtain ⟨oo0,hco⟩ : ∃ oo,chk Q L = (0,oo):=⟨(chk Q L).2,Prod.ext h0 rfl⟩
  rw [hco] at HIF
  obtain ⟨rc0,oo1,hcp⟩ : ∃ cc oo,chkP caps = (cc,oo):=⟨_,_,rfl⟩
  rw [hcp] at HRF h1 ⊢
  unfold faultV at HIF HRF ⊢
  simp only at HIF HRF h1 ⊢
  generalize atOf oo0 = ao0 at *
  generalize atOf oo1 = ar at *
  have hpos : (0 : Int) < (rc0 : Int):=by omega
  have hnz : ((rc0 : Int) == 0) = false:=by simp; omega
  have hnz2 : ¬ (rc0 : Int) = 0:=by omega
  clear I hc hs sh h0 hco h1 hcp
  go_enter Tryz.func53,Tryz.ntmps53
  go_wp2_with fail
  refine HIF.out.mono ?_
  rintro e w1 ⟨rfl,hb⟩
  have HB1:=hid (HB0.out.trans (hb.mono HB0.out.size))
  have HE1:=hid ((hb.block _ (lt_of_blk HE0.out)).trans HE0.out)
  clear hb
  have HB2:=hid (HB1.out.alloc HB1.out.size (.cells #[.int .i64 0,.int .i64 ao0] 36))
  have HE2:=hid (heap_old w1 (.cells #[.int .i64 0,.int .i64 ao0] 36) HE1.out)
  have HF2:=hid (heap_new w1 (.cells #[.int .i64 0,.int .i64 ao0] 36))
  have HLT:=hid (lt_of_blk HE1.out)
  have hne : ¬ w1.heap.size = w.heap.size:=Nat.ne_of_gt (lt_of_blk HE1.out)
  have hne2 : ¬ w.heap.size = w1.heap.size:=Nat.ne_of_lt (lt_of_blk HE1.out)
  go_wp2_with fail
  generalize hg2 : w1.alloc (.cells #[.int .i64 0,.int .i64 ao0] 36) = w2 at *
  clear hg2
  refine (HRF.out _ HB2.out).mono ?_
  rintro e w3 ⟨rfl,hb⟩
  have HB3a:=hid (HB2.out.trans (hb.mono HB2.out.size))
  have HE3a:=hid ((hb.block _ (lt_of_blk HE2.out)).trans HE2.out)
  have HF3a:=hid ((hb.block _ (lt_of_blk HF2.out)).trans HF2.out)
  clear hb
  have HB3:=hid (put2_below (x:=.int .i64 (rc0 : Int)) (y:=.int .i64 ar) HB3a.out (Nat.le_of_lt HLT.out))
  have HE3:=hid (keep_set (fb:=w1.heap.size) (o:=1) (x:=.int .i64 ar) (keep_set (fb:=w1.heap.size) (o:=0) (x:=.int .i64 (rc0 : Int)) HE3a.out hne2) hne2)
  have HF3:=hid (set_block (o:=1) (x:=.int .i64 ar) (set_block (o:=0) (x:=.int .i64 (rc0 : Int)) HF3a.out))
  obtain ⟨g0,g1,gf⟩:=box_two HF3a.out
  go_wp2_with fail
  generalize hg3 : (w3.setCell ⟨w1.heap.size,0,none⟩ (.int .i64 (rc0 : Int))).setCell ⟨w1.heap.size,1,none⟩ (.int .i64 ar) = w3b at *
  clear hg3 g0 g1 gf
  have HF3 : Hid (w3b.heap[w1.heap.size]? = some (.cells #[.int .i64 (rc0 : Int),.int .i64 ar] 36 (0,0))):=hid HF3.out
  have HBx:=HB3
  have HEx:=HE3
  have HFx:=HF3
  obtain ⟨s0,s1,tf⟩:=box_two HEx.out
  obtain ⟨f0,f1,_⟩:=box_two HFx.out
  go_region_with fail
  all_goals
    go_wp2_with fail
    refine bodyPost_ret (v:=.tuple #[.slice none 0 0,.agg #[.int .i64 (rc0 : Int),.int .i64 ar]]) (by simp [results,Tryz.results53,go_sem,s0,s1]) rfl ⟨rfl,?_⟩
    exact put2_below (below_drawn_of HBx.out 1) (Nat.le_refl _)
end Ve
end Go.Proofs.YtlcffhadobhfkaaGreatDoor
