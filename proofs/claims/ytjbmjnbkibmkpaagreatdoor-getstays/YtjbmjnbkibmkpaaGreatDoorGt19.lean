
import Derived.Test.YtjbmjnbkibmkpaaGreatDoorGt18
import Derived.Deep.RegionHeld
import Derived.Test.YtjbmjnbkibmkpaaGreatDoorGt15
import Derived.Lib.AppendZeros
import Derived.Test.YtjbmjnbkibmkpaaGreatDoorGt9
import Derived.Test.YtjbmjnbkibmkpaaGreatDoorGt14
set_option maxHeartbeats 8000000
namespace Go.Proofs.YtjbmjnbkibmkpaaGreatDoor
open Go.RowKit
namespace Ve
theorem sameP_any (a b : Bm) (W : World) :
  Calls Tryz.prog 85 #[.agg #[.string a.1,.string a.2],.agg #[.string b.1,.string b.2]] W fun e w'=>e = .returned (.bool (decide (a.1 = b.1))) /\ Below W.heap.size W w':=by
 obtain ⟨p,v⟩:=a
 obtain ⟨q,u⟩:=b
 have HB0:=hid (((Below.refl W.heap.size W).alloc (Nat.le_refl _) (.cells #[.string p,.string v] 47)).alloc (by simp) (.cells #[.string q,.string u] 47))
 by_cases h : p = q
 ·subst h
  have he:=str_refl p
  have HD:=hid (show decide (p = p) = true by simp)
  show Calls Tryz.prog 85 _ W fun e w'=>e = .returned (.bool (decide (p = p))) /\ _
  generalize decide (p = p) = z at *
  go_enter Tryz.func85,Tryz.ntmps85
  go_wp2_with fail
  go_ret
  exact ⟨ret_bool HD.out.symm,HB0.out⟩
 ·have he:=str_ne h
  have HD:=hid (show decide (p = q) = false by simp [h])
  show Calls Tryz.prog 85 _ W fun e w'=>e = .returned (.bool (decide (p = q))) /\ _
  generalize decide (p = q) = z at *
  go_enter Tryz.func85,Tryz.ntmps85
  go_wp2_with fail
  go_ret
  exact ⟨ret_bool HD.out.symm,HB0.out⟩
theorem compactM_nil (a : Option Addr) (c : Nat) (W : World) : Calls Tryz.prog 84 #[.slice a 0 c,.func (.func 85) #[] #[]] W fun e w'=>e = .returned (.slice a 0 c) /\ Below W.heap.size W w':=by
 go_enter Tryz.func84,Tryz.ntmps84
 go_wp2_with fail
 go_ret
 exact ⟨rfl,Below.refl _ _⟩
def TwoM (w0 W : World) (g i j : Nat) (D : List Bm) (y x : Bm) : Prop:=
 W.cell? ⟨g,i,none⟩ = some (.string y.1) /\ W.cell? ⟨g,i + 1,none⟩ = some (.string y.2) /\ W.cell? ⟨g,j,none⟩ = some (.string x.1) /\ W.cell? ⟨g,j + 1,none⟩ = some (.string x.2) /\ Hid (Mw w0 W g D)
theorem Mw.two {w0 W : World} {g : Nat} {D : List Bm} (h : Mw w0 W g D) {j : Nat} {y x : Bm} (hy : D[j]? = some y) (hx : D[j + 1]? = some x) : TwoM w0 W g (j * 2) ((j + 1) * 2) D y x:=
 ⟨(h.at hy).1,(h.at hy).2,(h.at hx).1,(h.at hx).2,h⟩
set_option maxRecDepth 100000 in
theorem compact_mw (w0 w : World) (g cap : Nat) (D : List Bm) (hD : D ≠ []) (h12 : D.length <= 1000000) (hc : D.length <= cap) (hr : ∀ r,r ∈ D -> Rt r) (hs : srtM D) (hR : Mw w0 w g D) :
  Calls Tryz.prog 84 #[.slice (some ⟨g,0,none⟩) D.length cap,.func (.func 85) #[] #[]] w fun e w'=>∃ E : List Bm,e = .returned (.slice (some ⟨g,0,none⟩) E.length cap) /\ E.length <= D.length /\ Jn D E /\ Mw w0 w' g E:=by
 have HR:=hid hR
 have HS:=hid hs
 have HRT:=hid hr
 have hpos : 0 < D.length:=List.length_pos_iff.2 hD
 clear hR hs hD hr
 by_cases h2 : D.length < 2
 ·have h2i : (D.length : Int) < 2:=by omega
  have HRI:=hid (show Jn D D by
   have h:=(CpM.start hpos HRT.out)
   rw [show (1 : Nat) = D.length by omega,List.take_length] at h
   exact h.jn HRT.out)
  go_enter Tryz.func84,Tryz.ntmps84
  go_wp2_with fail
  go_ret
  exact ⟨D,rfl,Nat.le_refl _,HRI.out,HR.out⟩
 ·have h2i : ¬ (D.length : Int) < 2:=by omega
  go_enter Tryz.func84,Tryz.ntmps84
  go_wp2_with fail
  go_loopw [5] (fun i wr=>∃ k : Nat,k + 1 <= D.length /\ i = .int .i64 ((k : Int) + 1) /\ Hid (CpM D (k + 1) (D.take (k + 1))) /\ Hid (Mw w0 wr g D)) (fun i _=>D.length - (intOf i).toNat)
  case atStart=>exact ⟨0,by omega,rfl,hid (CpM.start hpos HRT.out),HR⟩
  case round=>
   obtain ⟨k,hk,rfl,HCP,HRW⟩:=hrel
   by_cases hkn : k + 1 < D.length
   ·have hi1 : (0 : Int) <= (k : Int) + 1:=by omega
    have hi2 : (k : Int) + 1 < (D.length : Int):=by omega
    have hi3 : (0 : Int) <= (k : Int):=by omega
    have hi4 : (k : Int) < (D.length : Int):=by omega
    have hi5 : (k : Int) + 1 - 1 = (k : Int):=by omega
    have hwp : IntKind.i64.wrap (k : Int) = (k : Int):=by rw [IntKind.wrap_i64]; omega
    have hwe : ((k : Int) + 1).toNat = k + 1:=by omega
    have hcap1 : (k : Int) + 1 <= (cap : Int):=by omega
    have hcap2 : (D.length : Int) <= (cap : Int):=by omega
    have HPL:=hid (fun h=>HCP.out.plain HS.out HRT.out hkn h)
    have HSA:=hid (fun h=>HCP.out.same HS.out HRT.out hkn h)
    have hy2 : D[k]? = some D[k]:=List.getElem?_eq_getElem (by omega)
    have hx2 : D[k + 1]? = some D[k + 1]:=List.getElem?_eq_getElem hkn
    generalize D[k] = y at *
    generalize D[k + 1] = x at *
    obtain ⟨ty,vy⟩:=y
    obtain ⟨tx,vx⟩:=x
    have HCM:=hid (fun W=>(show Calls Tryz.prog 85 #[.agg #[.string tx,.string vx],.agg #[.string ty,.string vy]] W
      fun e w'=>e = .returned (.bool (decide (tx = ty))) /\ Below W.heap.size W w' from sameP_any (tx,vx) (ty,vy) W))
    have HTW:=hid (fun (W : World) (h : Mw w0 W g D)=>(show W.cell? ⟨g,k * 2,none⟩ = some (.string ty) /\ W.cell? ⟨g,k * 2 + 1,none⟩ = some (.string vy) /\ W.cell? ⟨g,(k + 1) * 2,none⟩ = some (.string tx) /\ W.cell? ⟨g,(k + 1) * 2 + 1,none⟩ = some (.string vx) /\ Hid (Mw w0 W g D) from h.two hy2 hx2))
    obtain ⟨a0,a1,b0,b1,_⟩:=HTW.out _ HRW.out
    clear hy2 hx2
    by_cases hod : tx = ty
    ·have HC2:=hid (HSA.out hod)
     rw [decide_eq_true hod] at HCM
     clear hod
     go_wp2_with fail
     go_region_held (fun W=>W.cell? ⟨g,k * 2,none⟩ = some (.string ty) /\ W.cell? ⟨g,k * 2 + 1,none⟩ = some (.string vy) /\ W.cell? ⟨g,(k + 1) * 2,none⟩ = some (.string tx) /\ W.cell? ⟨g,(k + 1) * 2 + 1,none⟩ = some (.string vx) /\ Hid (Mw w0 W g D)) (first | exact HTW.out _ HRa.out | exact HTW.out _ (HRW.out.below (below_drawn _ 1))) (first
      | (go_at_call 85; refine (HCM.out _).mono ?_; rintro e w' ⟨rfl,hb⟩; have HRa:=hid ((HRW.out.below (below_drawn _ 1)).below hb); clear hb))
     all_goals
      have HN:=hid (show (D.take (k + 1)).length = k + 1 by simp; omega)
      clear a0 a1 b0 b1
      go_wp2_with fail
      go_loopw [5,7] (fun a b wr2=>∃ (j : Nat) (E : List Bm),a = .int .i64 (E.length : Int) /\ b = .int .i64 ((j : Int) + 1) /\ k + 1 + (j + 1) <= D.length /\ E.length <= k + 1 + j /\ Hid (CpM D (k + 1 + j + 1) E) /\ Hid (Mw w0 wr2 g (E ++ D.drop E.length))) (fun _ b _=>D.length - (intOf b).toNat)
      case atStart=>exact ⟨0,D.take (k + 1),by rw [HN.out]; rfl,rfl,by omega,by rw [HN.out]; omega,HC2,hid (by rw [HN.out,List.take_append_drop]; exact HRa.out)⟩
      case round=>
       obtain ⟨j,E,rfl,rfl,hjD,hEj,HCE,HRV⟩:=hrel
       have HAT:=hid (show ∀ i,E.length <= i -> (E ++ D.drop E.length)[i]? = D[i]? from fun i hi=>by rw [List.getElem?_append_right hi,List.getElem?_drop]; congr 1; omega)
       by_cases hj : k + 1 + (j + 1) < D.length
       ·have g1 : (0 : Int) <= (j : Int) + 1:=by omega
        have g2 : (j : Int) + 1 < ((D.length - (k + 1) : Nat) : Int):=by omega
        have g3 : (0 : Int) <= (j : Int):=by omega
        have g4 : (j : Int) < ((D.length - (k + 1) : Nat) : Int):=by omega
        have g5 : (j : Int) + 1 - 1 = (j : Int):=by omega
        have gwp : IntKind.i64.wrap (j : Int) = (j : Int):=by rw [IntKind.wrap_i64]; omega
        have gwe : ((j : Int) + 1).toNat = j + 1:=by omega
        have HMO:=hid (fun h=>HCE.out.more HS.out HRT.out hj h)
        have HSM:=hid (fun h=>HCE.out.same HS.out HRT.out hj h)
        have hv2 : (E ++ D.drop E.length)[k + 1 + j]? = some D[k + 1 + j]:=by rw [HAT.out _ hEj]; exact List.getElem?_eq_getElem (by omega)
        have hu2 : (E ++ D.drop E.length)[k + 1 + j + 1]? = some D[k + 1 + j + 1]:=by rw [HAT.out _ (by omega)]; exact List.getElem?_eq_getElem hj
        generalize D[k + 1 + j] = y at *
        generalize D[k + 1 + j + 1] = x at *
        obtain ⟨sy,vsy⟩:=y
        obtain ⟨sx,vsx⟩:=x
        have HCN:=hid (fun W=>(show Calls Tryz.prog 85 #[.agg #[.string sx,.string vsx],.agg #[.string sy,.string vsy]] W
         fun e w'=>e = .returned (.bool (decide (sx = sy))) /\ Below W.heap.size W w' from sameP_any (sx,vsx) (sy,vsy) W))
        have HTV:=hid (fun (W : World) (h : Mw w0 W g (E ++ D.drop E.length))=>(show W.cell? ⟨g,(k + 1) * 2 + j * 2,none⟩ = some (.string sy) /\ W.cell? ⟨g,(k + 1) * 2 + j * 2 + 1,none⟩ = some (.string vsy) /\ W.cell? ⟨g,(k + 1) * 2 + (j + 1) * 2,none⟩ = some (.string sx) /\ W.cell? ⟨g,(k + 1) * 2 + (j + 1) * 2 + 1,none⟩ = some (.string vsx) /\ Hid (Mw w0 W g (E ++ D.drop E.length)) by
         have h2:=h.two hv2 hu2
         unfold TwoM at h2
         rw [show (k + 1 + j) * 2 = (k + 1) * 2 + j * 2 by omega,show (k + 1 + j + 1) * 2 = (k + 1) * 2 + (j + 1) * 2 by omega] at h2
         exact h2))
        obtain ⟨a0,a1,b0,b1,_⟩:=HTV.out _ HRV.out
        clear hv2 hu2
        by_cases hoe : sx = sy
        ·have HC3:=hid (HSM.out hoe)
         rw [decide_eq_true hoe] at HCN
         clear hoe
         go_wp2_with fail
         go_region_held (fun W=>W.cell? ⟨g,(k + 1) * 2 + j * 2,none⟩ = some (.string sy) /\ W.cell? ⟨g,(k + 1) * 2 + j * 2 + 1,none⟩ = some (.string vsy) /\ W.cell? ⟨g,(k + 1) * 2 + (j + 1) * 2,none⟩ = some (.string sx) /\ W.cell? ⟨g,(k + 1) * 2 + (j + 1) * 2 + 1,none⟩ = some (.string vsx) /\ Hid (Mw w0 W g (E ++ D.drop E.length))) (first | exact HTV.out _ HRb.out | exact HTV.out _ (HRV.out.below (below_drawn _ 1))) (first
         | (go_at_call 85; refine (HCN.out _).mono ?_; rintro e w' ⟨rfl,hb⟩; have HRb:=hid ((HRV.out.below (below_drawn _ 1)).below hb); clear hb))
         all_goals
          go_wp2_with fail
          go_roundw
          case rel=>exact ⟨j + 1,E,rfl,by go_num,by omega,by omega,HC3,HRb⟩
          case measure=>simp [intOf]; omega
        ·have HC3:=hid (HMO.out hoe)
         rw [decide_eq_false hoe] at HCN
         clear hoe
         go_wp2_with fail
         go_region_held (fun W=>W.cell? ⟨g,(k + 1) * 2 + j * 2,none⟩ = some (.string sy) /\ W.cell? ⟨g,(k + 1) * 2 + j * 2 + 1,none⟩ = some (.string vsy) /\ W.cell? ⟨g,(k + 1) * 2 + (j + 1) * 2,none⟩ = some (.string sx) /\ W.cell? ⟨g,(k + 1) * 2 + (j + 1) * 2 + 1,none⟩ = some (.string vsx) /\ Hid (Mw w0 W g (E ++ D.drop E.length))) (first | exact HTV.out _ HRb.out | exact HTV.out _ (HRV.out.below (below_drawn _ 1))) (first
         | (go_at_call 85; refine (HCN.out _).mono ?_; rintro e w' ⟨rfl,hb⟩; have HRb:=hid ((HRV.out.below (below_drawn _ 1)).below hb); clear hb))
         all_goals
          clear a0 a1 b0 b1
          obtain ⟨a0,a1,b0,b1,_⟩:=HTV.out _ HRb.out
          have hfz:=HRb.out.fz
          have e1 : (0 : Int) <= (E.length : Int):=by omega
          have e2 : (E.length : Int) < (D.length : Int):=by omega
          have hEl : E.length < (E ++ D.drop E.length).length:=by simp; omega
          obtain ⟨z0,z1⟩:=HRb.out.at (j:=E.length) (r:=(E ++ D.drop E.length)[E.length]) (List.getElem?_eq_getElem hEl)
          have HW4:=hid (show Mw w0 ((w'.setCell ⟨g,E.length * 2,none⟩ (.string sx)).setCell ⟨g,E.length * 2 + 1,none⟩ (.string vsx)) g ((E ++ [((sx,vsx) : Bm)]) ++ D.drop (E ++ [((sx,vsx) : Bm)]).length) by
           have h:=HRb.out.setAt E.length hEl (sx,vsx)
           have e : (E ++ D.drop E.length).set E.length (sx,vsx) = (E ++ [((sx,vsx) : Bm)]) ++ D.drop (E ++ [((sx,vsx) : Bm)]).length:=by
            rw [List.set_append_right _ _ (Nat.le_refl _),Nat.sub_self,List.drop_eq_getElem_cons (show E.length < D.length by omega),List.set_cons_zero,List.length_append]
            simp
           rw [e] at h
           exact h)
          go_wp2_with fail
          go_roundw
          case rel=>exact ⟨j + 1,E ++ [(sx,vsx)],by simp,by go_num,by omega,by simp; omega,HC3,HW4⟩
          case measure=>simp [intOf]; omega
       ·have hje : k + 1 + (j + 1) = D.length:=by omega
        have g2 : ¬ (j : Int) + 1 < ((D.length - (k + 1) : Nat) : Int):=by omega
        have hRl : (E ++ D.drop E.length).length = D.length:=by simp; omega
        obtain ⟨zs,hcl⟩:=run_clear_mw HRV.out E.length (by omega)
        rw [hRl] at hcl
        have HEN:=hid (show CpM D D.length E by have:=HCE.out; rw [show k + 1 + j + 1 = D.length by omega] at this; exact this)
        have HRE:=hid (show Mw w0 (wr.setCells g (E.length * 2) zs) g E by
         have:=HRV.out.cleared E.length (by omega) zs
         rw [List.take_left'  rfl] at this
         exact this)
        have c1 : (E.length : Int) <= (D.length : Int):=by omega
        have c2 : (E.length : Int) < (cap : Int):=by omega
        have c3 : (E.length : Int) <= (cap : Int):=by omega
        have c4 : (0 : Int) <= (E.length : Int):=by omega
        have c5 : E.length < cap:=by omega
        go_wp2_with fail
        go_ret
        exact ⟨E,rfl,by omega,HEN.out.jn HRT.out,HRE.out⟩
    ·have HC2:=hid (HPL.out hod)
     rw [decide_eq_false hod] at HCM
     clear hod
     go_wp2_with fail
     go_region_held (fun W=>W.cell? ⟨g,k * 2,none⟩ = some (.string ty) /\ W.cell? ⟨g,k * 2 + 1,none⟩ = some (.string vy) /\ W.cell? ⟨g,(k + 1) * 2,none⟩ = some (.string tx) /\ W.cell? ⟨g,(k + 1) * 2 + 1,none⟩ = some (.string vx) /\ Hid (Mw w0 W g D)) (first | exact HTW.out _ HRa.out | exact HTW.out _ (HRW.out.below (below_drawn _ 1))) (first
      | (go_at_call 85; refine (HCM.out _).mono ?_; rintro e w' ⟨rfl,hb⟩; have HRa:=hid ((HRW.out.below (below_drawn _ 1)).below hb); clear hb))
     all_goals
      go_wp2_with fail
      go_roundw
      case rel=>exact ⟨k + 1,by omega,by go_num,HC2,HRa⟩
      case measure=>simp [intOf]; omega
   ·obtain hke : k + 1 = D.length:=by omega
    have HFI:=hid (show CpM D D.length D by have:=HCP.out; rw [hke,List.take_length] at this; exact this)
    have hi2 : ¬ (k : Int) + 1 < (D.length : Int):=by omega
    go_wp2_with fail
    go_ret
    exact ⟨D,rfl,Nat.le_refl _,HFI.out.jn HRT.out,HRW.out⟩
end Ve
end Go.Proofs.YtjbmjnbkibmkpaaGreatDoor


namespace Go.Proofs.YtjbmjnbkibmkpaaGreatDoor
open Go.RowKit
namespace Ve
def badM (m : Bm) : Bool:=decide (mErr m ≠ 0)
def rightL (D : List Bm) : List Bm:=D.filter fun m=>!badM m
theorem rightL_mem {D : List Bm} {m : Bm} : m ∈ rightL D ↔ m ∈ D /\ mErr m = 0:=by
 unfold rightL
 rw [List.mem_filter]
 simp [badM]
theorem rightK_any (m : Bm) (A : Nat -> Addr) (ml : Int) (W : World) (hp : m.1.size < 999999) (hv : m.2.size < 999999) (S : Te W A ml) :
  Calls Tryz.prog 88 (#[.agg #[.string m.1,.string m.2]] ++ #[]) W fun e w'=>e = .returned (.bool (badM m)) /\ Below W.heap.size W w':=by
 obtain ⟨p,v⟩:=m
 simp only at hp hv
 show Calls Tryz.prog 88 #[.agg #[.string p,.string v]] W _
 have HB0:=hid ((Below.refl W.heap.size W).alloc (Nat.le_refl _) (.cells #[.string p,.string v] 47))
 have HM:=hid (mcheck_any p v A ml _ (by omega) (by omega) (S.below HB0.out))
 have hme : mErr (p,v) = modErr p.data.toList v.data.toList:=rfl
 rw [<- hme] at HM
 clear S hme
 by_cases h : mErr (p,v) = 0
 ·have HD:=hid (show badM (p,v) = false by unfold badM; simp [h])
  rw [h,errA0] at HM
  generalize badM (p,v) = z at *
  clear h
  go_enter Tryz.func88,Tryz.ntmps88
  go_wp2_with fail
  refine HM.out.mono ?_
  rintro e w1 ⟨rfl,hb⟩
  have HB:=hid (HB0.out.trans (hb.mono HB0.out.size))
  clear hb
  go_wp2_with fail
  go_ret
  exact ⟨ret_bool HD.out.symm,HB.out⟩
 ·have HD:=hid (show badM (p,v) = true by unfold badM; simp [h])
  rw [errA_if A h] at HM
  generalize badM (p,v) = z at *
  clear h
  go_enter Tryz.func88,Tryz.ntmps88
  go_wp2_with fail
  refine HM.out.mono ?_
  rintro e w1 ⟨rfl,hb⟩
  have HB:=hid (HB0.out.trans (hb.mono HB0.out.size))
  clear hb
  go_wp2_with fail
  go_ret
  exact ⟨ret_bool HD.out.symm,HB.out⟩
theorem rightL_take {D : List Bm} {k : Nat} (hk : k < D.length) : rightL (D.take (k + 1)) = if badM D[k] then rightL (D.take k) else rightL (D.take k) ++ [D[k]]:=by
 unfold rightL
 rw [List.take_succ_eq_append_getElem hk,List.filter_append]
 cases h : badM D[k] <;> simp [h]
theorem rightL_first {D : List Bm} {k : Nat} (hk : k < D.length) (h1 : badM D[k] = true) (h2 : ∀ j (hj : j < D.length),j < k -> badM D[j] = false) : rightL (D.take (k + 1)) = D.take k:=by
 rw [rightL_take hk,if_pos h1]
 unfold rightL
 rw [List.filter_eq_self]
 intro x hx
 obtain ⟨i,hi,him,rfl⟩:=mem_take_at hx
 rw [h2 i hi him]; rfl
theorem rightL_all {D : List Bm} (h : ∀ x,x ∈ D -> badM x = false) : rightL D = D:=by
 unfold rightL
 rw [List.filter_eq_self]
 intro x hx
 rw [h x hx]; rfl
set_option maxRecDepth 100000 in
theorem del_mw (w0 w : World) (g cap : Nat) (D : List Bm) (A : Nat -> Addr) (ml : Int) (S : Te w0 A ml) (h12 : D.length <= 1000000) (hc : D.length <= cap) (hz : ∀ r,r ∈ D -> r.1.size < 999999 /\ r.2.size < 999999) (hR : Mw w0 w g D) :
  Calls Tryz.prog 86 #[.slice (some ⟨g,0,none⟩) D.length cap,.func (.func 88) #[] #[]] w fun e w'=>e = .returned (.slice (some ⟨g,0,none⟩) (rightL D).length cap) /\ Mw w0 w' g (rightL D):=by
 have eg : ∀ args w,(callFunc 88 args).run Tryz.prog w = .ok (.enter 88 args) w:=enters_of Tryz.func88 (by kernel_rfl) rfl
 have HRK:=hid (fun (m : Bm) (hm : m ∈ D) W (hW : Below w0.heap.size w0 W)=>rightK_any m A ml W (hz m hm).1 (hz m hm).2 (S.below hW))
 have HI:=hid (idxM_any 88 #[] badM D _ w eg h12 (hR.ms hc) (fun i hi W hW=>HRK.out D[i] (List.getElem_mem hi) W (hR.bl.trans (hW.mono hR.bl.size))))
 have HR:=hid hR
 clear hR S hz
 rcases idxB_kind badM D with ⟨e1,h2⟩ | ⟨k,hk,e1,h2,h3⟩
 ·rw [e1] at HI
  rw [rightL_all h2]
  clear e1 h2
  go_enter Tryz.func86,Tryz.ntmps86
  go_wp2_with fail
  refine HI.out.mono ?_
  rintro e w1 ⟨rfl,hb⟩
  have HR1:=hid (HR.out.below hb)
  clear hb
  go_wp2_with fail
  go_ret
  exact ⟨rfl,HR1.out⟩
 ·rw [e1] at HI
  have HF:=hid (rightL_first hk h2 h3)
  have hkn : ¬ (k : Int) = -1:=by omega
  have hk1 : (k : Int) < (D.length : Int):=by omega
  clear e1 h2 h3
  go_enter Tryz.func86,Tryz.ntmps86
  go_wp2_with fail
  refine HI.out.mono ?_
  rintro e w1 ⟨rfl,hb⟩
  have HR1:=hid (HR.out.below hb)
  clear hb
  go_wp2_with fail
  go_loopw [5,6] (fun a b wr=>∃ (j : Nat),a = .int .i64 ((rightL (D.take j)).length : Int) /\ b = .int .i64 (j : Int) /\ j <= D.length /\ (rightL (D.take j)).length < j /\ Hid (Mw w0 wr g (rightL (D.take j) ++ D.drop (rightL (D.take j)).length))) (fun _ b _=>D.length - (intOf b).toNat)
  case atStart=>
   have hl : (D.take k).length = k:=by simp; omega
   exact ⟨k + 1,by rw [HF.out,hl],by go_num,by omega,by rw [HF.out,hl]; omega,hid (by rw [HF.out,hl,List.take_append_drop]; exact HR1.out)⟩
  case round=>
   obtain ⟨j,rfl,rfl,hjD,hEj,HRV⟩:=hrel
   have HAT:=hid (show ∀ i,(rightL (D.take j)).length <= i -> (rightL (D.take j) ++ D.drop (rightL (D.take j)).length)[i]? = D[i]? from fun i hi=>by rw [List.getElem?_append_right hi,List.getElem?_drop]; congr 1; omega)
   by_cases hj : j < D.length
   ·have g1 : (j : Int) < (D.length : Int):=by omega
    have HT:=hid (rightL_take hj)
    obtain ⟨y0,y1⟩:=HRV.out.at (j:=j) (r:=D[j]) (by rw [HAT.out j (by omega)]; exact List.getElem?_eq_getElem hj)
    have HKX:=hid (fun W (hW : Below w0.heap.size w0 W)=>(show Calls Tryz.prog 88 #[.agg #[.string D[j].1,.string D[j].2]] W fun e w'=>e = .returned (.bool (badM D[j])) /\ Below W.heap.size W w' from HRK.out D[j] (List.getElem_mem hj) W hW))
    generalize D[j] = x at *
    generalize hE : rightL (D.take j) = E at *
    obtain ⟨x1,x2⟩:=x
    have HBA:=hid ((Below.refl wr.heap.size wr).alloc (Nat.le_refl _) (.cells #[.string x1,.string x2] 47))
    have HRA:=hid (HRV.out.below HBA.out)
    have HP:=hid (HKX.out _ HRA.out.bl)
    cases hbad : badM (x1,x2)
    ·rw [hbad] at HP HT
     have HT2:=hid (show rightL (D.take (j + 1)) = E ++ [(x1,x2)] from HT.out)
     clear hbad
     go_wp2_with fail
     refine HP.out.mono ?_
     rintro e w2 ⟨rfl,hb⟩
     have HR2:=hid (HRA.out.below hb)
     have d0 : w2.cell? ⟨wr.heap.size,0,none⟩ = some (.string x1):=cell_below hb (by simp)
     have d1 : w2.cell? ⟨wr.heap.size,1,none⟩ = some (.string x2):=cell_below hb (by simp)
     have hfz:=HR2.out.fz
     have e1 : (0 : Int) <= (E.length : Int):=by omega
     have e2 : (E.length : Int) < (D.length : Int):=by omega
     have hEl : E.length < (E ++ D.drop E.length).length:=by simp; omega
     obtain ⟨z0,z1⟩:=HR2.out.at (j:=E.length) (r:=(E ++ D.drop E.length)[E.length]) (List.getElem?_eq_getElem hEl)
     have HW4:=hid (show Mw w0 ((w2.setCell ⟨g,E.length * 2,none⟩ (.string x1)).setCell ⟨g,E.length * 2 + 1,none⟩ (.string x2)) g ((E ++ [((x1,x2) : Bm)]) ++ D.drop (E ++ [((x1,x2) : Bm)]).length) by
      have h:=HR2.out.setAt E.length hEl (x1,x2)
      have e : (E ++ D.drop E.length).set E.length (x1,x2) = (E ++ [((x1,x2) : Bm)]) ++ D.drop (E ++ [((x1,x2) : Bm)]).length:=by
       rw [List.set_append_right _ _ (Nat.le_refl _),Nat.sub_self,List.drop_eq_getElem_cons (show E.length < D.length by omega),List.set_cons_zero,List.length_append]
       simp
      rw [e] at h
      exact h)
     clear hb y0 y1
     go_wp2_with fail
     go_roundw
     case rel=>
      repeat apply Exists.intro
      refine ⟨?r,rfl⟩
      exact ⟨j + 1,by rw [HT2.out]; first | (simp; done) | (rw [List.length_append]; go_num),by go_num,by omega,by rw [HT2.out]; simp; omega,hid (by rw [HT2.out]; exact HW4.out)⟩
     case measure=>simp [intOf]; omega
    ·rw [hbad] at HP HT
     have HT2:=hid (show rightL (D.take (j + 1)) = E from HT.out)
     clear hbad
     go_wp2_with fail
     refine HP.out.mono ?_
     rintro e w2 ⟨rfl,hb⟩
     have HR2:=hid (HRA.out.below hb)
     clear hb y0 y1
     go_wp2_with fail
     go_roundw
     case rel=>
      repeat apply Exists.intro
      refine ⟨?r2,rfl⟩
      exact ⟨j + 1,by rw [HT2.out],by go_num,by omega,by rw [HT2.out]; omega,hid (by rw [HT2.out]; exact HR2.out)⟩
     case measure=>simp [intOf]; omega
   ·obtain rfl : j = D.length:=by omega
    have g2 : ¬ (D.length : Int) < (D.length : Int):=by omega
    rw [List.take_length] at hEj HRV HAT ⊢
    generalize hE : rightL D = E at *
    have hRl : (E ++ D.drop E.length).length = D.length:=by simp; omega
    obtain ⟨zs,hcl⟩:=run_clear_mw HRV.out E.length (by omega)
    rw [hRl] at hcl
    have HRE:=hid (show Mw w0 (wr.setCells g (E.length * 2) zs) g E by
     have:=HRV.out.cleared E.length (by omega) zs
     rw [List.take_left' rfl] at this
     exact this)
    have c1 : (E.length : Int) <= (D.length : Int):=by omega
    have c2 : (E.length : Int) < (cap : Int):=by omega
    have c3 : (E.length : Int) <= (cap : Int):=by omega
    have c4 : (0 : Int) <= (E.length : Int):=by omega
    have c5 : E.length < cap:=by omega
    have c6 : (D.length : Int) <= (cap : Int):=by omega
    go_wp2_with fail
    go_ret
    exact ⟨rfl,HRE.out⟩
end Ve
end Go.Proofs.YtjbmjnbkibmkpaaGreatDoor


namespace Go.Proofs.YtjbmjnbkibmkpaaGreatDoor
open Go.RowKit
namespace Ve
theorem zero_len (n : Nat) : (Builtin.zeroCells (Value.agg #[.string ⟨#[]⟩,.string ⟨#[]⟩]).cells n).size = n * 2:=by
 simp [Builtin.zeroCells,Value.cells]
theorem grow_zero (w : World) : Calls Tryz.prog 131 #[.slice none 0 0,.int .i64 0] w fun e w'=>e = .returned (.slice none 0 0) /\ Below w.heap.size w w':=by
 go_enter Tryz.func131,Tryz.ntmps131
 go_wp2_with fail
 go_ret
 exact ⟨rfl,Below.refl _ _⟩
set_option maxRecDepth 100000 in
theorem grow_some (n : Nat) (w : World) (h0 : 0 < n) (hn : n <= 1000000) : Calls Tryz.prog 131 #[.slice none 0 0,.int .i64 (n : Int)] w fun e w'=>∃ v,e = .returned v /\ w'.ownsRow w.heap.size 47 2 v 0 [] /\ Below w.heap.size w w':=by
 obtain ⟨i0,hi,hz0,hz1,hz2⟩:=info_parts infoMod
 have HA:=hid (fun (W : World) ty=>Lib.run_append_nil_zeros (P:=Tryz.prog) W 23 3 ty 47 i0 (.agg #[.string ⟨#[]⟩,.string ⟨#[]⟩]) .i64 .i64 Tryz.underlying23 Tryz.underlying3 hi hz0 n h0 (by rw [hz1]; omega) (by omega) (by rw [hz2]; omega))
 have hn0 : ¬ (n : Int) < 0:=by omega
 have hn1 : (0 : Int) < (n : Int):=by omega
 go_enter Tryz.func131,Tryz.ntmps131
 go_wp2_with (at_builtin; refine Lib.wpList_append_run _ rfl _ _ _ _ rfl _ _ rfl rfl _ _ (HA.out _ _) ?_)
 go_ret
 refine ⟨_,rfl,⟨by simp,Or.inr ⟨w.heap.size,grownCap w n 0 47,_,rfl,Nat.le_refl _,heap_new w _,Nat.zero_le _,grownCap_le_maxLen w n 0 47 (by unfold maxLen; omega),?_,by simp⟩⟩,below_drawn_of ((Below.refl w.heap.size w).alloc (Nat.le_refl _) _) 1⟩
 have h1:=zero_len n
 have h2:=zero_len (grownCap w n 0 47 - n)
 have h3:=grownCap_ge w n 0 47
 simp only [Value.cells] at h1 h2
 rw [Array.size_append,h1,h2]
 omega
set_option maxRecDepth 100000 in
theorem cat_any (A B : List Bm) (va vb : Value) (lb : Nat) (w : World) (c0 : w.cell? ⟨lb,0,none⟩ = some va) (c1 : w.cell? ⟨lb,1,none⟩ = some vb) (hA : MsAt w va A) (hB : MsAt w vb B) (eA : Em va A) (eB : Em vb B) (lA : A.length <= 500) (lB : B.length <= 500) :
  Calls Tryz.prog 87 #[.slice (some ⟨lb,0,none⟩) 2 2] w fun e w'=>∃ v,e = .returned v /\ w'.ownsRow w.heap.size 47 2 v (A ++ B).length (flatM (A ++ B)) /\ Below w.heap.size w w':=by
 obtain ⟨aa,ac,ea⟩ : ∃ a c,va = .slice a A.length c:=by obtain ⟨a,c,e,_⟩:=hA; exact ⟨a,c,e⟩
 obtain ⟨ba,bc,eb⟩ : ∃ a c,vb = .slice a B.length c:=by obtain ⟨a,c,e,_⟩:=hB; exact ⟨a,c,e⟩
 subst ea eb
 have HA:=hid hA
 have HB:=hid hB
 have HEA:=hid eA
 have HEB:=hid eB
 clear hA hB eA eB
 go_enter Tryz.func87,Tryz.ntmps87
 go_wp2_with fail
 go_loopw [3,11] (fun s i wr=>Hid (wr = w) /\ ((s = .int .i64 0 /\ i = .int .i64 0) \/ (s = .int .i64 (A.length : Int) /\ i = .int .i64 1) \/ (s = .int .i64 ((A.length + B.length : Nat) : Int) /\ i = .int .i64 2))) (fun _ i _=>2 - (intOf i).toNat)
 case atStart=>exact ⟨hid rfl,Or.inl ⟨rfl,rfl⟩⟩
 case round=>
  obtain ⟨HWR,⟨rfl,rfl⟩ | ⟨rfl,rfl⟩ | ⟨rfl,rfl⟩⟩:=hrel
  all_goals obtain rfl:=HWR.out
  all_goals clear HWR
  ·have q1 : ¬ (A.length : Int) < 0:=by omega
   go_wp2_with fail
   go_roundw
   case rel=>exact ⟨hid trivial,Or.inr (Or.inl ⟨rfl,rfl⟩)⟩
   case measure=>decide
  ·have q1 : ¬ (A.length : Int) + (B.length : Int) < 0:=by omega
   go_wp2_with fail
   go_roundw
   case rel=>exact ⟨hid trivial,Or.inr (Or.inr ⟨by go_num,rfl⟩)⟩
   case measure=>decide
  ·have HG:=hid (show Calls Tryz.prog 131 #[.slice none 0 0,.int .i64 ((A.length + B.length : Nat) : Int)] wr fun e w'=>∃ v,e = .returned v /\ w'.ownsRow wr.heap.size 47 2 v 0 [] /\ Below wr.heap.size wr w' by
    by_cases h0 : A.length + B.length = 0
    ·rw [h0]
     exact (grow_zero wr).mono fun _ _ h=>⟨_,h.1,World.ownsRow_nil _ _ _ _,h.2⟩
    ·exact grow_some (A.length + B.length) wr (by omega) (by omega))
   go_wp2_with fail
   refine HG.out.mono ?_
   rintro e w1 ⟨v0,rfl,hown,hb⟩
   have HO:=hid hown
   have HBL:=hid hb
   obtain ⟨oa,on,oc,hv0⟩:=own_sl hown
   subst hv0
   clear hown hb HG
   go_wp2_with fail
   go_loopw [6,27] (fun v i W=>∃ (k : Nat) (X : List Bm),i = .int .i64 (k : Int) /\ ((k = 0 /\ X = []) \/ (k = 1 /\ X = A) \/ (k = 2 /\ X = A ++ B)) /\ Hid (W.ownsRow wr.heap.size 47 2 v X.length (flatM X)) /\ Hid (Below wr.heap.size wr W)) (fun _ i _=>2 - (intOf i).toNat)
   case atStart=>exact ⟨0,[],rfl,Or.inl ⟨rfl,rfl⟩,HO,HBL⟩
   case round=>
    obtain ⟨k,X,rfl,hk,HOW,HBW⟩:=hrel
    have HSZ:=hid HBW.out.size
    rcases hk with ⟨rfl,rfl⟩ | ⟨rfl,rfl⟩ | ⟨rfl,rfl⟩
    ·have d0:=cell_below HBW.out c0
     obtain ⟨v2,W2,hrun,ho2,hg2⟩:=both_run [] A _ _ wr _ HSZ.out (by simp) (by omega) HOW.out (HA.out.below HBW.out) HEA.out
     have HRUN:=hid hrun
     have HO2:=hid (show W2.ownsRow _ 47 2 v2 A.length (flatM A) from ho2)
     have HB2:=hid (HBW.out.grown hg2 HBW.out.size (fun k hk=>(HOW.out.lt k hk).1))
     clear hrun ho2 hg2
     go_wp2_with (at_builtin; refine Lib.wpList_append_run _ rfl _ _ _ _ rfl _ _ rfl rfl _ _ HRUN.out ?_)
     go_roundw
     case rel=>exact ⟨1,A,rfl,Or.inr (Or.inl ⟨rfl,rfl⟩),HO2,HB2⟩
     case measure=>decide
    ·have d1:=cell_below HBW.out c1
     obtain ⟨v2,W2,hrun,ho2,hg2⟩:=both_run X B _ _ wr _ HSZ.out (by omega) (by omega) HOW.out (HB.out.below HBW.out) HEB.out
     have HRUN:=hid hrun
     have HO2:=hid ho2
     have HB2:=hid (HBW.out.grown hg2 HBW.out.size (fun k hk=>(HOW.out.lt k hk).1))
     clear hrun ho2 hg2
     go_wp2_with (at_builtin; refine Lib.wpList_append_run _ rfl _ _ _ _ rfl _ _ rfl rfl _ _ HRUN.out ?_)
     go_roundw
     case rel=>exact ⟨2,X ++ B,rfl,Or.inr (Or.inr ⟨rfl,rfl⟩),HO2,HB2⟩
     case measure=>decide
    ·go_wp2_with fail
     go_ret
     exact ⟨_,rfl,HOW.out,HBW.out⟩
end Ve
end Go.Proofs.YtjbmjnbkibmkpaaGreatDoor


namespace Go.Proofs.YtjbmjnbkibmkpaaGreatDoor
open Go.RowKit
namespace Ve
theorem insM_nil (a : Option Addr) (c : Nat) (W : World) : Calls Tryz.prog 174 #[.slice a 0 c,.int .i64 0,.int .i64 0,.func (.func 83) #[] #[]] W fun e w'=>e = .returned (.tuple #[]) /\ w' = W:=by
 go_enter Tryz.func174,Tryz.ntmps174
 go_wp2_with fail
 go_loop [8] (fun i=>i = .int .i64 1) (fun _=>0)
 case atStart=>rfl
 case round=>
  obtain rfl:=hrel
  go_wp2_with fail
  go_end0
  exact ⟨rfl,rfl⟩
set_option maxRecDepth 100000 in
theorem pdqM_nil (a : Option Addr) (c : Nat) (n : Int) (W : World) : Calls Tryz.prog 128 #[.slice a 0 c,.int .i64 0,.int .i64 0,.int .i64 n,.func (.func 83) #[] #[]] W fun e w'=>e = .returned (.tuple #[]) /\ w' = W:=by
 have HI:=hid (insM_nil a c W)
 go_enter Tryz.func128,Tryz.ntmps128
 go_wp2_with fail
 go_loop [1,2,3,10,11] (fun a b _ _ _=>a = .int .i64 0 /\ b = .int .i64 0) (fun _ _ _ _ _=>0)
 case atStart=>exact ⟨rfl,rfl⟩
 case round=>
  obtain ⟨rfl,rfl⟩:=hrel
  go_wp2_with fail
  refine HI.out.mono ?_
  rintro e w' ⟨rfl,rfl⟩
  go_wp2_with fail
  first | (go_end0; exact ⟨rfl,rfl⟩) | (go_ret; exact ⟨rfl,rfl⟩) | (refine bodyPost_ret (v:=.tuple #[]) (by simp [results,Tryz.results128]) rfl ⟨rfl,rfl⟩)
theorem sortM_nil (a : Option Addr) (c : Nat) (W : World) : Calls Tryz.prog 82 #[.slice a 0 c,.func (.func 83) #[] #[]] W fun e w'=>e = .returned (.tuple #[]) /\ Below W.heap.size W w':=by
 have HLN:=hid (show Calls Tryz.prog 129 #[.int .u64 0] W fun e w'=>e = .returned (.int .i64 (Lib.bitLen 0 : Nat)) /\ w' = W from by
  have h:=Any.bits_Len (SlLaysF0.n15.bits (P:=Tryz.prog) (ρ:=Tryz.sortMods_ren) { Tryz.sortMods with }) 0 W (by omega) (by omega)
  exact h)
 have HP:=hid (fun n=>pdqM_nil a c n W)
 go_enter Tryz.func82,Tryz.ntmps82
 go_wp2_with fail
 refine HLN.out.mono ?_
 rintro e w' ⟨rfl,rfl⟩
 go_wp2_with fail
 refine (HP.out _).mono ?_
 rintro e w' ⟨rfl,rfl⟩
 go_wp2_with fail
 go_end0
 exact ⟨rfl,Below.refl _ _⟩
theorem delM_nil (a : Option Addr) (c : Nat) (W : World) : Calls Tryz.prog 86 #[.slice a 0 c,.func (.func 88) #[] #[]] W fun e w'=>e = .returned (.slice a 0 c) /\ Below W.heap.size W w':=by
 have HI:=hid (idxM_none 88 #[] a c W)
 go_enter Tryz.func86,Tryz.ntmps86
 go_wp2_with fail
 refine HI.out.mono ?_
 rintro e w1 ⟨rfl,hb⟩
 have HB:=hid hb
 clear hb
 go_wp2_with fail
 go_ret
 exact ⟨rfl,HB.out⟩
def Mr (w0 W : World) (v : Value) (D : List Bm) : Prop:=Below w0.heap.size w0 W /\ ∃ a cap,v = .slice a D.length cap /\ D.length <= cap /\ ((D = [] /\ (a = none -> cap = 0)) \/ ∃ g,a = some ⟨g,0,none⟩ /\ Mw w0 W g D)
theorem Mr.ms {w0 W : World} {v : Value} {D : List Bm} (h : Mr w0 W v D) : MsAt W v D:=by
 obtain ⟨_,a,cap,rfl,hc,⟨rfl,_⟩ | ⟨g,rfl,h⟩⟩:=h
 ·exact ⟨a,cap,rfl,hc,fun h=>absurd rfl h⟩
 ·exact h.ms hc
theorem Mr.em {w0 W : World} {v : Value} {D : List Bm} (h : Mr w0 W v D) : Em v D:=by
 obtain ⟨_,a,cap,rfl,hc,h⟩:=h
 intro a' c' e hD
 injection e with e1 e2 e3
 subst e1 e3
 cases a with
 | some a'=>exact Or.inr ⟨a',rfl⟩
 | none=>
  rcases h with ⟨_,h0⟩ | ⟨g,h,_⟩
  ·rw [h0 rfl]; exact Or.inl rfl
  ·cases h
theorem mr_own {w0 W : World} {v : Value} {L : List Bm} (h : W.ownsRow w0.heap.size 47 2 v L.length (flatM L)) (hb : Below w0.heap.size w0 W) : Mr w0 W v L:=by
 by_cases hL : L = []
 ·subst hL
  obtain ⟨_,⟨rfl,_⟩ | ⟨g,cap,cur,rfl,_,_,_,_⟩⟩:=h
  ·exact ⟨hb,none,0,rfl,Nat.le_refl _,Or.inl ⟨rfl,fun _=>rfl⟩⟩
  ·exact ⟨hb,_,cap,rfl,Nat.zero_le _,Or.inl ⟨rfl,fun h=>by cases h⟩⟩
 ·obtain ⟨g,cap,rfl,h1,_,h3⟩:=own_mw h hb hL
  exact ⟨hb,_,cap,rfl,h1,Or.inr ⟨g,rfl,h3⟩⟩
theorem Mr.base {w w0 W : World} {v : Value} {D : List Bm} (h : Mr w0 W v D) (hb : Below w.heap.size w w0) : Mr w W v D:=by
 obtain ⟨h1,a,cap,rfl,hc,hk⟩:=h
 refine ⟨hb.trans (h1.mono hb.size),a,cap,rfl,hc,?_⟩
 rcases hk with hk | ⟨g,rfl,hM⟩
 ·exact Or.inl hk
 ·exact Or.inr ⟨g,rfl,hb.trans (h1.mono hb.size),Nat.le_trans hb.size hM.lo,hM.hi,hM.fz,hM.c0,hM.c1⟩
theorem Mr.sl {w0 W : World} {v : Value} {D : List Bm} (h : Mr w0 W v D) : ∃ a c,v = .slice a D.length c:=by
 obtain ⟨_,a,cap,rfl,_⟩:=h
 exact ⟨a,cap,rfl⟩
theorem right_any (X Y : List Bm) (va vb : Value) (lb : Nat) (A : Nat -> Addr) (ml : Int) (w : World) (c0 : w.cell? ⟨lb,0,none⟩ = some va) (c1 : w.cell? ⟨lb,1,none⟩ = some vb) (hA : MsAt w va X) (hB : MsAt w vb Y) (eA : Em va X) (eB : Em vb Y) (lA : X.length <= 500) (lB : Y.length <= 500)
  (hz : ∀ r,r ∈ X ++ Y -> r.1.size < 999999 /\ r.2.size < 999999) (S : Te w A ml) :
  Calls Tryz.prog 43 #[.slice (some ⟨lb,0,none⟩) 2 2] w fun e w'=>∃ v,e = .returned v /\ Mr w w' v (rightL (X ++ Y)):=by
 have HC:=hid (cat_any X Y va vb lb w c0 c1 hA hB eA eB lA lB)
 have HS:=hid S
 have HZ:=hid hz
 have hl : (X ++ Y).length <= 1000:=by simp; omega
 generalize X ++ Y = D at *
 clear hA hB eA eB S hz c0 c1
 go_enter Tryz.func43,Tryz.ntmps43
 go_wp2_with fail
 refine HC.out.mono ?_
 rintro e w1 ⟨v,rfl,hown,hb⟩
 obtain ⟨_,a,cap,rfl,hcap,hk⟩:=mr_own hown hb
 have HBL:=hid hb
 clear hown hb
 rcases hk with ⟨rfl,h0⟩ | ⟨g,rfl,hM⟩
 ·have HD:=hid (delM_nil a cap w1)
  go_wp2_with fail
  refine HD.out.mono ?_
  rintro e w2 ⟨rfl,hb⟩
  have HB2:=hid (HBL.out.trans (hb.mono HBL.out.size))
  clear hb
  go_wp2_with fail
  go_ret
  exact ⟨_,rfl,HB2.out,a,cap,rfl,Nat.zero_le _,Or.inl ⟨rfl,h0⟩⟩
 ·have HD:=hid (del_mw w w1 g cap D A ml HS.out (by omega) hcap HZ.out hM)
  have HRL:=hid (show (rightL D).length <= cap from Nat.le_trans (List.length_filter_le _ _) hcap)
  clear hM
  go_wp2_with fail
  refine HD.out.mono ?_
  rintro e w2 ⟨rfl,hm⟩
  have HM2:=hid hm
  clear hm
  go_wp2_with fail
  go_ret
  exact ⟨_,rfl,HM2.out.bl,_,cap,rfl,HRL.out,Or.inr ⟨g,rfl,HM2.out⟩⟩
theorem Jn.nil : Jn [] []:=⟨List.Pairwise.nil,fun _ h=>absurd h (by simp),fun _ h=>absurd h (by simp)⟩
theorem Jn.perm {D D' E : List Bm} (h : Jn D' E) (hp : D'.Perm D) : Jn D E:=
 ⟨h.ri,fun e he=>⟨hp.mem_iff.1 (h.sub e he).1,(h.sub e he).2⟩,fun x hx=>h.top x (hp.mem_iff.2 hx)⟩
theorem Jn.right {D E : List Bm} (h : Jn (rightL D) E) : Jn D E:=
 ⟨h.ri,fun e he=>⟨(rightL_mem.1 (h.sub e he).1).1,(h.sub e he).2⟩,fun x hx hr=>h.top x (rightL_mem.2 ⟨hx,hr⟩) hr⟩
theorem great_any (D : List Bm) (v : Value) (A : Nat -> Addr) (ml : Int) (w0 w : World) (hM : Mr w0 w v D) (h12 : D.length <= 1000000) (hr : ∀ r,r ∈ D -> Rt r) (S : Te w0 A ml) :
  Calls Tryz.prog 42 #[v] w fun e w'=>∃ u E,e = .returned u /\ E.length <= D.length /\ Jn D E /\ Mr w0 w' u E:=by
 obtain ⟨hb,a,cap,rfl,hcap,hk⟩:=hM
 by_cases hD : D = []
 ·subst hD
  have HS:=hid (sortM_nil a cap w)
  have HC:=hid (fun W=>compactM_nil a cap W)
  have h0 : a = none -> cap = 0:=by
   rcases hk with ⟨_,h0⟩ | ⟨g,rfl,_⟩
   ·exact h0
   ·intro h; cases h
  have HBL:=hid hb
  clear hk hb S
  go_enter Tryz.func42,Tryz.ntmps42
  go_wp2_with fail
  refine HS.out.mono ?_
  rintro e w1 ⟨rfl,hb⟩
  have HB1:=hid (HBL.out.trans (hb.mono HBL.out.size))
  clear hb
  go_wp2_with fail
  refine (HC.out _).mono ?_
  rintro e w2 ⟨rfl,hb⟩
  have HB2:=hid (HB1.out.trans (hb.mono HB1.out.size))
  clear hb
  go_wp2_with fail
  go_ret
  exact ⟨_,[],rfl,Nat.le_refl _,Jn.nil,HB2.out,a,cap,rfl,Nat.zero_le _,Or.inl ⟨rfl,h0⟩⟩
 ·obtain ⟨g,rfl,hM⟩ : ∃ g,a = some ⟨g,0,none⟩ /\ Mw w0 w g D:=by
   rcases hk with ⟨h,_⟩ | h
   ·exact absurd h hD
   ·exact h
  have HS:=hid (sort_mw w0 w g cap D hD h12 A ml S hr hM)
  have HRT:=hid hr
  have HD:=hid hD
  clear hk hb S hM hr hD
  go_enter Tryz.func42,Tryz.ntmps42
  go_wp2_with fail
  refine HS.out.mono ?_
  rintro e w1 ⟨rfl,D1,hp,hs,hM1⟩
  have hl : D1.length = D.length:=hp.length_eq
  have HC:=hid (compact_mw w0 w1 g cap D1 (fun e=>HD.out (by rw [e] at hl; exact List.length_eq_zero_iff.1 hl.symm)) (by omega) (by omega) (fun r h=>HRT.out r (hp.mem_iff.1 h)) hs hM1)
  have HP:=hid hp
  rw [hl] at HC
  clear hp hs hM1 HS
  go_wp2_with fail
  refine HC.out.mono ?_
  rintro e w2 ⟨E,rfl,hEl,hj,hM2⟩
  have HJ:=hid (hj.perm HP.out)
  have HM2:=hid hM2
  clear hj hM2
  go_wp2_with fail
  go_ret
  exact ⟨_,E,rfl,hEl,HJ.out,HM2.out.bl,_,cap,rfl,by omega,Or.inr ⟨g,rfl,HM2.out⟩⟩
theorem join_mods (X Y : List Bm) (va vb : Value) (A : Nat -> Addr) (ml : Int) (w : World) (hA : MsAt w va X) (hB : MsAt w vb Y) (eA : Em va X) (eB : Em vb Y) (lA : X.length <= 500) (lB : Y.length <= 500)
  (hz : ∀ r,r ∈ X ++ Y -> r.1.size < 999999 /\ r.2.size < 999999) (S : Te w A ml) :
  Calls Tryz.prog 23 #[va,vb] w fun e w'=>∃ v E,e = .returned v /\ E.length <= (X ++ Y).length /\ Jn (X ++ Y) E /\ Mr w w' v E:=by
 obtain ⟨aa,an,ac,ea⟩:=hA.slice
 obtain ⟨ba,bn,bc,eb⟩:=hB.slice
 subst ea eb
 have HB0:=hid ((Below.refl w.heap.size w).alloc (Nat.le_refl _) (.cells #[.slice aa an ac,.slice ba bn bc] 23))
 have HR:=hid (right_any X Y _ _ w.heap.size A ml (w.alloc (.cells #[.slice aa an ac,.slice ba bn bc] 23)) (by simp) (by simp) (hA.below HB0.out) (hB.below HB0.out) eA eB lA lB hz (S.below HB0.out))
 have HS:=hid S
 have HRT:=hid (show ∀ r,r ∈ rightL (X ++ Y) -> Rt r from fun r h=>⟨(rightL_mem.1 h).2,(hz r (rightL_mem.1 h).1).1,(hz r (rightL_mem.1 h).1).2⟩)
 have hl : (X ++ Y).length <= 1000:=by simp; omega
 have HRL:=hid (show (rightL (X ++ Y)).length <= (X ++ Y).length from List.length_filter_le _ _)
 generalize X ++ Y = D at *
 clear hA hB eA eB S hz
 go_enter Tryz.func23,Tryz.ntmps23
 go_wp2_with fail
 refine HR.out.mono ?_
 rintro e w1 ⟨v,rfl,hm⟩
 have HG:=hid (great_any (rightL D) v A ml _ w1 hm (by have:=HRL.out; omega) HRT.out (HS.out.below HB0.out))
 obtain ⟨va,vc,hv⟩:=hm.sl
 subst hv
 clear hm HR
 go_wp2_with fail
 refine HG.out.mono ?_
 rintro e w2 ⟨u,E,rfl,hl2,hj,hM⟩
 have HJ:=hid hj.right
 have HM:=hid (hM.base HB0.out)
 have HEL:=hid (Nat.le_trans hl2 HRL.out)
 obtain ⟨ua,uc,hu⟩:=hM.sl
 subst hu
 clear hj hM hl2
 go_wp2_with fail
 go_ret
 exact ⟨_,E,rfl,HEL.out,HJ.out,HM.out⟩
end Ve
end Go.Proofs.YtjbmjnbkibmkpaaGreatDoor


namespace Go.Proofs.YtjbmjnbkibmkpaaGreatDoor
open Go.RowKit Go.Maps
namespace Ve
theorem goM_sub {w : World} {v : Value} {Q : List Raw} {L : List Ent} (I : Ixs w v Q L) {T : By} {m : Bm} (h : m ∈ goM T Q) : m ∈ univ L:=by
 rw [<- univ_eq I]
 unfold goM goQ at h
 obtain ⟨r,hr,e⟩:=List.mem_map.1 h
 exact List.mem_map.2 ⟨r,(List.mem_filter.1 hr).1,e⟩
theorem univ_szJ {L : List Ent} (sh : ∀ e,e ∈ L -> ShE e) {m : Bm} (h : m ∈ univ L) : m.1.size < 999999 /\ m.2.size < 999999:=by
 obtain ⟨e,he,rfl⟩:=List.mem_map.1 h
 exact ⟨(sh e he).p,(sh e he).v⟩
theorem goM_lenJ {w : World} {v : Value} {Q : List Raw} {L : List Ent} (I : Ixs w v Q L) (T : By) : (goM T Q).length <= L.length:=by
 unfold goM goQ
 rw [List.length_map,<- I.ln]
 exact List.length_filter_le _ _
theorem em_none : Em (.slice none 0 0) []:=fun a c e _=>by
 injection e with e1 e2 e3
 subst e1 e3
 exact Or.inl rfl
theorem ms_none (w : World) : MsAt w (.slice none 0 0) []:=⟨none,0,rfl,Nat.le_refl _,fun h=>absurd rfl h⟩
set_option maxRecDepth 100000 in
theorem build_bad (Q : List Raw) (L : List Ent) (roots : List Bm) (v rv : Value) (A : Nat -> Addr) (m : Int) (w : World) (hn : L.length <= 1000) (hrn : roots.length <= 1000000) (sh : ∀ e,e ∈ L -> ShE e) (S : Te w A m) (I : Ixs w v Q L) (hr : MsAt w rv roots) (h0 : (chkG Q L roots).1 ≠ 0) :
  Calls Tryz.prog 9 #[v,rv] w fun e w'=>∃ T a,e = .returned (.tuple #[.slice none 0 0,.iface T (.pointer (some a))]) /\ ErrAt w' A (.iface T (.pointer (some a))) (chkG Q L roots).1 (chkG Q L roots).2 /\ Below w.heap.size w w':=by
 have HCK:=hid (reach_bad Q L roots v rv A m w hn hrn sh S I hr h0)
 obtain ⟨a,c,hv,-⟩:=id I.es
 subst hv
 obtain ⟨ra,rc,hrv,-⟩:=id hr
 subst hrv
 clear S I hr sh h0
 go_enter Tryz.func9,Tryz.ntmps9
 go_wp2_with fail
 refine HCK.out.mono ?_
 rintro e w1 ⟨T,xa,rfl,he,hb⟩
 have HB:=hid hb
 have HE:=hid he
 clear hb he HCK
 go_wp2_with fail
 go_ret2
 exact ⟨_,_,rfl,HE.out,HB.out⟩
structure Bt (Q : List Raw) (L : List Ent) (roots E : List Bm) : Prop where
 c : ∃ T,Came (reqQ Q L) (univ L) roots T /\ Jn (goM T Q) E /\ E.length <= (goM T Q).length
set_option maxRecDepth 100000 in
theorem build_good (Q : List Raw) (L : List Ent) (roots : List Bm) (v rv : Value) (A : Nat -> Addr) (m : Int) (w : World) (hn : L.length <= 1000) (hrn : roots.length <= 1000000) (sh : ∀ e,e ∈ L -> ShE e) (S : Te w A m) (I : Ixs w v Q L) (hr : MsAt w rv roots) (h0 : (chkG Q L roots).1 = 0) :
  Calls Tryz.prog 9 #[v,rv] w fun e w'=>∃ u E,e = .returned (.tuple #[u,.nilIface]) /\ Bt Q L roots E /\ Mr w w' u E:=by
 have HRE:=hid (reach_good Q L roots v rv A m w hn hrn sh S I hr h0)
 have hl : L.length <= 100:=by
  by_cases hc : (chk Q L).1 = 0
  ·exact (chk_each0 hc).1
  ·rw [chkG_bad hc] at h0; exact absurd h0 hc
 have HS:=hid S
 have HI:=hid I
 have HSH:=hid sh
 obtain ⟨a,c,hv,-⟩:=id I.es
 subst hv
 obtain ⟨ra,rc,hrv,-⟩:=id hr
 subst hrv
 clear S I hr sh h0
 go_enter Tryz.func9,Tryz.ntmps9
 go_wp2_with fail
 refine HRE.out.mono ?_
 rintro e w1 ⟨u,rfl,T,hcm,hown,hb⟩
 have HCM:=hid hcm
 have HB:=hid hb
 have hgl:=goM_lenJ HI.out T
 have HM:=hid (mr_own hown hb)
 have HJ:=hid (join_mods (goM T Q) [] u (.slice none 0 0) A m w1 HM.out.ms (ms_none w1) HM.out.em em_none (by omega) (by simp) (fun r hr=>univ_szJ HSH.out (goM_sub HI.out (by simpa using hr))) (HS.out.below hb))
 rw [List.append_nil] at HJ
 obtain ⟨ua,uc,hu⟩:=HM.out.sl
 subst hu
 clear hcm hown hb HRE HM
 go_wp2_with fail
 refine HJ.out.mono ?_
 rintro e w2 ⟨x,E,rfl,hel,hj,hm⟩
 have HMX:=hid (hm.base HB.out)
 have HBT:=hid (show Bt Q L roots E from ⟨T,HCM.out,hj,hel⟩)
 obtain ⟨xa,xc,hx⟩:=hm.sl
 subst hx
 clear hel hj hm HJ
 go_wp2_with fail
 go_ret2
 exact ⟨_,E,rfl,HBT.out,HMX.out⟩
end Ve
end Go.Proofs.YtjbmjnbkibmkpaaGreatDoor


namespace Go.Proofs.YtjbmjnbkibmkpaaGreatDoor
open Go.RowKit Go.Maps
namespace Ve
end Ve
end Go.Proofs.YtjbmjnbkibmkpaaGreatDoor


namespace Go.Proofs.YtjbmjnbkibmkpaaGreatDoor
open Go.RowKit Go.Maps
namespace Ve
theorem univ_right {Q : List Raw} {L : List Ent} (h : (chk Q L).1 = 0) : ∀ m,m ∈ univ L -> mErr m = 0:=fun m hm=>by
 obtain ⟨e,he,rfl⟩:=List.mem_map.1 hm
 obtain ⟨j,hj,rfl⟩:=List.getElem_of_mem he
 exact entE_mod hj ((chk_each0 h).2 j hj)
end Ve
end Go.Proofs.YtjbmjnbkibmkpaaGreatDoor


namespace Go.Proofs.YtjbmjnbkibmkpaaGreatDoor
open Go.RowKit Go.Maps
namespace Ve
theorem rch_univ {w : World} {v : Value} {Q : List Raw} {L : List Ent} {roots : List Bm} (I : Ixs w v Q L) (h : (chkG Q L roots).1 = 0) {m : Bm} (hm : Rch (reqQ Q L) roots m) : m ∈ univ L:=by
 have r:=rgt_of I h
 induction hm with
 | root hr=>exact r.r _ hr
 | step _ hr ih=>exact chk_reqs0 I r.c _ ih _ hr
end Ve
end Go.Proofs.YtjbmjnbkibmkpaaGreatDoor


namespace Go.Proofs.YtjbmjnbkibmkpaaGreatDoor
open Go.RowKit Go.Maps
namespace Ve
end Ve
end Go.Proofs.YtjbmjnbkibmkpaaGreatDoor


namespace Go.Proofs.YtjbmjnbkibmkpaaGreatDoor
open Go.RowKit Go.Maps
namespace Ve
theorem ms_nil0 (w : World) : MsAt w (.slice none 0 0) []:=⟨none,0,rfl,Nat.le_refl _,fun h=>absurd rfl h⟩
def rF (Q : List Raw) (L : List Ent) (roots : List Bm) : Nat × Option Nat:=if (chkG Q L roots).1 = 0 then (0,none) else chkG Q L roots
theorem rF_good {Q : List Raw} {L : List Ent} {roots : List Bm} (h : (chkG Q L roots).1 = 0) : rF Q L roots = (0,none):=if_pos h
theorem rF_bad {Q : List Raw} {L : List Ent} {roots : List Bm} (h : ¬ (chkG Q L roots).1 = 0) : rF Q L roots = chkG Q L roots:=if_neg h
open Classical in
noncomputable def rX (Q : List Raw) (L : List Ent) (roots : List Bm) : List Bm:=if (chkG Q L roots).1 = 0 then (univ L).filter (fun m=>decide (Rch (reqQ Q L) roots m)) else []
theorem rX_bad {Q : List Raw} {L : List Ent} {roots : List Bm} (h : ¬ (chkG Q L roots).1 = 0) : rX Q L roots = []:=if_neg h
theorem rX_go {w : World} {v : Value} {Q : List Raw} {L : List Ent} {roots : List Bm} {T : By} (I : Ixs w v Q L) (h : (chkG Q L roots).1 = 0) (hT : Came (reqQ Q L) (univ L) roots T) : goM T Q = rX Q L roots:=by
 unfold rX
 rw [if_pos h,<- univ_eq I]
 unfold goM goQ
 rw [List.filter_map]
 congr 1
 apply List.filter_congr
 intro r _
 show cameB T r.1 = _
 simp only [Function.comp]
 by_cases hr : Rch (reqQ Q L) roots r.1
 ·rw [(hT.cameB _).2 hr]; simp [hr]
 ·cases hc : cameB T r.1
  ·simp [hr]
  ·exact absurd ((hT.cameB _).1 hc) hr
theorem rX_len {Q : List Raw} {L : List Ent} {roots : List Bm} : (rX Q L roots).length <= L.length:=by
 unfold rX
 split
 ·refine Nat.le_trans (List.length_filter_le _ _) ?_
  rw [univ_len]; exact Nat.le_refl _
 ·simp
theorem rX_in {Q : List Raw} {L : List Ent} {roots : List Bm} {m : Bm} (h : m ∈ rX Q L roots) : (chkG Q L roots).1 = 0 /\ m ∈ univ L:=by
 unfold rX at h
 by_cases hc : (chkG Q L roots).1 = 0
 ·rw [if_pos hc] at h
  exact ⟨hc,(List.mem_filter.1 h).1⟩
 ·rw [if_neg hc] at h; simp at h
end Ve
end Go.Proofs.YtjbmjnbkibmkpaaGreatDoor


namespace Go.Proofs.YtjbmjnbkibmkpaaGreatDoor
open Go.RowKit Go.Maps
namespace Ve
def nextB (X : List Bm) (i : Nat) (p : ByteArray) : Bool:=match X[i + 1]? with
 | some y=>decide (y.1 = p)
 | none=>false
def lastN (X : List Bm) : Nat -> List Bm
 | 0=>[]
 | i + 1=>lastN X i ++ match X[i]? with
  | some x=>if nextB X i x.1 then [] else [x]
  | none=>[]
theorem lastN_skip {X : List Bm} {i : Nat} (h : i < X.length) (hb : nextB X i X[i].1 = true) : lastN X (i + 1) = lastN X i:=by
 show lastN X i ++ _ = _
 rw [List.getElem?_eq_getElem h]
 simp only [hb,if_true,List.append_nil]
theorem lastN_keep {X : List Bm} {i : Nat} (h : i < X.length) (hb : nextB X i X[i].1 = false) : lastN X (i + 1) = lastN X i ++ [X[i]]:=by
 show lastN X i ++ _ = _
 rw [List.getElem?_eq_getElem h]
 simp [hb]
theorem lastN_len (X : List Bm) : ∀ i,(lastN X i).length <= i
 | 0=>Nat.le_refl _
 | i + 1=>by
  have h:=lastN_len X i
  show (lastN X i ++ _).length <= _
  rw [List.length_append]
  split
  ·split
   ·simp; omega
   ·simp; omega
  ·simp; omega
theorem nextB_at {X : List Bm} {i : Nat} {p : ByteArray} (h : i + 1 < X.length) : nextB X i p = decide (X[i + 1].1 = p):=by unfold nextB; rw [List.getElem?_eq_getElem h]
theorem nextB_end {X : List Bm} {i : Nat} {p : ByteArray} (h : ¬ i + 1 < X.length) : nextB X i p = false:=by unfold nextB; rw [List.getElem?_eq_none (by omega)]
theorem lastN_over {X : List Bm} {n : Nat} (h : ¬ n < X.length) : lastN X (n + 1) = lastN X n:=by
 show lastN X n ++ _ = _
 rw [List.getElem?_eq_none (by omega)]; simp
theorem lastN_mem {X : List Bm} {e : Bm} : ∀ n,e ∈ lastN X n ↔ ∃ i,∃ h : i < X.length,i < n /\ X[i] = e /\ nextB X i X[i].1 = false
 | 0=>⟨(fun h=>by cases h),fun ⟨i,_,h,_⟩=>absurd h (Nat.not_lt_zero _)⟩
 | n + 1=>by
  have ih:=lastN_mem (X:=X) (e:=e) n
  by_cases h : n < X.length
  ·cases hb : nextB X n X[n].1
   ·rw [lastN_keep h hb,List.mem_append,ih,List.mem_singleton]
    constructor
    ·rintro (⟨i,hi,h1,h2,h3⟩ | rfl)
     ·exact ⟨i,hi,by omega,h2,h3⟩
     ·exact ⟨n,h,by omega,rfl,hb⟩
    ·rintro ⟨i,hi,h1,h2,h3⟩
     rcases Nat.lt_or_ge i n with h4 | h4
     ·exact Or.inl ⟨i,hi,h4,h2,h3⟩
     ·have : i = n:=by omega
      subst this; exact Or.inr h2.symm
   ·rw [lastN_skip h hb,ih]
    constructor
    ·rintro ⟨i,hi,h1,h2,h3⟩; exact ⟨i,hi,by omega,h2,h3⟩
    ·rintro ⟨i,hi,h1,h2,h3⟩
     rcases Nat.lt_or_ge i n with h4 | h4
     ·exact ⟨i,hi,h4,h2,h3⟩
     ·have : i = n:=by omega
      subst this; rw [hb] at h3; cases h3
  ·rw [lastN_over h,ih]
   constructor
   ·rintro ⟨i,hi,h1,h2,h3⟩; exact ⟨i,hi,by omega,h2,h3⟩
   ·rintro ⟨i,hi,h1,h2,h3⟩; exact ⟨i,hi,by omega,h2,h3⟩
theorem lastN_rising {X : List Bm} (hX : X.Pairwise fun a b=>mAhead a b = true) : ∀ n,n <= X.length -> rising (lastN X n)
 | 0,_=>List.Pairwise.nil
 | n + 1,hn=>by
  have ih:=lastN_rising hX n (by omega)
  have h : n < X.length:=by omega
  cases hb : nextB X n X[n].1
  ·rw [lastN_keep h hb]
   refine List.pairwise_append.2 ⟨ih,List.pairwise_singleton _ _,fun a ha b hbb=>?_⟩
   rw [List.mem_singleton.1 hbb]
   obtain ⟨i,hi,h1,rfl,h3⟩:=(lastN_mem n).1 ha
   have hp:=List.pairwise_iff_getElem.1 hX
   have h4 : i + 1 < X.length:=by omega
   rw [nextB_at h4] at h3
   have h5 : X[i + 1].1 ≠ X[i].1:=of_decide_eq_false h3
   have h6:=hp i (i + 1) hi h4 (by omega)
   rw [ahead_other (fun e=>h5 e.symm)] at h6
   rcases Nat.lt_or_ge (i + 1) n with h7 | h7
   ·have h8:=hp (i + 1) n h4 h h7
    by_cases e : X[i + 1].1 = X[n].1
    ·rw [<- e]; exact h6
    ·rw [ahead_other e] at h8; exact lt_trans h6 h8
   ·have : n = i + 1:=by omega
    subst this; exact h6
  ·rw [lastN_skip h hb]; exact ih
theorem ordV_selfJ {m : Bm} (h : mErr m = 0) : ordV (vb m) (vb m) <= 0:=by rw [(ordV_zero (mErr_zero h).2 (mErr_zero h).2).2 rfl]; omega
theorem lastN_top {X : List Bm} (hX : X.Pairwise fun a b=>mAhead a b = true) (hr : ∀ m,m ∈ X -> mErr m = 0) : ∀ (d i : Nat) (hi : i < X.length),X.length - i = d -> ∃ e,e ∈ lastN X X.length /\ e.1 = X[i].1 /\ ordV (vb X[i]) (vb e) <= 0
 | 0,i,hi,h=>by omega
 | d + 1,i,hi,h=>by
  have hm:=hr X[i] (List.getElem_mem hi)
  cases hb : nextB X i X[i].1
  ·exact ⟨X[i],(lastN_mem _).2 ⟨i,hi,hi,rfl,hb⟩,rfl,ordV_selfJ hm⟩
  ·by_cases h1 : i + 1 < X.length
   ·rw [nextB_at h1] at hb
    have h2 : X[i + 1].1 = X[i].1:=of_decide_eq_true hb
    obtain ⟨e,he,e1,e2⟩:=lastN_top hX hr d (i + 1) h1 (by omega)
    have hm1:=hr X[i + 1] (List.getElem_mem h1)
    have h3:=List.pairwise_iff_getElem.1 hX i (i + 1) hi h1 (by omega)
    rw [ahead_same h2.symm,less_right (mErr_zero hm).2 (mErr_zero hm1).2] at h3
    have h4:=of_decide_eq_true h3
    have hme : mErr e = 0:=by
     obtain ⟨j,hj,_,rfl,_⟩:=(lastN_mem _).1 he
     exact hr _ (List.getElem_mem hj)
    exact ⟨e,he,e1.trans h2,ordV_le_trans (mErr_zero hm).2 (mErr_zero hm1).2 (mErr_zero hme).2 (Int.le_of_lt h4) e2⟩
   ·rw [nextB_end h1] at hb; cases hb
theorem lastN_jn {X : List Bm} (hX : X.Pairwise fun a b=>mAhead a b = true) (hr : ∀ m,m ∈ X -> mErr m = 0) : Jn X (lastN X X.length):=by
 refine ⟨lastN_rising hX _ (Nat.le_refl _),fun e he=>?_,fun x hx _=>?_⟩
 ·obtain ⟨j,hj,_,rfl,_⟩:=(lastN_mem _).1 he
  exact ⟨List.getElem_mem hj,hr _ (List.getElem_mem hj)⟩
 ·obtain ⟨i,hi,rfl⟩:=List.getElem_of_mem hx
  exact lastN_top hX hr _ i hi rfl
noncomputable def bX (Q : List Raw) (L : List Ent) (roots : List Bm) : List Bm:=lastN (rX Q L roots) (rX Q L roots).length
theorem rX_rises {Q : List Raw} {L : List Ent} {roots : List Bm} : (rX Q L roots).Pairwise fun a b=>mAhead a b = true:=by
 by_cases h : (chkG Q L roots).1 = 0
 ·unfold rX
  rw [if_pos h]
  have hc : (chk Q L).1 = 0:=by
   by_cases hc : (chk Q L).1 = 0
   ·exact hc
   ·rw [chkG_bad hc] at h; exact h
  exact List.Pairwise.filter _ (univ_rises hc)
 ·rw [rX_bad h]; exact List.Pairwise.nil
theorem chkG_chk {Q : List Raw} {L : List Ent} {roots : List Bm} (h : (chkG Q L roots).1 = 0) : (chk Q L).1 = 0:=by
 by_cases hc : (chk Q L).1 = 0
 ·exact hc
 ·rw [chkG_bad hc] at h; exact h
theorem rX_right {Q : List Raw} {L : List Ent} {roots : List Bm} : ∀ m,m ∈ rX Q L roots -> mErr m = 0:=fun m hm=>by
 obtain ⟨h1,h2⟩:=rX_in hm
 exact univ_right (chkG_chk h1) m h2
theorem bX_jn (Q : List Raw) (L : List Ent) (roots : List Bm) : Jn (rX Q L roots) (bX Q L roots):=lastN_jn rX_rises rX_right
theorem bX_len {Q : List Raw} {L : List Ent} {roots : List Bm} : (bX Q L roots).length <= L.length:=Nat.le_trans (lastN_len _ _) rX_len
theorem bX_bad {Q : List Raw} {L : List Ent} {roots : List Bm} (h : ¬ (chkG Q L roots).1 = 0) : bX Q L roots = []:=by unfold bX; rw [rX_bad h]; rfl
theorem bt_bX {w : World} {v : Value} {Q : List Raw} {L : List Ent} {roots E : List Bm} (I : Ixs w v Q L) (h : (chkG Q L roots).1 = 0) (hb : Bt Q L roots E) : E = bX Q L roots:=by
 obtain ⟨T,h1,h2,_⟩:=hb.c
 rw [rX_go I h h1] at h2
 exact h2.one (bX_jn Q L roots) (fun _ _=>Iff.rfl)
theorem Mr.below {w0 W W' : World} {v : Value} {D : List Bm} (h : Mr w0 W v D) (hb : Below W.heap.size W W') : Mr w0 W' v D:=by
 obtain ⟨h1,a,cap,rfl,hc,hk⟩:=h
 refine ⟨h1.trans (hb.mono h1.size),a,cap,rfl,hc,?_⟩
 rcases hk with hk | ⟨g,rfl,hM⟩
 ·exact Or.inl hk
 ·exact Or.inr ⟨g,rfl,hM.below hb⟩
theorem mr_nil0 {w w' : World} (h : Below w.heap.size w w') : Mr w w' (.slice none 0 0) []:=⟨h,none,0,rfl,Nat.le_refl _,Or.inl ⟨rfl,fun _=>rfl⟩⟩
theorem build_all (Q : List Raw) (L : List Ent) (roots : List Bm) (v rv : Value) (A : Nat -> Addr) (m : Int) (w : World) (hn : L.length <= 1000) (hrn : roots.length <= 1000000) (sh : ∀ e,e ∈ L -> ShE e) (S : Te w A m) (I : Ixs w v Q L) (hr : MsAt w rv roots) :
  Calls Tryz.prog 9 #[v,rv] w fun e w'=>∃ a c x,e = .returned (.tuple #[.slice a (bX Q L roots).length c,x]) /\ Mr w w' (.slice a (bX Q L roots).length c) (bX Q L roots) /\ ErrAt w' A x (rF Q L roots).1 (rF Q L roots).2:=by
 by_cases h : (chkG Q L roots).1 = 0
 ·refine (build_good Q L roots v rv A m w hn hrn sh S I hr h).mono ?_
  rintro e w' ⟨u,E,rfl,hbt,hm⟩
  have he:=bt_bX I h hbt
  subst he
  obtain ⟨a,c,hu⟩:=hm.sl
  subst hu
  exact ⟨a,c,_,rfl,hm,by rw [rF_good h]; rfl⟩
 ·refine (build_bad Q L roots v rv A m w hn hrn sh S I hr h).mono ?_
  rintro e w' ⟨T,a,rfl,he,hb⟩
  rw [bX_bad h,rF_bad h]
  exact ⟨_,_,_,rfl,mr_nil0 hb,he⟩
end Ve
end Go.Proofs.YtjbmjnbkibmkpaaGreatDoor
