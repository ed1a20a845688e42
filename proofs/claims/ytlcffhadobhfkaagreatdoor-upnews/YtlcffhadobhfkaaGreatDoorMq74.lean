/-
  OrdT
-/
import Derived.Test.YtlcffhadobhfkaaGreatDoorMq5
import Derived.Test.YtlcffhadobhfkaaGreatDoorMq6
import Derived.Test.YtlcffhadobhfkaaGreatDoorMq3
import Derived.Test.YtlcffhadobhfkaaGreatDoorMq9
import Derived.Test.YtlcffhadobhfkaaGreatDoorMq11
import Derived.Test.YtlcffhadobhfkaaGreatDoorMq7
import Derived.Test.YtlcffhadobhfkaaGreatDoorMq73
namespace Go.Proofs.YtlcffhadobhfkaaGreatDoor
open Go.RowKit
namespace Ve
theorem same_rc (r q : Rc) (g : Nat) (W : World) (hr : RcAt W g r) (hq : RcAt W g q) :
    Calls Tryz.prog 274 #[.agg #[.int .i64 (nAt r.1 0),.int .i64 (nAt r.1 1),.int .i64 (nAt r.1 2),r.2],.agg #[.int .i64 (nAt q.1 0),.int .i64 (nAt q.1 1),.int .i64 (nAt q.1 2),q.2]] W
      fun e w'=>e = .returned (.bool (ordV r.1 q.1 == 0)) /\ Below W.heap.size W w':=by
  have HB0:=hid (((Below.refl W.heap.size W).alloc (Nat.le_refl _) (.cells #[.int .i64 (nAt r.1 0),.int .i64 (nAt r.1 1),.int .i64 (nAt r.1 2),r.2] 144)).alloc (by simp) (.cells #[.int .i64 (nAt q.1 0),.int .i64 (nAt q.1 1),.int .i64 (nAt q.1 2),q.2] 144))
  have HC:=hid (compare_rc r q g _ (hr.below HB0.out) (hq.below HB0.out))
  obtain ⟨pr,nr,cr,hrv⟩:=hr.2.2.1.slice
  obtain ⟨pq,nq,cq,hqv⟩:=hq.2.2.1.slice
  clear hr hq
  obtain ⟨tr,vr⟩:=r
  obtain ⟨tq,vq⟩:=q
  simp only at hrv hqv
  subst hrv hqv
  generalize ordV tr tq = od at *
  go_enter Tryz.func274,Tryz.ntmps274
  go_wp2_with fail
  refine HC.out.mono ?_
  rintro e w1 ⟨rfl,hb⟩
  have HB:=hid (HB0.out.trans (hb.mono HB0.out.size))
  clear hb
  go_wp2_with fail
  go_ret
  exact ⟨rfl,HB.out⟩
theorem compact_nil (W : World) : Calls Tryz.prog 273 #[.slice none 0 0,.func (.func 274) #[] #[]] W fun e w'=>e = .returned (.slice none 0 0) /\ Below W.heap.size W w':=by
  go_enter Tryz.func273,Tryz.ntmps273
  go_wp2_with fail
  go_ret
  exact ⟨rfl,Below.refl _ _⟩
set_option maxRecDepth 100000 in
set_option maxHeartbeats 8000000 in
theorem compact_rw (w0 w : World) (g cap : Nat) (D : List Rc) (hD : D ≠ []) (h12 : D.length <= 1000) (hc : D.length <= cap) (_hcm : cap <= maxLen) (hs : srt D) (hR : Rw w0 w g D) :
    Calls Tryz.prog 273 #[.slice (some ⟨g,0,none⟩) D.length cap,.func (.func 274) #[] #[]] w fun e w'=>∃ E : List Rc,e = .returned (.slice (some ⟨g,0,none⟩) E.length cap) /\ E.length <= D.length /\ rises (E.map (·.1)) /\ (∀ t,t ∈ E.map (·.1) ↔ t ∈ D.map (·.1)) /\ Rw w0 w' g E:=by
  have HR:=hid hR
  have HS:=hid hs
  have hpos : 0 < D.length:=List.length_pos_iff.2 hD
  clear hR hs hD
  by_cases h2 : D.length < 2
  · have h2i : (D.length : Int) < 2:=by omega
    have HRI:=hid (show rises (D.map (·.1)) by
      match D,h2 with
      | [],_=>exact List.Pairwise.nil
      | [r],_=>exact List.pairwise_singleton _ _)
    go_enter Tryz.func273,Tryz.ntmps273
    go_wp2_with fail
    go_ret
    exact ⟨D,rfl,Nat.le_refl _,HRI.out,fun _=>Iff.rfl,HR.out⟩
  · have h2i : ¬ (D.length : Int) < 2:=by omega
    go_enter Tryz.func273,Tryz.ntmps273
    go_wp2_with fail
    have HVV:=hid (show ∀ r,r ∈ D -> verErr r.1 = 0 from fun r hr=>(HR.out.rc r hr).1)
    go_loopw [5] (fun i wr=>∃ k : Nat,k + 1 <= D.length /\ i = .int .i64 ((k : Int) + 1) /\ Hid (Cp D (k + 1) (D.take (k + 1))) /\ Hid (Rw w0 wr g D)) (fun i _=>D.length - (intOf i).toNat)
    case atStart=>exact ⟨0,by omega,rfl,hid (Cp.start hpos),HR⟩
    case round=>
      obtain ⟨k,hk,rfl,HCP,HRW⟩:=hrel
      by_cases hkn : k + 1 < D.length
      · have hi1 : (0 : Int) <= (k : Int) + 1:=by omega
        have hi2 : (k : Int) + 1 < (D.length : Int):=by omega
        have hi3 : (0 : Int) <= (k : Int):=by omega
        have hi4 : (k : Int) < (D.length : Int):=by omega
        have hi5 : (k : Int) + 1 - 1 = (k : Int):=by omega
        have hwp : IntKind.i64.wrap (k : Int) = (k : Int):=by rw [IntKind.wrap_i64]; omega
        have hwe : ((k : Int) + 1).toNat = k + 1:=by omega
        have hcap1 : (k : Int) + 1 <= (cap : Int):=by omega
        have hcap2 : (D.length : Int) <= (cap : Int):=by omega
        have HPL:=hid (fun h=>HCP.out.plain HS.out HVV.out hkn h)
        have HSA:=hid (fun h=>HCP.out.same HVV.out hkn h)
        have HY:=hid (HRW.out.rc D[k] (List.getElem_mem (by omega)))
        have HX:=hid (HRW.out.rc D[k + 1] (List.getElem_mem hkn))
        have hy2 : D[k]? = some D[k]:=List.getElem?_eq_getElem (by omega)
        have hx2 : D[k + 1]? = some D[k + 1]:=List.getElem?_eq_getElem hkn
        generalize D[k] = y at *
        generalize D[k + 1] = x at *
        obtain ⟨ty,vy⟩:=y
        obtain ⟨tx,vx⟩:=x
        obtain ⟨py,ny,cy,rfl⟩:=HY.out.2.2.1.slice
        obtain ⟨px,nx,cx,rfl⟩:=HX.out.2.2.1.slice
        have HCM:=hid (fun W (hr : RcAt W g (tx,.slice px nx cx)) (hq : RcAt W g (ty,.slice py ny cy))=>(show Calls Tryz.prog 274 #[.agg #[.int .i64 (nAt tx 0),.int .i64 (nAt tx 1),.int .i64 (nAt tx 2),.slice px nx cx],.agg #[.int .i64 (nAt ty 0),.int .i64 (nAt ty 1),.int .i64 (nAt ty 2),.slice py ny cy]] W
            fun e w'=>e = .returned (.bool (ordV tx ty == 0)) /\ Below W.heap.size W w' from same_rc (tx,.slice px nx cx) (ty,.slice py ny cy) g W hr hq))
        have HTW:=hid (fun (W : World) (h : Rw w0 W g D)=>(show W.cell? ⟨g,k * 4,none⟩ = some (.int .i64 (nAt ty 0)) /\ W.cell? ⟨g,k * 4 + 1,none⟩ = some (.int .i64 (nAt ty 1)) /\ W.cell? ⟨g,k * 4 + 2,none⟩ = some (.int .i64 (nAt ty 2)) /\ W.cell? ⟨g,k * 4 + 3,none⟩ = some (.slice py ny cy) /\ W.cell? ⟨g,(k + 1) * 4,none⟩ = some (.int .i64 (nAt tx 0)) /\ W.cell? ⟨g,(k + 1) * 4 + 1,none⟩ = some (.int .i64 (nAt tx 1)) /\ W.cell? ⟨g,(k + 1) * 4 + 2,none⟩ = some (.int .i64 (nAt tx 2)) /\ W.cell? ⟨g,(k + 1) * 4 + 3,none⟩ = some (.slice px nx cx) /\ Hid (Rw w0 W g D) from h.two hy2 hx2))
        obtain ⟨a0,a1,a2,a3,b0,b1,b2,b3,_⟩:=HTW.out _ HRW.out
        clear hy2 hx2
        by_cases hod : ordV tx ty = 0
        · have HC2:=hid (HSA.out hod)
          rw [hod] at HCM
          clear hod
          go_wp2_with fail
          go_region_held (fun W=>W.cell? ⟨g,k * 4,none⟩ = some (.int .i64 (nAt ty 0)) /\ W.cell? ⟨g,k * 4 + 1,none⟩ = some (.int .i64 (nAt ty 1)) /\ W.cell? ⟨g,k * 4 + 2,none⟩ = some (.int .i64 (nAt ty 2)) /\ W.cell? ⟨g,k * 4 + 3,none⟩ = some (.slice py ny cy) /\ W.cell? ⟨g,(k + 1) * 4,none⟩ = some (.int .i64 (nAt tx 0)) /\ W.cell? ⟨g,(k + 1) * 4 + 1,none⟩ = some (.int .i64 (nAt tx 1)) /\ W.cell? ⟨g,(k + 1) * 4 + 2,none⟩ = some (.int .i64 (nAt tx 2)) /\ W.cell? ⟨g,(k + 1) * 4 + 3,none⟩ = some (.slice px nx cx) /\ Hid (Rw w0 W g D)) (first | exact HTW.out _ HRa.out | exact HTW.out _ (HRW.out.below (below_drawn _ 1))) (first
            | (go_at_call 274; refine (HCM.out _ ?_ ?_).mono ?_; exact HX.out.below (below_drawn _ 1); exact HY.out.below (below_drawn _ 1); rintro e w' ⟨rfl,hb⟩; have HRa:=hid ((HRW.out.below (below_drawn _ 1)).below hb); clear hb))
          all_goals
            have HN:=hid (show (D.take (k + 1)).length = k + 1 by simp; omega)
            clear a0 a1 a2 a3 b0 b1 b2 b3
            go_wp2_with fail
            go_loopw [5,7] (fun a b wr2=>∃ (j : Nat) (E : List Rc),a = .int .i64 (E.length : Int) /\ b = .int .i64 ((j : Int) + 1) /\ k + 1 + (j + 1) <= D.length /\ E.length <= k + 1 + j /\ Hid (Cp D (k + 1 + j + 1) E) /\ Hid (Rw w0 wr2 g (E ++ D.drop E.length))) (fun _ b _=>D.length - (intOf b).toNat)
            case atStart=>exact ⟨0,D.take (k + 1),by rw [HN.out]; rfl,rfl,by omega,by rw [HN.out]; omega,HC2,hid (by rw [HN.out,List.take_append_drop]; exact HRa.out)⟩
            case round=>
              obtain ⟨j,E,rfl,rfl,hjD,hEj,HCE,HRV⟩:=hrel
              have HAT:=hid (show ∀ i,E.length <= i -> (E ++ D.drop E.length)[i]? = D[i]? from fun i hi=>by rw [List.getElem?_append_right hi,List.getElem?_drop]; congr 1; omega)
              by_cases hj : k + 1 + (j + 1) < D.length
              · have g1 : (0 : Int) <= (j : Int) + 1:=by omega
                have g2 : (j : Int) + 1 < ((D.length - (k + 1) : Nat) : Int):=by omega
                have g3 : (0 : Int) <= (j : Int):=by omega
                have g4 : (j : Int) < ((D.length - (k + 1) : Nat) : Int):=by omega
                have g5 : (j : Int) + 1 - 1 = (j : Int):=by omega
                have gwp : IntKind.i64.wrap (j : Int) = (j : Int):=by rw [IntKind.wrap_i64]; omega
                have gwe : ((j : Int) + 1).toNat = j + 1:=by omega
                have HMO:=hid (fun h=>HCE.out.more HS.out HVV.out hj h)
                have HSM:=hid (fun h=>HCE.out.same HVV.out hj h)
                have hv2 : (E ++ D.drop E.length)[k + 1 + j]? = some D[k + 1 + j]:=by rw [HAT.out _ hEj]; exact List.getElem?_eq_getElem (by omega)
                have hu2 : (E ++ D.drop E.length)[k + 1 + j + 1]? = some D[k + 1 + j + 1]:=by rw [HAT.out _ (by omega)]; exact List.getElem?_eq_getElem hj
                have HVY:=hid (HRV.out.rc D[k + 1 + j] (List.mem_of_getElem? hv2))
                have HVX:=hid (HRV.out.rc D[k + 1 + j + 1] (List.mem_of_getElem? hu2))
                have HUM:=hid (List.mem_of_getElem? hu2)
                generalize D[k + 1 + j] = y at *
                generalize D[k + 1 + j + 1] = x at *
                obtain ⟨sy,vy⟩:=y
                obtain ⟨sx,vx⟩:=x
                obtain ⟨qy,my,dy,rfl⟩:=HVY.out.2.2.1.slice
                obtain ⟨qx,mx,dx,rfl⟩:=HVX.out.2.2.1.slice
                have HCN:=hid (fun W (hr : RcAt W g (sx,.slice qx mx dx)) (hq : RcAt W g (sy,.slice qy my dy))=>(show Calls Tryz.prog 274 #[.agg #[.int .i64 (nAt sx 0),.int .i64 (nAt sx 1),.int .i64 (nAt sx 2),.slice qx mx dx],.agg #[.int .i64 (nAt sy 0),.int .i64 (nAt sy 1),.int .i64 (nAt sy 2),.slice qy my dy]] W
                  fun e w'=>e = .returned (.bool (ordV sx sy == 0)) /\ Below W.heap.size W w' from same_rc (sx,.slice qx mx dx) (sy,.slice qy my dy) g W hr hq))
                have HTV:=hid (fun (W : World) (h : Rw w0 W g (E ++ D.drop E.length))=>(show W.cell? ⟨g,(k + 1) * 4 + j * 4,none⟩ = some (.int .i64 (nAt sy 0)) /\ W.cell? ⟨g,(k + 1) * 4 + j * 4 + 1,none⟩ = some (.int .i64 (nAt sy 1)) /\ W.cell? ⟨g,(k + 1) * 4 + j * 4 + 2,none⟩ = some (.int .i64 (nAt sy 2)) /\ W.cell? ⟨g,(k + 1) * 4 + j * 4 + 3,none⟩ = some (.slice qy my dy) /\ W.cell? ⟨g,(k + 1) * 4 + (j + 1) * 4,none⟩ = some (.int .i64 (nAt sx 0)) /\ W.cell? ⟨g,(k + 1) * 4 + (j + 1) * 4 + 1,none⟩ = some (.int .i64 (nAt sx 1)) /\ W.cell? ⟨g,(k + 1) * 4 + (j + 1) * 4 + 2,none⟩ = some (.int .i64 (nAt sx 2)) /\ W.cell? ⟨g,(k + 1) * 4 + (j + 1) * 4 + 3,none⟩ = some (.slice qx mx dx) /\ Hid (Rw w0 W g (E ++ D.drop E.length)) by
                  have h2:=h.two hv2 hu2
                  unfold Two at h2
                  rw [show (k + 1 + j) * 4 = (k + 1) * 4 + j * 4 by omega,show (k + 1 + j + 1) * 4 = (k + 1) * 4 + (j + 1) * 4 by omega] at h2
                  exact h2))
                obtain ⟨a0,a1,a2,a3,b0,b1,b2,b3,_⟩:=HTV.out _ HRV.out
                clear hv2 hu2
                by_cases hoe : ordV sx sy = 0
                · have HC3:=hid (HSM.out hoe)
                  rw [hoe] at HCN
                  clear hoe
                  go_wp2_with fail
                  go_region_held (fun W=>W.cell? ⟨g,(k + 1) * 4 + j * 4,none⟩ = some (.int .i64 (nAt sy 0)) /\ W.cell? ⟨g,(k + 1) * 4 + j * 4 + 1,none⟩ = some (.int .i64 (nAt sy 1)) /\ W.cell? ⟨g,(k + 1) * 4 + j * 4 + 2,none⟩ = some (.int .i64 (nAt sy 2)) /\ W.cell? ⟨g,(k + 1) * 4 + j * 4 + 3,none⟩ = some (.slice qy my dy) /\ W.cell? ⟨g,(k + 1) * 4 + (j + 1) * 4,none⟩ = some (.int .i64 (nAt sx 0)) /\ W.cell? ⟨g,(k + 1) * 4 + (j + 1) * 4 + 1,none⟩ = some (.int .i64 (nAt sx 1)) /\ W.cell? ⟨g,(k + 1) * 4 + (j + 1) * 4 + 2,none⟩ = some (.int .i64 (nAt sx 2)) /\ W.cell? ⟨g,(k + 1) * 4 + (j + 1) * 4 + 3,none⟩ = some (.slice qx mx dx) /\ Hid (Rw w0 W g (E ++ D.drop E.length))) (first | exact HTV.out _ HRb.out | exact HTV.out _ (HRV.out.below (below_drawn _ 1))) (first
                  | (go_at_call 274; refine (HCN.out _ ?_ ?_).mono ?_; exact HVX.out.below (below_drawn _ 1); exact HVY.out.below (below_drawn _ 1); rintro e w' ⟨rfl,hb⟩; have HRb:=hid ((HRV.out.below (below_drawn _ 1)).below hb); clear hb))
                  all_goals
                    go_wp2_with fail
                    go_roundw
                    case rel=>exact ⟨j + 1,E,rfl,by go_num,by omega,by omega,HC3,HRb⟩
                    case measure=>simp [intOf]; omega
                · have HC3:=hid (HMO.out hoe)
                  have hob : (ordV sx sy == 0) = false:=beq_eq_false_iff_ne.2 hoe
                  rw [hob] at HCN
                  clear hoe hob
                  go_wp2_with fail
                  go_region_held (fun W=>W.cell? ⟨g,(k + 1) * 4 + j * 4,none⟩ = some (.int .i64 (nAt sy 0)) /\ W.cell? ⟨g,(k + 1) * 4 + j * 4 + 1,none⟩ = some (.int .i64 (nAt sy 1)) /\ W.cell? ⟨g,(k + 1) * 4 + j * 4 + 2,none⟩ = some (.int .i64 (nAt sy 2)) /\ W.cell? ⟨g,(k + 1) * 4 + j * 4 + 3,none⟩ = some (.slice qy my dy) /\ W.cell? ⟨g,(k + 1) * 4 + (j + 1) * 4,none⟩ = some (.int .i64 (nAt sx 0)) /\ W.cell? ⟨g,(k + 1) * 4 + (j + 1) * 4 + 1,none⟩ = some (.int .i64 (nAt sx 1)) /\ W.cell? ⟨g,(k + 1) * 4 + (j + 1) * 4 + 2,none⟩ = some (.int .i64 (nAt sx 2)) /\ W.cell? ⟨g,(k + 1) * 4 + (j + 1) * 4 + 3,none⟩ = some (.slice qx mx dx) /\ Hid (Rw w0 W g (E ++ D.drop E.length))) (first | exact HTV.out _ HRb.out | exact HTV.out _ (HRV.out.below (below_drawn _ 1))) (first
                  | (go_at_call 274; refine (HCN.out _ ?_ ?_).mono ?_; exact HVX.out.below (below_drawn _ 1); exact HVY.out.below (below_drawn _ 1); rintro e w' ⟨rfl,hb⟩; have HRb:=hid ((HRV.out.below (below_drawn _ 1)).below hb); clear hb))
                  all_goals
                    clear a0 a1 a2 a3 b0 b1 b2 b3
                    obtain ⟨a0,a1,a2,a3,b0,b1,b2,b3,_⟩:=HTV.out _ HRb.out
                    have hfz:=HRb.out.fz
                    have e1 : (0 : Int) <= (E.length : Int):=by omega
                    have e2 : (E.length : Int) < (D.length : Int):=by omega
                    have hEl : E.length < (E ++ D.drop E.length).length:=by simp; omega
                    obtain ⟨z0,z1,z2,z3⟩:=HRb.out.at (j:=E.length) (r:=(E ++ D.drop E.length)[E.length]) (List.getElem?_eq_getElem hEl)
                    have HW4:=hid (show Rw w0 ((((w'.setCell ⟨g,E.length * 4,none⟩ (.int .i64 (nAt sx 0))).setCell ⟨g,E.length * 4 + 1,none⟩ (.int .i64 (nAt sx 1))).setCell ⟨g,E.length * 4 + 2,none⟩ (.int .i64 (nAt sx 2))).setCell ⟨g,E.length * 4 + 3,none⟩ (.slice qx mx dx)) g ((E ++ [((sx,.slice qx mx dx) : Rc)]) ++ D.drop (E ++ [((sx,.slice qx mx dx) : Rc)]).length) by
                      have h:=HRb.out.setAt E.length hEl (sx,.slice qx mx dx) (HRb.out.rc _ HUM.out)
                      have e : (E ++ D.drop E.length).set E.length (sx,.slice qx mx dx) = (E ++ [((sx,.slice qx mx dx) : Rc)]) ++ D.drop (E ++ [((sx,.slice qx mx dx) : Rc)]).length:=by
                        rw [List.set_append_right _ _ (Nat.le_refl _),Nat.sub_self,List.drop_eq_getElem_cons (show E.length < D.length by omega),List.set_cons_zero,List.length_append]
                        simp
                      rw [e] at h
                      exact h)
                    go_wp2_with fail
                    go_roundw
                    case rel=>exact ⟨j + 1,E ++ [(sx,.slice qx mx dx)],by simp,by go_num,by omega,by simp; omega,HC3,HW4⟩
                    case measure=>simp [intOf]; omega
              · have hje : k + 1 + (j + 1) = D.length:=by omega
                have g2 : ¬ (j : Int) + 1 < ((D.length - (k + 1) : Nat) : Int):=by omega
                have hRl : (E ++ D.drop E.length).length = D.length:=by simp; omega
                obtain ⟨zs,hcl⟩:=run_clear_rw HRV.out E.length (by omega)
                rw [hRl] at hcl
                have HEN:=hid (show Cp D D.length E by have:=HCE.out; rw [show k + 1 + j + 1 = D.length by omega] at this; exact this)
                have HRE:=hid (show Rw w0 (wr.setCells g (E.length * 4) zs) g E by
                  have:=HRV.out.cleared E.length (by omega) zs
                  rw [List.take_left'  rfl] at this
                  exact this)
                have c1 : (E.length : Int) <= (D.length : Int):=by omega
                have c2 : (E.length : Int) < (cap : Int):=by omega
                have c3 : (E.length : Int) <= (cap : Int):=by omega
                have c4 : (0 : Int) <= (E.length : Int):=by omega
                have c5 : E.length < cap:=by omega
                go_wp2_with fail
                go_ret
                exact ⟨E,rfl,by omega,HEN.out.ri,fun t=>by have h:=HEN.out.mem t; rw [List.take_length] at h; simpa using h,HRE.out⟩
        · have HC2:=hid (HPL.out hod)
          have hob : (ordV tx ty == 0) = false:=beq_eq_false_iff_ne.2 hod
          rw [hob] at HCM
          clear hod hob
          go_wp2_with fail
          go_region_held (fun W=>W.cell? ⟨g,k * 4,none⟩ = some (.int .i64 (nAt ty 0)) /\ W.cell? ⟨g,k * 4 + 1,none⟩ = some (.int .i64 (nAt ty 1)) /\ W.cell? ⟨g,k * 4 + 2,none⟩ = some (.int .i64 (nAt ty 2)) /\ W.cell? ⟨g,k * 4 + 3,none⟩ = some (.slice py ny cy) /\ W.cell? ⟨g,(k + 1) * 4,none⟩ = some (.int .i64 (nAt tx 0)) /\ W.cell? ⟨g,(k + 1) * 4 + 1,none⟩ = some (.int .i64 (nAt tx 1)) /\ W.cell? ⟨g,(k + 1) * 4 + 2,none⟩ = some (.int .i64 (nAt tx 2)) /\ W.cell? ⟨g,(k + 1) * 4 + 3,none⟩ = some (.slice px nx cx) /\ Hid (Rw w0 W g D)) (first | exact HTW.out _ HRa.out | exact HTW.out _ (HRW.out.below (below_drawn _ 1))) (first
            | (go_at_call 274; refine (HCM.out _ ?_ ?_).mono ?_; exact HX.out.below (below_drawn _ 1); exact HY.out.below (below_drawn _ 1); rintro e w' ⟨rfl,hb⟩; have HRa:=hid ((HRW.out.below (below_drawn _ 1)).below hb); clear hb))
          all_goals
            go_wp2_with fail
            go_roundw
            case rel=>exact ⟨k + 1,by omega,by go_num,HC2,HRa⟩
            case measure=>simp [intOf]; omega
      · obtain hke : k + 1 = D.length:=by omega
        have HFI:=hid (show Cp D D.length D by have:=HCP.out; rw [hke,List.take_length] at this; exact this)
        have hi2 : ¬ (k : Int) + 1 < (D.length : Int):=by omega
        go_wp2_with fail
        go_ret
        exact ⟨D,rfl,Nat.le_refl _,HFI.out.ri,fun t=>Iff.rfl,HRW.out⟩
end Ve
end Go.Proofs.YtlcffhadobhfkaaGreatDoor
