/-
  FoA TmP TmA TmB TmQ TmR TmD
-/
import Derived.Test.YtlcffhadobhfkaaGreatDoorMq2
import Derived.Test.YtlcffhadobhfkaaGreatDoorMq20
import Derived.Test.YtlcffhadobhfkaaGreatDoorMq39
import Derived.Test.YtlcffhadobhfkaaGreatDoorMq37
import Derived.Test.YtlcffhadobhfkaaGreatDoorMq33
import Derived.Test.YtlcffhadobhfkaaGreatDoorMq34
import Derived.Test.YtlcffhadobhfkaaGreatDoorMq3
import Derived.Test.YtlcffhadobhfkaaGreatDoorMq5
import Derived.Test.YtlcffhadobhfkaaGreatDoorMq6
import Derived.Test.YtlcffhadobhfkaaGreatDoorMq9
import Derived.Test.YtlcffhadobhfkaaGreatDoorMq11
import Derived.Test.YtlcffhadobhfkaaGreatDoorMq18
import Derived.Test.YtlcffhadobhfkaaGreatDoorMq19
import Derived.Test.YtlcffhadobhfkaaGreatDoorMq23
import Derived.Test.YtlcffhadobhfkaaGreatDoorMq16
import Derived.Test.YtlcffhadobhfkaaGreatDoorMq22
import Derived.Test.YtlcffhadobhfkaaGreatDoorMq45
import Derived.Test.YtlcffhadobhfkaaGreatDoorMq36
namespace Go.Proofs.YtlcffhadobhfkaaGreatDoor
open Go.RowKit Go.Maps
namespace Ve
theorem eqM_ne {x m : Bm} (h : x ≠ m) : eqM x m = false:=by
  cases e : eqM x m with
  | false=>rfl
  | true=>exact absurd (eqM_iff.1 e) h
def trm (g : List Bm -> Bool) : Nat -> List Bm -> Nat -> List Bm
  | 0,l,_=>l
  | n + 1,l,i=>if i < l.length then (if g (l.eraseIdx i) then trm g n (l.eraseIdx i) i else trm g n l (i + 1)) else l
theorem trm_goes {g : List Bm -> Bool} {n : Nat} {l : List Bm} {i : Nat} (h : i < l.length) (h1 : g (l.eraseIdx i) = true) : trm g (n + 1) l i = trm g n (l.eraseIdx i) i:=by
  rw [trm,if_pos h,if_pos h1]
theorem trm_stays {g : List Bm -> Bool} {n : Nat} {l : List Bm} {i : Nat} (h : i < l.length) (h1 : g (l.eraseIdx i) = false) : trm g (n + 1) l i = trm g n l (i + 1):=by
  rw [trm,if_pos h,if_neg (by rw [h1]; simp)]
def trmA (g : List Bm -> Bool) (l : List Bm) : List Bm:=trm g l.length l 0
structure TrmOk (g : List Bm -> Bool) (sel X : List Bm) : Prop where
  sub : X.Sublist sel
  will : g X = true
  least : ∀ j,j < X.length -> g (X.eraseIdx j) = false
def kpL (P : Bm -> Bool) (D : List Bm) : List Bm:=D.filter fun m=>!P m
theorem kpL_take {P : Bm -> Bool} {D : List Bm} {k : Nat} (hk : k < D.length) : kpL P (D.take (k + 1)) = if P D[k] then kpL P (D.take k) else kpL P (D.take k) ++ [D[k]]:=by
  unfold kpL
  rw [List.take_succ_eq_append_getElem hk,List.filter_append]
  cases h : P D[k] <;> simp [h]
theorem kpL_first {P : Bm -> Bool} {D : List Bm} {k : Nat} (hk : k < D.length) (h1 : P D[k] = true) (h2 : ∀ j (hj : j < D.length),j < k -> P D[j] = false) : kpL P (D.take (k + 1)) = D.take k:=by
  rw [kpL_take hk,if_pos h1]
  unfold kpL
  rw [List.filter_eq_self]
  intro x hx
  obtain ⟨i,hi,him,rfl⟩:=mem_take_at hx
  rw [h2 i hi him]; rfl
theorem kpL_all {P : Bm -> Bool} {D : List Bm} (h : ∀ x,x ∈ D -> P x = false) : kpL P D = D:=by
  unfold kpL
  rw [List.filter_eq_self]
  intro x hx
  rw [h x hx]; rfl
theorem kpL_len (P : Bm -> Bool) (D : List Bm) : (kpL P D).length <= D.length:=List.length_filter_le _ _
set_option maxRecDepth 100000 in
set_option maxHeartbeats 8000000 in
theorem delP_mw (K : Nat) (cb : Array Value) (P : Bm → Bool) (w0 w : World) (g cap : Nat) (D : List Bm) (eg : ∀ args w, (callFunc K args).run Tryz.prog w = .ok (.enter K args) w) (h12 : D.length ≤ 1000000) (hc : D.length ≤ cap) (hR : Mw w0 w g D)
    (hK : ∀ (x : Bm) W,Below w0.heap.size w0 W -> Calls Tryz.prog K (#[.agg #[.string x.1,.string x.2]] ++ cb) W fun e w'=>e = .returned (.bool (P x)) /\ Below W.heap.size W w') :
    Calls Tryz.prog 122 #[.slice (some ⟨g,0,none⟩) D.length cap,.func (.func K) #[] cb] w fun e w'=>e = .returned (.slice (some ⟨g,0,none⟩) (kpL P D).length cap) /\ Mw w0 w' g (kpL P D):=by
  have HRK:=hid hK
  have HI:=hid (idxM_any K cb P D _ w eg h12 (hR.ms hc) (fun i hi W hW=>HRK.out D[i] W (hR.bl.trans (hW.mono hR.bl.size))))
  have HR:=hid hR
  clear hR hK
  rcases idxB_kind P D with ⟨e1,h2⟩ | ⟨k,hk,e1,h2,h3⟩
  · rw [e1] at HI
    rw [kpL_all h2]
    clear e1 h2
    go_enter Tryz.func122,Tryz.ntmps122
    go_wp2_with fail
    refine HI.out.mono ?_
    rintro e w1 ⟨rfl,hb⟩
    have HR1:=hid (HR.out.below hb)
    clear hb
    go_wp2_with fail
    go_ret
    exact ⟨rfl,HR1.out⟩
  · rw [e1] at HI
    have HF:=hid (kpL_first hk h2 h3)
    have hkn : ¬ (k : Int) = -1:=by omega
    have hk1 : (k : Int) < (D.length : Int):=by omega
    clear e1 h2 h3
    go_enter Tryz.func122,Tryz.ntmps122
    go_wp2_with fail
    refine HI.out.mono ?_
    rintro e w1 ⟨rfl,hb⟩
    have HR1:=hid (HR.out.below hb)
    clear hb
    go_wp2_with fail
    go_loopw [5,6] (fun a b wr=>∃ (j : Nat),a = .int .i64 ((kpL P (D.take j)).length : Int) /\ b = .int .i64 (j : Int) /\ j <= D.length /\ (kpL P (D.take j)).length < j /\ Hid (Mw w0 wr g (kpL P (D.take j) ++ D.drop (kpL P (D.take j)).length))) (fun _ b _=>D.length - (intOf b).toNat)
    case atStart=>
      have hl : (D.take k).length = k:=by simp; omega
      exact ⟨k + 1,by rw [HF.out,hl],by go_num,by omega,by rw [HF.out,hl]; omega,hid (by rw [HF.out,hl,List.take_append_drop]; exact HR1.out)⟩
    case round=>
      obtain ⟨j,rfl,rfl,hjD,hEj,HRV⟩:=hrel
      have HAT:=hid (show ∀ i,(kpL P (D.take j)).length <= i -> (kpL P (D.take j) ++ D.drop (kpL P (D.take j)).length)[i]? = D[i]? from fun i hi=>by rw [List.getElem?_append_right hi,List.getElem?_drop]; congr 1; omega)
      by_cases hj : j < D.length
      · have g1 : (j : Int) < (D.length : Int):=by omega
        have HT:=hid (kpL_take (P:=P) hj)
        obtain ⟨y0,y1⟩:=HRV.out.at (j:=j) (r:=D[j]) (by rw [HAT.out j (by omega)]; exact List.getElem?_eq_getElem hj)
        have HKX:=hid (fun W (hW : Below w0.heap.size w0 W)=>(show Calls Tryz.prog K (#[.agg #[.string D[j].1,.string D[j].2]] ++ cb) W fun e w'=>e = .returned (.bool (P D[j])) /\ Below W.heap.size W w' from HRK.out D[j] W hW))
        generalize D[j] = x at *
        generalize hE : kpL P (D.take j) = E at *
        obtain ⟨x1,x2⟩:=x
        have HBA:=hid ((Below.refl wr.heap.size wr).alloc (Nat.le_refl _) (.cells #[.string x1,.string x2] 25))
        have HRA:=hid (HRV.out.below HBA.out)
        have HP:=hid (HKX.out _ HRA.out.bl)
        cases hbad : P (x1,x2)
        · rw [hbad] at HP HT
          have HT2:=hid (show kpL P (D.take (j + 1)) = E ++ [(x1,x2)] from HT.out)
          clear hbad
          go_wp2_with fail
          refine HP.out.mono ?_
          rintro e w2 ⟨rfl,hb⟩
          have HR2:=hid (HRA.out.below hb)
          have d0 : w2.cell? ⟨wr.heap.size,0,none⟩ = some (.string x1):=cell_below hb (by simp)
          have d1 : w2.cell? ⟨wr.heap.size,1,none⟩ = some (.string x2):=cell_below hb (by simp)
          have hfz:=HR2.out.fz
          have e1 : (0 : Int) <= (E.length : Int):=by omega
          have e2 : (E.length : Int) < (D.length : Int):=by omega
          have hEl : E.length < (E ++ D.drop E.length).length:=by simp; omega
          obtain ⟨z0,z1⟩:=HR2.out.at (j:=E.length) (r:=(E ++ D.drop E.length)[E.length]) (List.getElem?_eq_getElem hEl)
          have HW4:=hid (show Mw w0 ((w2.setCell ⟨g,E.length * 2,none⟩ (.string x1)).setCell ⟨g,E.length * 2 + 1,none⟩ (.string x2)) g ((E ++ [((x1,x2) : Bm)]) ++ D.drop (E ++ [((x1,x2) : Bm)]).length) by
            have h:=HR2.out.setAt E.length hEl (x1,x2)
            have e : (E ++ D.drop E.length).set E.length (x1,x2) = (E ++ [((x1,x2) : Bm)]) ++ D.drop (E ++ [((x1,x2) : Bm)]).length:=by
              rw [List.set_append_right _ _ (Nat.le_refl _),Nat.sub_self,List.drop_eq_getElem_cons (show E.length < D.length by omega),List.set_cons_zero,List.length_append]
              simp
            rw [e] at h
            exact h)
          clear hb y0 y1
          go_wp2_with fail
          go_roundw
          case rel=>
            repeat apply Exists.intro
            refine ⟨?r,rfl⟩
            exact ⟨j + 1,by rw [HT2.out]; first | (simp; done) | (rw [List.length_append]; go_num),by go_num,by omega,by rw [HT2.out]; simp; omega,hid (by rw [HT2.out]; exact HW4.out)⟩
          case measure=>simp [intOf]; omega
        · rw [hbad] at HP HT
          have HT2:=hid (show kpL P (D.take (j + 1)) = E from HT.out)
          clear hbad
          go_wp2_with fail
          refine HP.out.mono ?_
          rintro e w2 ⟨rfl,hb⟩
          have HR2:=hid (HRA.out.below hb)
          clear hb y0 y1
          go_wp2_with fail
          go_roundw
          case rel=>
            repeat apply Exists.intro
            refine ⟨?r2,rfl⟩
            exact ⟨j + 1,by rw [HT2.out],by go_num,by omega,by rw [HT2.out]; omega,hid (by rw [HT2.out]; exact HR2.out)⟩
          case measure=>simp [intOf]; omega
      · obtain rfl : j = D.length:=by omega
        have g2 : ¬ (D.length : Int) < (D.length : Int):=by omega
        rw [List.take_length] at hEj HRV HAT ⊢
        generalize hE : kpL P D = E at *
        have hRl : (E ++ D.drop E.length).length = D.length:=by simp; omega
        obtain ⟨zs,hcl⟩:=run_clear_mw HRV.out E.length (by omega)
        rw [hRl] at hcl
        have HRE:=hid (show Mw w0 (wr.setCells g (E.length * 2) zs) g E by
          have:=HRV.out.cleared E.length (by omega) zs
          rw [List.take_left' rfl] at this
          exact this)
        have c1 : (E.length : Int) <= (D.length : Int):=by omega
        have c2 : (E.length : Int) < (cap : Int):=by omega
        have c3 : (E.length : Int) <= (cap : Int):=by omega
        have c4 : (0 : Int) <= (E.length : Int):=by omega
        have c5 : E.length < cap:=by omega
        have c6 : (D.length : Int) <= (cap : Int):=by omega
        go_wp2_with fail
        go_ret
        exact ⟨rfl,HRE.out⟩
set_option maxHeartbeats 1000000 in
theorem delP_nil (K : Nat) (cb : Array Value) (a : Option Addr) (c : Nat) (W : World) : Calls Tryz.prog 122 #[.slice a 0 c,.func (.func K) #[] cb] W fun e w'=>e = .returned (.slice a 0 c) /\ Below W.heap.size W w':=by
  have HI:=hid (idxM_none K cb a c W)
  go_enter Tryz.func122,Tryz.ntmps122
  go_wp2_with fail
  refine HI.out.mono ?_
  rintro e w1 ⟨rfl,hb⟩
  have HB:=hid hb
  clear hb
  go_wp2_with fail
  go_ret
  exact ⟨rfl,HB.out⟩
theorem delP_mr (K : Nat) (cb : Array Value) (P : Bm -> Bool) (w0 w : World) (v : Value) (D : List Bm) (eg : ∀ args w,(callFunc K args).run Tryz.prog w = .ok (.enter K args) w) (h12 : D.length <= 1000000) (hR : Mr w0 w v D)
    (hK : ∀ (x : Bm) W,Below w0.heap.size w0 W -> Calls Tryz.prog K (#[.agg #[.string x.1,.string x.2]] ++ cb) W fun e w'=>e = .returned (.bool (P x)) /\ Below W.heap.size W w') :
    Calls Tryz.prog 122 #[v,.func (.func K) #[] cb] w fun e w'=>∃ a c,e = .returned (.slice a (kpL P D).length c) /\ Mr w0 w' (.slice a (kpL P D).length c) (kpL P D):=by
  obtain ⟨hb,a,cap,rfl,hcap,hk⟩:=hR
  rcases hk with ⟨rfl,h0⟩ | ⟨g,rfl,hM⟩
  · refine (delP_nil K cb a cap w).mono ?_
    rintro e w1 ⟨rfl,h1⟩
    exact ⟨a,cap,rfl,hb.trans (h1.mono hb.size),a,cap,rfl,Nat.zero_le _,Or.inl ⟨rfl,h0⟩⟩
  · refine (delP_mw K cb P w0 w g cap D eg h12 hcap hM hK).mono ?_
    rintro e w1 ⟨rfl,h1⟩
    exact ⟨_,cap,rfl,h1.bl,_,cap,rfl,Nat.le_trans (kpL_len P D) hcap,Or.inr ⟨g,rfl,h1⟩⟩
set_option maxHeartbeats 1000000 in
theorem cloneM_some (b o c : Nat) (L : List Bm) (w : World) (hn : L.length <= 1000000) (hc : ∀ j u,(flatM L)[j]? = some u -> w.cell? ⟨b,o + j,none⟩ = some u) :
    Calls Tryz.prog 107 #[.slice (some ⟨b,o,none⟩) L.length c] w fun e w'=>∃ v,e = .returned v /\ w'.ownsRow w.heap.size 25 2 v L.length (flatM L) /\ Below w.heap.size w w':=by
  obtain ⟨i0,hi,hz0,hz1,hz2⟩:=info_parts infoMod
  have q22 : ∀ (w : World) (a : Option Addr) (n c n' c' : Nat),(binOp .eql 23 (.slice a n c) (.slice none n' c')).run Tryz.prog w = .ok (.bool a.isNone) w:=fun w a n c n' c'=>Lib.run_eql_slice_nil w _ _ a n c n' c' Tryz.underlying23
  have HC:=hid hc
  clear hc
  go_enter Tryz.func107,Tryz.ntmps107
  go_wp2_with (at_builtin; refine wpList_append_own _ rfl _ _ 23 rfl w.heap.size 25 i0 _ 2 32 Tryz.underlying23 hi hz0 hz1 hz2 rfl (by decide) _ _ _ rfl (World.ownsRow_made w #[] 0 (Nat.le_refl _) (Nat.zero_le _) (by simp)) ⟨b,o,none⟩ L.length c (flatM L) rfl ?qc1 ?qc2 ?qc3 ?qc4 ?qc5 ?qc6 ?_)
  case qc1=>exact flatM_len L
  case qc2=>
    intro j u hj
    rw [Addr.add_lit]
    exact Lib.cell?_alloc_some _ (HC.out j u hj)
  case qc3=>exact flat_one L
  case qc4=>rw [Nat.zero_add]; unfold maxLen; omega
  case qc5=>rw [Nat.zero_add]; omega
  case qc6=>simp
  intro v' w1 hown hgrow hnil
  obtain ⟨va,vn,vc,rfl⟩:=own_sl hown
  have HO:=hid hown
  have HG:=hid hgrow
  clear hown hgrow hnil
  go_wp2_with fail
  go_ret
  refine ⟨_,rfl,by simpa using HO.out,?_⟩
  exact ((Below.refl _ w).alloc (Nat.le_refl _) _).grown HG.out (by simp) (by intro k hk; simp [Value.ownBlock] at hk; omega)
theorem cloneM_nil (w : World) : Calls Tryz.prog 107 #[.slice none 0 0] w fun e w'=>e = .returned (.slice none 0 0) /\ w' = w:=by
  have q22 : ∀ (w : World) (a : Option Addr) (n c n' c' : Nat),(binOp .eql 23 (.slice a n c) (.slice none n' c')).run Tryz.prog w = .ok (.bool a.isNone) w:=fun w a n c n' c'=>Lib.run_eql_slice_nil w _ _ a n c n' c' Tryz.underlying23
  go_enter Tryz.func107,Tryz.ntmps107
  go_wp2_with fail
  go_ret
  exact ⟨rfl,rfl⟩
set_option maxHeartbeats 1000000 in
theorem cloneM_none (a : Addr) (c : Nat) (w : World) : Calls Tryz.prog 107 #[.slice (some a) 0 c] w fun e w'=>∃ b d,e = .returned (.slice (some b) 0 d) /\ Below w.heap.size w w':=by
  have q22 : ∀ (w : World) (a : Option Addr) (n c n' c' : Nat),(binOp .eql 23 (.slice a n c) (.slice none n' c')).run Tryz.prog w = .ok (.bool a.isNone) w:=fun w a n c n' c'=>Lib.run_eql_slice_nil w _ _ a n c n' c' Tryz.underlying23
  have hrun : ∀ ty b d W,(Builtin.append_ #[23,23] ty #[.slice (some b) 0 d,.slice (some a) 0 c]).run Tryz.prog W = .ok (.slice (some b) 0 d) W:=fun ty b d W=>by
    obtain ⟨i0,hi,hz0,hz1,hz2⟩:=info_parts infoMod
    have hl : (loadCells a 0).run Tryz.prog W = .ok #[] W:=by simpa using run_loadCells_list (P:=Tryz.prog) W a [] (by simp)
    simp [Builtin.append_,run_underlying Tryz.underlying23,Builtin.lenOf,Builtin.firstCells,Go.sizeOf,typeInfo,hi,hl,storeCells]
  have HB0:=hid ((Below.refl w.heap.size w).alloc (Nat.le_refl _) (.cells #[] 25))
  go_enter Tryz.func107,Tryz.ntmps107
  go_wp2_with (at_builtin; refine Lib.wpList_append_run _ rfl _ _ _ _ rfl _ _ rfl rfl _ _ (hrun _ _ _ _) ?_)
  go_ret
  exact ⟨_,_,rfl,HB0.out⟩
theorem cloneM_any (v : Value) (L : List Bm) (w : World) (hn : L.length <= 1000000) (hv : MsAt w v L) (hem : Em v L) :
    Calls Tryz.prog 107 #[v] w fun e w'=>∃ a c,e = .returned (.slice a L.length c) /\ Mr w w' (.slice a L.length c) L:=by
  obtain ⟨a,c,rfl,_,h⟩:=hv
  have hz : L = [] -> _:=hem a c rfl
  cases L with
  | nil=>
    rcases hz rfl with hz | ⟨a',hz⟩
    · show Calls Tryz.prog 107 #[.slice a 0 c] w _
      rw [hz]
      refine (cloneM_nil w).mono ?_
      rintro e w' ⟨rfl,rfl⟩
      exact ⟨_,_,rfl,Below.refl _ _,_,_,rfl,Nat.le_refl _,Or.inl ⟨rfl,fun _=>rfl⟩⟩
    · show Calls Tryz.prog 107 #[.slice a 0 c] w _
      rw [hz]
      refine (cloneM_none a' c w).mono ?_
      rintro e w' ⟨b,d,rfl,hb⟩
      exact ⟨_,_,rfl,hb,_,_,rfl,Nat.zero_le _,Or.inl ⟨rfl,fun h=>by cases h⟩⟩
  | cons x r=>
    obtain ⟨b,o,rfl,h2⟩:=h (by simp)
    refine (cloneM_some b o c (x :: r) w hn (ms_flat h2)).mono ?_
    rintro e w' ⟨u,rfl,ho,hb⟩
    have hm:=mr_own ho hb
    obtain ⟨a,c,hu⟩:=hm.sl
    subst hu
    exact ⟨a,c,rfl,hm⟩
set_option maxHeartbeats 2000000 in
theorem eqQ_len (a a' : Option Addr) (n n' c c' : Nat) (w : World) (h : n ≠ n') : Calls Tryz.prog 89 #[.slice a n c,.slice a' n' c'] w fun e w'=>e = .returned (.bool false) /\ Below w.heap.size w w':=by
  have h1 : ¬ (n : Int) = (n' : Int):=by omega
  have h2 : ((n : Int) == (n' : Int)) = false:=by simp; omega
  go_enter Tryz.func89,Tryz.ntmps89
  go_wp2_with fail
  go_ret
  exact ⟨rfl,Below.refl _ _⟩
theorem eqQ_none (a a' : Option Addr) (c c' : Nat) (w : World) : Calls Tryz.prog 89 #[.slice a 0 c,.slice a' 0 c'] w fun e w'=>e = .returned (.bool true) /\ Below w.heap.size w w':=by
  go_enter Tryz.func89,Tryz.ntmps89
  go_wp2_with fail
  go_loopw [13] (fun i wr=>i = .int .i64 0 /\ wr = w) (fun i _=>0)
  case atStart=>exact ⟨rfl,rfl⟩
  case round=>
    obtain ⟨rfl,rfl⟩:=hrel
    go_wp2_with fail
    go_ret
    exact ⟨rfl,Below.refl _ _⟩
set_option maxHeartbeats 2000000 in
theorem eqQ_some (L M : List Bm) (b o c b' o' c' : Nat) (w : World) (hn : L.length ≤ 1000000) (hl : M.length = L.length)
    (hc : ∀ j (h : j < L.length),w.cell? ⟨b,o + j * 2,none⟩ = some (.string L[j].1) /\ w.cell? ⟨b,o + j * 2 + 1,none⟩ = some (.string L[j].2))
    (hd : ∀ j (h : j < M.length),w.cell? ⟨b',o' + j * 2,none⟩ = some (.string M[j].1) /\ w.cell? ⟨b',o' + j * 2 + 1,none⟩ = some (.string M[j].2)) :
    Calls Tryz.prog 89 #[.slice (some ⟨b,o,none⟩) L.length c,.slice (some ⟨b',o',none⟩) L.length c'] w fun e w'=>e = .returned (.bool (decide (L = M))) /\ Below w.heap.size w w':=by
  have HC:=hid hc
  have HD:=hid hd
  have hgd:=modGuard
  have HX:=hid (show (∀ j (h : j < L.length) (h' : j < M.length),L[j] = M[j]) -> decide (L = M) = true from fun h=>decide_eq_true (List.ext_getElem hl.symm (fun j h1 h2=>h j h1 h2)))
  have HY:=hid (show ∀ j (h : j < L.length) (h' : j < M.length),L[j] ≠ M[j] -> decide (L = M) = false from fun j h h' hne=>decide_eq_false (fun e=>hne (by subst e; rfl)))
  generalize decide (L = M) = z at *
  clear hc hd
  go_enter Tryz.func89,Tryz.ntmps89
  go_wp2_with fail
  go_loopw [13] (fun i wr=>∃ k : Nat,k <= L.length /\ i = .int .i64 k /\ Hid (∀ j (h : j < L.length) (h' : j < M.length),j < k -> L[j] = M[j]) /\ Hid (Below w.heap.size w wr)) (fun i _=>L.length - (intOf i).toNat)
  case atStart=>exact ⟨0,Nat.zero_le _,rfl,hid (fun j _ _ hj=>absurd hj (Nat.not_lt_zero _)),hid (Below.refl _ _)⟩
  case round=>
    obtain ⟨k,hk,rfl,HE,HB⟩:=hrel
    by_cases hlt : k < L.length
    · have hlm : k < M.length:=by omega
      have hx:=cell_below HB.out (HC.out k hlt).1
      have hy:=cell_below HB.out (HC.out k hlt).2
      have hx':=cell_below HB.out (HD.out k hlm).1
      have hy':=cell_below HB.out (HD.out k hlm).2
      have hne:=fun W=>modNeq L[k].1 L[k].2 M[k].1 M[k].2 W
      have hkI : (k : Int) < (L.length : Int):=by omega
      have HLT:=hid hlt
      have HN:=hid (show L[k] = M[k] -> ∀ j (h : j < L.length) (h' : j < M.length),j < k + 1 -> L[j] = M[j] from fun h0 j h1 h2 h3=>by
        rcases Nat.lt_or_ge j k with h | h
        · exact HE.out j h1 h2 h
        · have : j = k:=by omega
          subst this; exact h0)
      have HYK:=hid (HY.out k hlt hlm)
      generalize L[k] = x at *
      generalize M[k] = y at *
      obtain ⟨x1,x2⟩:=x
      obtain ⟨y1,y2⟩:=y
      simp only at hx hy hx' hy' hne
      clear hlt hlm
      by_cases he : x1 = y1 /\ x2 = y2
      · rw [decide_eq_true he] at hne
        have HN2:=hid (HN.out (Prod.ext he.1 he.2))
        clear he HN
        go_wp2_with fail
        go_quiet (fail)
        go_wp2_with fail
        go_roundw
        case rel=>first | exact ⟨k + 1,HLT.out,nr_idx k,HN2,hid (below_drawn_of HB.out _)⟩ | exact ⟨k + 1,HLT.out,nx_idx HLT.out hn,HN2,hid (below_drawn_of HB.out _)⟩
        case measure=>first | exact nr_meas HLT.out | exact nx_meas HLT.out hn
      · rw [decide_eq_false he] at hne
        have HZ:=hid (HYK.out (fun e=>he (by injection e with e1 e2; exact ⟨e1,e2⟩)))
        clear he HN
        go_wp2_with fail
        go_quiet (fail)
        go_wp2_with fail
        go_ret
        exact ⟨by rw [HZ.out]; rfl,below_drawn_of HB.out _⟩
    · have hkI : ¬ (k : Int) < (L.length : Int):=by omega
      have HZ:=hid (HX.out (fun j h h'=>HE.out j h h' (by omega)))
      go_wp2_with fail
      go_ret
      exact ⟨by rw [HZ.out]; rfl,HB.out⟩
theorem eqQ_any (L M : List Bm) (v u : Value) (w : World) (hn : L.length <= 1000000) (hv : MsAt w v L) (hu : MsAt w u M) : Calls Tryz.prog 89 #[v,u] w fun e w'=>e = .returned (.bool (decide (L = M))) /\ Below w.heap.size w w':=by
  obtain ⟨a,c,rfl,_,h⟩:=hv
  obtain ⟨a',c',rfl,_,h'⟩:=hu
  by_cases hl : M.length = L.length
  · cases L with
    | nil=>
      have : M = []:=List.length_eq_zero_iff.1 hl
      subst this
      exact eqQ_none a a' c c' w
    | cons x r=>
      obtain ⟨b,o,rfl,h2⟩:=h (by simp)
      obtain ⟨b',o',rfl,h3⟩:=h' (fun e=>by rw [e] at hl; simp at hl)
      rw [hl]
      exact eqQ_some (x :: r) M b o c b' o' c' w hn hl h2 h3
  · rw [decide_eq_false (fun e=>hl (by rw [e]))]
    exact eqQ_len a a' _ _ c c' w (fun e=>hl e.symm)
end Ve
end Go.Proofs.YtlcffhadobhfkaaGreatDoor
namespace Go.Proofs.YtlcffhadobhfkaaGreatDoor
open Go.RowKit Go.Maps
namespace Ve
open Classical in
noncomputable def gB (Q : List Raw) (L : List Ent) (sel : List Bm) (R : List Bm) : Bool:=decide (bX Q L R = sel)
theorem gB_iff {Q : List Raw} {L : List Ent} {sel R : List Bm} : gB Q L sel R = true ↔ bX Q L R = sel:=by unfold gB; simp
theorem gB_not {Q : List Raw} {L : List Ent} {sel R : List Bm} : gB Q L sel R = false ↔ ¬ bX Q L R = sel:=by unfold gB; simp
noncomputable def trX (Q : List Raw) (L : List Ent) (sel : List Bm) : List Bm:=trmA (gB Q L sel) sel
def woM (l : List Bm) (m : Bm) : List Bm:=l.filter fun x=>!eqM x m
theorem woM_sub (l : List Bm) (m : Bm) : (woM l m).Sublist l:=List.filter_sublist
theorem woM_none {l : List Bm} {m : Bm} (h : ∀ x,x ∈ l -> x ≠ m) : woM l m = l:=by
  unfold woM
  rw [List.filter_eq_self]
  intro x hx
  rw [eqM_ne (h x hx)]; rfl
theorem woM_mid {K r : List Bm} {m : Bm} (h : (K ++ m :: r).Nodup) : woM (K ++ m :: r) m = K ++ r:=by
  obtain ⟨h1,h2,h3⟩:=List.nodup_append.1 h
  have h4 : m ∉ r:=(List.nodup_cons.1 h2).1
  have e1 : woM K m = K:=woM_none fun x hx=>h3 x hx m (List.mem_cons_self ..)
  have e2 : woM r m = r:=woM_none fun x hx e=>h4 (e ▸ hx)
  have e3 : woM (K ++ m :: r) m = woM K m ++ woM (m :: r) m:=by unfold woM; rw [List.filter_append]
  have e4 : woM (m :: r) m = woM r m:=by unfold woM; rw [List.filter_cons_of_neg]; rw [eqM_iff.2 rfl]; simp
  rw [e3,e4,e1,e2]
theorem erase_mid (K r : List Bm) (m : Bm) : (K ++ m :: r).eraseIdx K.length = K ++ r:=by
  rw [List.eraseIdx_append_of_length_le (Nat.le_refl _),Nat.sub_self]; rfl
def lfN (g : List Bm → Bool) (sel : List Bm) : Nat → List Bm
  | 0=>sel
  | k + 1=>match sel[k]? with
    | some m=>if g (woM (lfN g sel k) m) then woM (lfN g sel k) m else lfN g sel k
    | none=>lfN g sel k
theorem lfN_goes {g : List Bm -> Bool} {sel : List Bm} {k : Nat} (hk : k < sel.length) (h : g (woM (lfN g sel k) sel[k]) = true) : lfN g sel (k + 1) = woM (lfN g sel k) sel[k]:=by
  show (match sel[k]? with | some m=>_ | none=>_) = _
  rw [List.getElem?_eq_getElem hk]
  exact if_pos h
theorem lfN_stays {g : List Bm -> Bool} {sel : List Bm} {k : Nat} (hk : k < sel.length) (h : g (woM (lfN g sel k) sel[k]) = false) : lfN g sel (k + 1) = lfN g sel k:=by
  show (match sel[k]? with | some m=>_ | none=>_) = _
  rw [List.getElem?_eq_getElem hk]
  exact if_neg (by rw [h]; simp)
theorem lfN_sub (g : List Bm → Bool) (sel : List Bm) : ∀ k, (lfN g sel k).Sublist sel
  | 0=>List.Sublist.refl _
  | k + 1 => by
    have ih:=lfN_sub g sel k
    by_cases hk : k < sel.length
    · cases h : g (woM (lfN g sel k) sel[k]) with
      | true=>rw [lfN_goes hk h]; exact (woM_sub _ _).trans ih
      | false=>rw [lfN_stays hk h]; exact ih
    · have e : lfN g sel (k + 1) = lfN g sel k:=by
        show (match sel[k]? with | some m=>_ | none=>_) = _
        rw [List.getElem?_eq_none (by omega)]
      rw [e]; exact ih
theorem lfN_trm {g : List Bm -> Bool} {sel : List Bm} (hnd : sel.Nodup) : ∀ k,k <= sel.length -> ∃ K,lfN g sel k = K ++ sel.drop k /\ trm g (sel.length - k) (lfN g sel k) K.length = trmA g sel
  | 0,_=>⟨[],rfl,rfl⟩
  | k + 1, hk1 => by
    have hk : k < sel.length:=by omega
    obtain ⟨K,h1,h2⟩:=lfN_trm hnd k (by omega)
    rw [List.drop_eq_getElem_cons hk] at h1
    have hn : (K ++ sel[k] :: sel.drop (k + 1)).Nodup:=by rw [<- h1]; exact (lfN_sub g sel k).nodup hnd
    have hw : woM (lfN g sel k) sel[k] = K ++ sel.drop (k + 1):=by rw [h1]; exact woM_mid hn
    have he : (lfN g sel k).eraseIdx K.length = K ++ sel.drop (k + 1):=by rw [h1]; exact erase_mid _ _ _
    have hl : K.length < (lfN g sel k).length:=by rw [h1]; simp; omega
    rw [show sel.length - k = sel.length - (k + 1) + 1 by omega] at h2
    cases h : g (woM (lfN g sel k) sel[k]) with
    | true=>
      rw [trm_goes hl (by rw [he,<- hw]; exact h),he] at h2
      exact ⟨K,by rw [lfN_goes hk h,hw],by rw [lfN_goes hk h,hw]; exact h2⟩
    | false=>
      rw [trm_stays hl (by rw [he,<- hw]; exact h)] at h2
      refine ⟨K ++ [sel[k]],by rw [lfN_stays hk h,h1]; simp,?_⟩
      rw [lfN_stays hk h,List.length_append]
      exact h2
theorem lfN_all {g : List Bm -> Bool} {sel : List Bm} (hnd : sel.Nodup) : lfN g sel sel.length = trmA g sel:=by
  obtain ⟨K,_,h2⟩:=lfN_trm (g:=g) hnd sel.length (Nat.le_refl _)
  rw [Nat.sub_self] at h2
  exact h2
theorem rising_nodup {R : List Bm} (h : rising R) : R.Nodup:=List.Pairwise.imp (fun {a b} h e=>by rw [e,lt_irrefl] at h; cases h) h
def smF (Q : List Raw) (L : List Ent) (a b : List Bm) : Nat × Option Nat:=if (chkG Q L a).1 = 0 then rF Q L b else chkG Q L a
open Classical in
noncomputable def smB (Q : List Raw) (L : List Ent) (a b : List Bm) : Bool:=if (smF Q L a b).1 = 0 then decide (bX Q L b = bX Q L a) else false
theorem smF_a {Q : List Raw} {L : List Ent} {a b : List Bm} (h : ¬ (chkG Q L a).1 = 0) : smF Q L a b = chkG Q L a:=if_neg h
theorem smF_b {Q : List Raw} {L : List Ent} {a b : List Bm} (h : (chkG Q L a).1 = 0) : smF Q L a b = rF Q L b:=if_pos h
theorem smB_a {Q : List Raw} {L : List Ent} {a b : List Bm} (h : ¬ (chkG Q L a).1 = 0) : smB Q L a b = false:=by unfold smB; rw [smF_a h,if_neg h]
theorem smB_b {Q : List Raw} {L : List Ent} {a b : List Bm} (h : (chkG Q L a).1 = 0) (h2 : ¬ (chkG Q L b).1 = 0) : smB Q L a b = false:=by unfold smB; rw [smF_b h,rF_bad h2,if_neg h2]
theorem smB_good {Q : List Raw} {L : List Ent} {a b : List Bm} (h : (chkG Q L a).1 = 0) (h2 : (chkG Q L b).1 = 0) : smB Q L a b = true ↔ bX Q L b = bX Q L a:=by unfold smB; rw [smF_b h,rF_good h2,if_pos rfl,decide_eq_true_iff]
structure Rr (w W : World) (g : Nat) (T : TypeId) (v : Value) (X : List Bm) : Prop where
  bl : Below w.heap.size w W
  ms : MsAt W v X
  bx : W.heap[g]? = some (.cells #[.int .i64 0,.int .i64 0] T (0,0))
theorem Rr.below {w W W' : World} {g : Nat} {T : TypeId} {v : Value} {X : List Bm} (h : Rr w W g T v X) (hb : Below W.heap.size W W') : Rr w W' g T v X:=
  ⟨h.bl.trans (hb.mono h.bl.size),h.ms.below hb,(hb.block _ (lt_of_blk h.bx)).trans h.bx⟩
end Ve
end Go.Proofs.YtlcffhadobhfkaaGreatDoor
