/-
  DnH DnI
-/
import Derived.Test.YtlcffhadobhfkaaGreatDoorMq3
import Derived.Test.YtlcffhadobhfkaaGreatDoorMq2
import Derived.Test.YtlcffhadobhfkaaGreatDoorMq5
import Derived.Test.YtlcffhadobhfkaaGreatDoorMq6
import Derived.Test.YtlcffhadobhfkaaGreatDoorMq9
import Derived.Test.YtlcffhadobhfkaaGreatDoorMq11
import Derived.Test.YtlcffhadobhfkaaGreatDoorMq18
import Derived.Test.YtlcffhadobhfkaaGreatDoorMq19
import Derived.Test.YtlcffhadobhfkaaGreatDoorMq20
import Derived.Test.YtlcffhadobhfkaaGreatDoorMq23
import Derived.Test.YtlcffhadobhfkaaGreatDoorMq16
import Derived.Test.YtlcffhadobhfkaaGreatDoorMq22
import Derived.Test.YtlcffhadobhfkaaGreatDoorMq45
import Derived.Test.YtlcffhadobhfkaaGreatDoorMq39
import Derived.Test.YtlcffhadobhfkaaGreatDoorMq43
import Derived.Test.YtlcffhadobhfkaaGreatDoorMq34
import Derived.Test.YtlcffhadobhfkaaGreatDoorMq48
import Derived.Test.YtlcffhadobhfkaaGreatDoorMq87
import Derived.Test.YtlcffhadobhfkaaGreatDoorMq88
import Derived.Test.YtlcffhadobhfkaaGreatDoorMq17
import Derived.Test.YtlcffhadobhfkaaGreatDoorMq36
import Derived.Test.YtlcffhadobhfkaaGreatDoorMq37
namespace Go.Proofs.YtlcffhadobhfkaaGreatDoor
open Go.RowKit Go.Shelf
namespace Ve
attribute [local go_sem] Oper.semAt_some
abbrev Px (n : Nat) : Type:={ i : Nat // i < n }
def encX {n : Nat} (x : Px n) : Array Value:=#[.int .i64 (x.1 : Int)]
def atX {n : Nat} (l : List (Px n)) : List Nat:=l.map fun x=>x.1
theorem atX_app {n : Nat} (l : List (Px n)) (x : Px n) : atX (l ++ [x]) = atX l ++ [x.1]:=by simp [atX]
theorem gr_of_below {A B : World} (h : Below A.heap.size A B) : A.grownBy B none:=⟨h.os,h.tape,h.output,h.size,fun b hb _=>h.block b hb⟩
set_option maxHeartbeats 1000000 in
theorem fid_any (a : Option Addr) (len cap : Nat) (p q : ByteArray) (w : World) :
    Calls Tryz.prog 94 #[.slice a len cap,.agg #[.string p,.string q]] w fun e w'=>e = .returned (.func (.func 139) #[] #[.pointer (some ⟨w.heap.size,0,none⟩),.pointer (some ⟨w.heap.size + 1,0,none⟩)]) /\ w' = (w.alloc (.cells #[.slice a len cap] 22)).alloc (.cells #[.string p,.string q] 25):=by
  go_enter Tryz.func94,Tryz.ntmps94
  go_wp2_with fail
  go_ret
  exact ⟨rfl,rfl⟩
set_option maxRecDepth 100000 in
set_option maxHeartbeats 4000000 in
theorem fid1_in (n : Nat) (hn : 2 ≤ n) (l B1 B2 n1 b o c : Nat) (Q : List Raw) (r : Bm) (kq : Nat) (hL : Q.length ≤ 1000000) (hkq : idxOf (isM r) Q = (kq : Int)) (E : Nat → Prop) (J Jx : List (Px Q.length) → World → Prop)
    (hJ : ∀ s A B,J s A -> Below A.heap.size A B -> J s B)
    (hY : ∀ pre x W,J pre W -> pre.length < Q.length -> YieldAt Fence.wide (n - 1) Tryz.prog l (encX x) W fun e W'=>
      (e = .returned (.bool true) /\ J (pre ++ [x]) W' /\ Kx n1 E W W') \/ (e = .returned (.bool false) /\ Jx (pre ++ [x]) W'))
    (W : World) (hn1 : n1 <= W.heap.size) (h1 : W.cell? ⟨B1,0,none⟩ = some (.slice (some ⟨b,o,none⟩) Q.length c)) (h2 : W.cell? ⟨B2,0,none⟩ = some (.string r.1)) (h3 : W.cell? ⟨B2,1,none⟩ = some (.string r.2)) (hes : EsAt W (.slice (some ⟨b,o,none⟩) Q.length c) Q)
    (b1 : B1 < n1) (e1 : ¬ E B1) (b2 : B2 < n1) (e2 : ¬ E B2) (b3 : b < n1) (e3 : ¬ E b) (h0 : J [] W) :
    CallsIn Fence.wide n Tryz.prog 139 #[.func (.yield l) #[] #[],.pointer (some ⟨B1,0,none⟩),.pointer (some ⟨B2,0,none⟩)] W fun e W'=>(∃ v,e = .returned v) /\
      ((∃ ys : List (Px Q.length),(∃ t,t <= kq + 1 /\ atX ys = dnL kq t /\ (t = kq + 1 \/ ∀ (h : kq - t < Q.length),Q[kq - t].1.1 ≠ r.1)) /\ J ys W') \/ (∃ pre : List (Px Q.length),(∃ t,t <= kq /\ atX pre = dnL kq (t + 1) /\ ∀ (h : kq - t < Q.length),Q[kq - t].1.1 = r.1) /\ Jx pre W')):=by
  have hn1' : 1 <= n:=by omega
  obtain ⟨hkl,-⟩:=idx_is hkq
  obtain ⟨p,q⟩:=r
  simp only at h2 h3
  have HF:=hid (find_any Q (p,q) _ W hL hes)
  rw [hkq] at HF
  have HP:=hid (fun k (h : k < Q.length)=>(es_all hes h).2.1)
  clear hes hkq
  refine callsIn_of_wp Tryz.func139 rfl trivial ?_ rfl
  simp only [Tryz.ntmps139,List.size_toArray,List.length_cons,List.length_nil,Nat.reduceAdd,Nat.reduceSub,Array.replicate_succ,Array.replicate_zero,List.push_toArray,List.append_toArray,List.nil_append,List.cons_append]
  gi_wp2_with (refine ⟨trivial,?_⟩; gi_at_call 83; refine (callsIn_wide.2 HF.out).mono ?_; rintro e W1 ⟨rfl,hb1⟩)
  have HJ1:=hid (hJ _ _ _ h0 hb1)
  have HK1:=hid (show Kx n1 E W W1 from Kx.below hb1 hn1)
  gi_loopw [4] (fun iv wr=>∃ (k t : Nat) (pre : List (Px Q.length)),k + t = kq + 1 /\ iv = ivD k /\ Hid (pre.length = t /\ atX pre = dnL kq t /\ J pre wr /\ Kx n1 E W wr))
    (fun iv _=>(intOf iv + 1).toNat)
  case atStart=>exact ⟨kq + 1,0,[],by omega,rfl,hid ⟨rfl,rfl,HJ1.out,HK1.out⟩⟩
  case round=>
    clear HJ1 HK1
    obtain ⟨k,t,pre,hkt,rfl,HJ⟩:=hrel
    cases k with
    | zero=>
      unfold ivD
      gi_wp2
      gi_quiet (fail)
      have HJq:=hid (hJ _ _ _ HJ.out.2.2.1 (below_drawn_of (Below.refl _ _) nq))
      gi_wp2
      go_end0
      exact ⟨⟨_,rfl⟩,.inl ⟨pre,⟨t,by omega,HJ.out.2.1,Or.inl (by omega)⟩,HJq.out⟩⟩
    | succ k=>
      have hkl2 : k < Q.length:=by omega
      have c1:=HJ.out.2.2.2.cell h1 b1 e1
      have c2:=HJ.out.2.2.2.cell h2 b2 e2
      have c3:=HJ.out.2.2.2.cell h3 b2 e2
      have c4:=HJ.out.2.2.2.cell (HP.out k hkl2) b3 e3
      have hkI : (k : Int) < (Q.length : Int):=by omega
      have hk0 : (0 : Int) <= (k : Int):=by omega
      have hw1 : wrap64 ((k : Int) - 1) = (k : Int) - 1:=IntWalk.wrap64_in _ (by omega)
      have HNX:=hid (ivD_next k)
      have hkt2 : kq - t = k:=by omega
      have HPT:=hid (show ∀ (h : kq - t < Q.length),Q[kq - t].1.1 = (Q[k]'hkl2).1.1 from fun h=>by congr 3)
      unfold ivD
      by_cases he : (Q[k]'hkl2).1.1 = p
      · have HE:=hid he
        rw [he] at c4
        have hs:=str_refl p
        gi_wp2
        gi_quiet (fail)
        have hJq:=hJ _ _ _ HJ.out.2.2.1 (below_drawn_of (Below.refl _ _) nq)
        obtain ⟨fn,tmps,assign,body,hy,hR⟩:=hY pre ⟨k,hkl2⟩ _ hJq (by have:=HJ.out.1; omega)
        unfold encX at hy
        have HKq:=hid (show Kx n1 E W (wr.drewN nq) from HJ.out.2.2.2.trans ⟨rfl,rfl,rfl,Nat.le_refl _,fun _ _ _=>rfl⟩)
        clear c1 c2 c3 c4 he
        gi_wp2
        refine hR.mono ?_
        rintro e W3 (⟨rfl,hJ3,hk3⟩ | ⟨rfl,hJx3⟩)
        · gi_wp2
          go_roundw
          case rel=>exact ⟨k,t + 1,pre ++ [⟨k,hkl2⟩],by omega,HNX.out,hid ⟨by have:=HJ.out.1; simp; omega,by rw [atX_app,HJ.out.2.1]; show dnL kq t ++ [k] = dnL kq t ++ [kq - t]; rw [hkt2],hJ3,HKq.out.trans hk3⟩⟩
          case measure=>first | (simp [intOf]; done) | (simp [intOf]; omega)
        · gi_wp2
          refine bodyPost_ret (results_none rfl _ _ _) rfl ?_
          exact ⟨⟨_,rfl⟩,.inr ⟨_,⟨t,by omega,by rw [atX_app,HJ.out.2.1]; show dnL kq t ++ [k] = dnL kq t ++ [kq - t]; rw [hkt2],fun h=>by rw [HPT.out h]; exact HE.out⟩,hJx3⟩⟩
      · have HE:=hid he
        have hs:=str_ne he
        generalize (Q[k]'hkl2).1.1 = y at *
        clear he
        gi_wp2
        gi_quiet (fail)
        have HJq:=hid (hJ _ _ _ HJ.out.2.2.1 (below_drawn_of (Below.refl _ _) nq))
        gi_wp2
        go_end0
        exact ⟨⟨_,rfl⟩,.inl ⟨pre,⟨t,by omega,HJ.out.2.1,Or.inr (fun h=>by rw [HPT.out h]; exact HE.out)⟩,HJq.out⟩⟩
set_option maxRecDepth 100000 in
set_option maxHeartbeats 4000000 in
theorem marked_any (Q : List Raw) (O : List Bool) (v : Value) (g c2 : Nat) (w : World) (hL : Q.length ≤ 1000) (hO : O.length = Q.length) (hv : EsAt w v Q) (hg : w.heap[g]? = some (.cells (bwc O) 4 (0, 0))) :
    Calls Tryz.prog 95 #[v,.slice (some ⟨g,0,none⟩) Q.length c2] w fun e w'=>∃ u,e = .returned u /\ w'.ownsRow w.heap.size 25 2 u (selO O (Q.map fun r=>r.1)).length (flatM (selO O (Q.map fun r=>r.1))) /\ Below w.heap.size w w':=by
  have HES:=hid (fun W (h : Below w.heap.size w W)=>hv.below h)
  have HHP:=hid hg
  have HOL:=hid hO
  have HUM:=hid (fun i (hi : i < Q.length) (hi' : i < (Q.map fun r=>r.1).length)=>show (Q.map fun r=>r.1)[i] = Q[i].1 by simp)
  have HUL:=hid (show (Q.map fun r=>r.1).length = Q.length by simp)
  obtain ⟨i0,hi0,hz0,hz1,hz2⟩:=info_parts infoMod
  obtain ⟨a,c,hv1,-⟩:=id hv
  subst hv1
  clear hv hg hO
  generalize (Q.map fun r=>r.1) = U at *
  go_enter Tryz.func95,Tryz.ntmps95
  go_wp2_with fail
  go_loopw [5,10] (fun ov iv wr=>∃ i : Nat,i <= Q.length /\ iv = .int .i64 i /\ Hid (wr.ownsRow w.heap.size 25 2 ov (selO (O.take i) (U.take i)).length (flatM (selO (O.take i) (U.take i)))) /\ Hid ((selO (O.take i) (U.take i)).length <= i) /\ Hid (Below w.heap.size w wr)) (fun _ iv _=>Q.length - (intOf iv).toNat)
  case atStart=>exact ⟨0,Nat.zero_le _,rfl,hid (by simp only [List.take_zero,selO]; exact World.ownsRow_nil _ _ _ _),hid (by simp [selO]),hid (Below.refl _ _)⟩
  case round=>
    obtain ⟨i,hi,rfl,HOW,HSL,HBr⟩:=hrel
    by_cases hlt : i < Q.length
    · have hiI : (i : Int) < (Q.length : Int):=by omega
      have hii : (0 : Int) <= (i : Int):=by omega
      have HLI:=hid hlt
      have hiU : i < U.length:=by rw [HUL.out]; exact hlt
      have hiO : i < O.length:=by rw [HOL.out]; exact hlt
      have m0:=cell_below HBr.out (bwc_at HHP.out hiO)
      have hes:=HES.out _ HBr.out
      obtain ⟨b,o,hab⟩ : ∃ b o,a = some ⟨b,o,none⟩:=by
        obtain ⟨a',c',e,_,_,h⟩:=hes
        injection e with q1 q2 q3
        obtain ⟨b,o,h4,_⟩:=h (fun h=>by rw [h] at hlt; simp at hlt)
        exact ⟨b,o,by rw [q1,h4]⟩
      subst hab
      obtain ⟨hsl,x0,x1,x2,x3,x4⟩:=es_all hes hlt
      have HST:=hid (selO_take O U i hiO hiU)
      rw [HUM.out i hlt hiU] at HST
      generalize hx : Q[i] = x at *
      obtain ⟨⟨p,q⟩,rv,pv,bk⟩:=x
      obtain ⟨⟨ra,rn,rc,hrv⟩,pa,pn,pc,hpv⟩:=hsl
      simp only at hrv hpv x0 x1 x2 x3 x4 HST
      subst hrv
      subst hpv
      have HBa:=hid ((Below.refl wr.heap.size wr).alloc (Nat.le_refl _) (.cells #[.string p,.string q,.slice ra rn rc,.slice pa pn pc,.bool bk] 45))
      have mz:=cell_below HBa.out m0
      have HBb:=hid (HBr.out.trans (HBa.out.mono HBr.out.size))
      have HNW:=hid (heap_new wr (.cells #[.string p,.string q,.slice ra rn rc,.slice pa pn pc,.bool bk] 45))
      clear hes hlt hx
      cases hoi : O[i]
      · rw [hoi] at mz HST
        have HST2:=hid (show selO (O.take (i + 1)) (U.take (i + 1)) = selO (O.take i) (U.take i) by rw [HST.out]; simp)
        have HOW2:=hid (owns_below HOW.out HBa.out)
        clear hoi m0
        go_wp2_with fail
        go_roundw
        case rel=>first | exact ⟨i + 1,HLI.out,nr_idx i,hid (by rw [HST2.out]; exact HOW2.out),hid (by rw [HST2.out]; have:=HSL.out; omega),HBb⟩ | exact ⟨i + 1,HLI.out,nx_idx HLI.out (by omega),hid (by rw [HST2.out]; exact HOW2.out),hid (by rw [HST2.out]; have:=HSL.out; omega),HBb⟩
        case measure=>first | exact nr_meas HLI.out | exact nx_meas HLI.out (by omega)
      · rw [hoi] at mz HST
        have HST2:=hid (show selO (O.take (i + 1)) (U.take (i + 1)) = selO (O.take i) (U.take i) ++ [(p,q)] by rw [HST.out]; simp)
        obtain ⟨SX,hSX⟩ : ∃ SX,selO (O.take i) (U.take i) = SX:=⟨_,rfl⟩
        rw [hSX] at HOW HST2 HSL
        have HOW2:=hid (owns_below HOW.out HBa.out)
        have hsx:=HSL.out
        have hwz:=HBb.out.size
        clear hoi hSX HST m0
        go_wp2_with (at_builtin; refine wpList_append_own _ rfl _ _ 23 rfl w.heap.size 25 i0 _ 2 32 Tryz.underlying23 hi0 hz0 hz1 hz2 rfl (by decide) _ _ _ rfl (HOW2.out.alloc _) ⟨wr.heap.size + 1,0,none⟩ 1 1 [.string p,.string q] rfl rfl ?c1 ?c2 ?c3 ?c4 ?c5 ?_)
        case c1=>
          intro t u ht
          match t,ht with
          | 0,ht=>simp at ht; subst ht; simp [Addr.add]
          | 1,ht=>simp at ht; subst ht; simp [Addr.add]
          | t + 2,ht=>simp at ht
        case c2=>intro u hu; simp at hu; rcases hu with rfl | rfl <;> rfl
        case c3=>unfold maxLen; omega
        case c4=>omega
        case c5=>first | omega | (simp; omega) | (simp at hwz ⊢; omega)
        intro v' w6 hown hgrow _
        have HR3:=hid (rel_app2 HBb.out.size HBb.out HOW2.out (Below.refl _ _) hgrow)
        have HO4:=hid (show w6.ownsRow w.heap.size 25 2 v' (SX ++ [(p,q)]).length (flatM (SX ++ [(p,q)])) by rw [List.length_append,flatM_app]; exact hown)
        clear hown hgrow
        go_wp2_with fail
        go_roundw
        case rel=>first | exact ⟨i + 1,HLI.out,nr_idx i,hid (by rw [HST2.out]; exact HO4.out),hid (by rw [HST2.out]; simp; omega),HR3⟩ | exact ⟨i + 1,HLI.out,nx_idx HLI.out (by omega),hid (by rw [HST2.out]; exact HO4.out),hid (by rw [HST2.out]; simp; omega),HR3⟩
        case measure=>first | exact nr_meas HLI.out | exact nx_meas HLI.out (by omega)
    · have hiI : ¬ (i : Int) < (Q.length : Int):=by omega
      have HOF:=hid (show wr.ownsRow w.heap.size 25 2 u5 (selO O U).length (flatM (selO O U)) by
        have h:=HOW.out
        rw [List.take_of_length_le (by rw [HOL.out]; omega),List.take_of_length_le (by rw [HUL.out]; omega)] at h
        exact h)
      clear hlt HOW HSL
      go_wp2_with fail
      go_ret
      exact ⟨_,rfl,HOF.out,HBr.out⟩
attribute [local go_sem] Oper.semAt_some
def dfr (D : Nat) : Deferred:={ target:=.collected D,args:=#[] }
theorem leaves_dfr {F : Fence} {n : Nat} {P : Program} {fn : Func} {tmps : Array Value} {R : Ending -> World -> Prop} (K : World -> Prop) (B : Nat) (hK : OwnFrom B (fun (_ : Unit) W=>K W)) (hE : ∀ W,K W -> LeavesInM F n P fn tmps R [] .returning W) :
    ∀ (ds : List Nat) (W : World),ds.Nodup -> (∀ D,D ∈ ds -> B <= D /\ W.heap[D]? = some (.deferred (some []))) -> K W -> LeavesInM F n P fn tmps R (ds.map dfr) .returning W
  | [],W,_,_,h=>hE W h
  | D :: ds,W,hn,hd,h=>by
    obtain ⟨h1,h2⟩:=hd D (by simp)
    obtain ⟨hn1,hn2⟩:=List.nodup_cons.1 hn
    refine ⟨by simp,.inl ⟨D,_,rfl,run_takeDeferred h2,?_⟩⟩
    refine leaves_dfr K B hK hE ds _ hn2 (fun D' hD'=>?_) (OwnFrom.putObj (s:=()) hK _ h h1 h2 rfl)
    obtain ⟨h3,h4⟩:=hd D' (by simp [hD'])
    exact ⟨h3,(World.putObj_heap_other (by intro e; subst e; exact hn1 hD')).trans h4⟩
def tF (Q : List Raw) (L : List Ent) (roots caps : List Bm) : Nat × Option Nat:=if (bF Q L caps).1 = 0 then chkG Q L roots else bF Q L caps
theorem tF_ok {Q : List Raw} {L : List Ent} {roots caps : List Bm} (h : (tF Q L roots caps).1 = 0) : (bF Q L caps).1 = 0 /\ (chkG Q L roots).1 = 0:=by
  unfold tF at h
  by_cases hc : (bF Q L caps).1 = 0
  · rw [if_pos hc] at h; exact ⟨hc,h⟩
  · rw [if_neg hc] at h; exact absurd h hc
noncomputable def toL (Q : List Raw) (L : List Ent) (roots caps : List Bm) : List Bm:=selO (kpN (univ L) (bdL Q L caps) roots) (univ L)
structure Ts (w5 W : World) (tb : Nat) (T : List Bool) (ds : List Nat) : Prop where
  kx : Kx w5.heap.size (fun b=>b = tb) w5 W
  mr : W.heap[tb]? = some (.cells (bwc T) 4 (0,0))
  nd : ds.Nodup
  df : ∀ D,D ∈ ds -> w5.heap.size <= D /\ W.heap[D]? = some (.deferred (some []))
structure Tr (W0 W : World) (tb : Nat) (T : List Bool) : Prop where
  kx : Kx W0.heap.size (fun b=>b = tb) W0 W
  mr : W.heap[tb]? = some (.cells (bwc T) 4 (0,0))
theorem Tr.own {W0 : World} {tb : Nat} {β : Type} (hm : tb < W0.heap.size) (C : β -> List Bool -> Prop) : OwnFrom W0.heap.size (fun (s : β) W=>∃ T,Tr W0 W tb T /\ C s T):=by
  rintro s W W' row ⟨T,h,hC⟩ hg hr
  have hn : W0.heap.size <= W.heap.size:=h.kx.size
  have k : Kx W0.heap.size (fun b=>b = tb) W W':=Kx.grown hg hn (fun r e=>(hr r e).1)
  have hb : ∀ b,b < W0.heap.size -> W'.heap[b]? = W.heap[b]?:=fun b hb=>hg.block b (Nat.lt_of_lt_of_le hb hn) (fun e=>by have:=(hr b e.symm).1; omega)
  exact ⟨T,⟨h.kx.trans k,(hb tb hm).trans h.mr⟩,hC⟩
theorem Ts.next {w5 wr W0 W : World} {tb D : Nat} {T T' : List Bool} {ds : List Nat} (h : Ts w5 wr tb T ds) (hb : Below wr.heap.size wr W0) (r : Tr W0 W tb T') (hD : W0.heap.size <= D) (hK : W.heap[D]? = some (.deferred (some []))) (ht : tb < w5.heap.size) : Ts w5 W tb T' (D :: ds):=by
  have hz : w5.heap.size <= W0.heap.size:=Nat.le_trans h.kx.size hb.size
  refine ⟨(h.kx.trans (Kx.below hb h.kx.size)).trans (r.kx.less hz (fun b _ e=>e)),r.mr,List.nodup_cons.2 ⟨fun hm=>?_,h.nd⟩,fun D' hD'=>?_⟩
  · have:=lt_of_blk (h.df D hm).2
    have:=hb.size
    omega
  · rcases List.mem_cons.1 hD' with rfl | hm
    · exact ⟨by omega,hK⟩
    · obtain ⟨h1,h2⟩:=h.df D' hm
      have hl:=lt_of_blk h2
      refine ⟨h1,?_⟩
      rw [r.kx.block D' (Nat.lt_of_lt_of_le hl hb.size) (by omega),hb.block D' hl]
      exact h2
theorem take_nextB {roots : List Bm} {k : Nat} (hk : k < roots.length) : roots.take (k + 1) = roots.take k ++ [roots[k]]:=List.take_succ_eq_append_getElem hk
set_option maxRecDepth 100000 in
set_option maxHeartbeats 8000000 in
theorem to_good (Q : List Raw) (L : List Ent) (roots caps : List Bm) (v rv cv : Value) (A : Nat → Addr) (m : Int) (w : World) (hn : L.length ≤ 1000) (hrn : roots.length ≤ 1000000) (hcn : caps.length ≤ 1000000) (sh : ∀ e, e ∈ L → ShE e) (hs : shortL caps) (S : Te w A m) (I : Ixs w v Q L) (hr : MsAt w rv roots) (hc : MsAt w cv caps) (h0 : (tF Q L roots caps).1 = 0) :
    Calls Tryz.prog 47 #[v,rv,cv] w fun e w'=>∃ u,e = .returned (.tuple #[u,.nilIface]) /\ w'.ownsRow w.heap.size 25 2 u (toL Q L roots caps).length (flatM (toL Q L roots caps)) /\ Below w.heap.size w w':=by
  obtain ⟨hb0,hg0⟩:=tF_ok h0
  obtain ⟨k0,k1⟩:=bF_chk hb0
  have hqn : Q.length <= 1000:=by rw [I.ln]; exact hn
  have HU:=hid (show Un (univ L) from ⟨univ_rises k0,univ_right k0⟩)
  have HRU:=hid (rgt_of I hg0).r
  have HIU:=hid (fun x (hx : x ∈ univ L)=>idx_univ I hx)
  have HUL:=hid (show (univ L).length = Q.length by rw [univ_len,I.ln])
  have HQU:=hid (univ_eq I)
  have HUM:=hid (fun i (hi : i < Q.length) (hi' : i < (univ L).length)=>show Q[i].1 = (univ L)[i] by
    have:=(I.ok i hi (by rw [<- I.ln]; exact hi)).m
    simp only [univ,List.getElem_map]
    exact this)
  have HBD:=hid (bad_good Q L caps v cv A m w hn hcn sh hs S I hc hb0)
  have HCM:=hid (fun W (h : Below w.heap.size w W)=>cmods_any Q roots v rv A m W (by omega) hrn (S.below h) (I.below h).es (hr.below h))
  have hcg : (codeE (nonE Q roots) roots.length,fstE (nonE Q roots) roots.length) = chkG Q L roots:=(chkG_ok k0).symm
  have HZ0:=hid (show codeE (nonE Q roots) roots.length = 0 by
    have h:=congrArg Prod.fst hcg
    exact h.trans hg0)
  have HES:=hid (fun W (h : Below w.heap.size w W)=>(I.below h).es)
  have HMS:=hid (fun W (h : Below w.heap.size w W)=>hr.below h)
  have HBL:=hid (show (bdL Q L caps).length = Q.length by rw [bdL_len,I.ln])
  have HTL:=hid (show toL Q L roots caps = selO (kpN (univ L) (bdL Q L caps) roots) (univ L) from rfl)
  obtain ⟨a,c,hv,-⟩:=id I.es
  subst hv
  obtain ⟨ra,rc,hrv,-⟩:=id hr
  subst hrv
  obtain ⟨ca,cn,cc,hcv⟩:=hc.slice
  subst hcv
  clear S I hr hc sh hs h0 k0 k1 hb0 hg0 hcg hn
  generalize toL Q L roots caps = TL at *
  generalize bdL Q L caps = BL at *
  refine (callsIn_wide (n:=8)).1 ?_
  refine callsIn_of_wp_marks Tryz.func47 rfl trivial ?_ rfl
  simp only [Tryz.ntmps47,List.size_toArray,List.length_cons,List.length_nil,Nat.reduceAdd,Nat.reduceSub,Array.replicate_succ,Array.replicate_zero,List.push_toArray,List.append_toArray,List.nil_append,List.cons_append]
  gi_wp2_with (refine ⟨trivial,?_⟩; gi_at_call 52; refine (callsIn_wide.2 HBD.out).mono ?_; rintro e w1 ⟨gB,rfl,hM1⟩; rw [HBL.out])
  have HA2:=hid ((Below.refl w1.heap.size w1).alloc (Nat.le_refl _) (.cells #[.slice (some ⟨gB,0,none⟩) Q.length Q.length] 68))
  have HN2:=hid (heap_new w1 (.cells #[.slice (some ⟨gB,0,none⟩) Q.length Q.length] 68))
  have HM2:=hid (hM1.below HA2.out)
  have hz12 : (w1.alloc (.cells #[.slice (some ⟨gB,0,none⟩) Q.length Q.length] 68)).heap.size = w1.heap.size + 1:=by simp
  generalize hw2 : w1.alloc (.cells #[.slice (some ⟨gB,0,none⟩) Q.length Q.length] 68) = w2 at *
  generalize hbB : w1.heap.size = bB at *
  refine ⟨trivial,?_⟩
  refine (callsIn_wide.2 (HCM.out w2 HM2.out.bl)).mono ?_
  rintro e w3 ⟨x3,rfl,he,hb3⟩
  rcases he.kind with ⟨-,rfl⟩ | ⟨h,-⟩
  rotate_left
  · exact absurd HZ0.out h
  have HM3:=hid (HM2.out.below hb3)
  have HN3:=hid ((hb3.block _ (lt_of_blk HN2.out)).trans HN2.out)
  have hmk:=fun W=>make_bools Q.length W (by omega)
  clear he hb3 HM2 HN2 HA2 hM1 HBD HCM hw2 hz12 hbB
  gi_wp2
  clear hmk
  obtain ⟨tb,htb⟩ : ∃ tb,w3.heap.size = tb:=⟨_,rfl⟩
  have hB5 : Below w3.heap.size w3 ((w3.alloc (.cells (bwc (List.replicate Q.length false)) 4)).alloc (.cells #[.slice (some ⟨w3.heap.size,0,none⟩) Q.length Q.length] 68)):=((Below.refl w3.heap.size w3).alloc (Nat.le_refl _) _).alloc (by simp) _
  have hT5:=heap_old (w3.alloc (.cells (bwc (List.replicate Q.length false)) 4)) (.cells #[.slice (some ⟨w3.heap.size,0,none⟩) Q.length Q.length] 68) (heap_new w3 (.cells (bwc (List.replicate Q.length false)) 4))
  have hX5:=heap_new (w3.alloc (.cells (bwc (List.replicate Q.length false)) 4)) (.cells #[.slice (some ⟨w3.heap.size,0,none⟩) Q.length Q.length] 68)
  have hz3 : (w3.alloc (.cells (bwc (List.replicate Q.length false)) 4)).heap.size = w3.heap.size + 1:=by simp
  have hz5 : ((w3.alloc (.cells (bwc (List.replicate Q.length false)) 4)).alloc (.cells #[.slice (some ⟨w3.heap.size,0,none⟩) Q.length Q.length] 68)).heap.size = w3.heap.size + 1 + 1:=by simp
  rw [hz3] at hX5
  generalize (w3.alloc (.cells (bwc (List.replicate Q.length false)) 4)).alloc (.cells #[.slice (some ⟨w3.heap.size,0,none⟩) Q.length Q.length] 68) = w5 at *
  have HM5:=hid (HM3.out.below hB5)
  have HN5:=hid ((hB5.block _ (lt_of_blk HN3.out)).trans HN3.out)
  have hgB:=lt_of_blk HM3.out.hp
  have hbB:=lt_of_blk HN3.out
  have hwB:=HM3.out.bl.size
  rw [htb] at hT5 hX5 hz5 hgB hbB hwB ⊢
  have HT5:=hid hT5
  have HX5:=hid hX5
  have HTS:=hid (show Ts w5 w5 tb (kpN (univ L) BL (roots.take 0)) [] from ⟨Kx.refl _ _ _,by rw [List.take_zero,kpN_zero,HUL.out]; exact HT5.out,List.nodup_nil,fun D hD=>by cases hD⟩)
  have HBW:=hid (fun W T ds (h : Ts w5 W tb T ds)=>show Below w.heap.size w W from ⟨h.kx.os.trans HM5.out.bl.os,h.kx.tape.trans HM5.out.bl.tape,h.kx.output.trans HM5.out.bl.output,Nat.le_trans HM5.out.bl.size h.kx.size,fun b hb=>(h.kx.block b (by omega) (by omega)).trans (HM5.out.bl.block b hb)⟩)
  clear hB5 hT5 hX5 hz3 htb HM3 HN3
  refine wpIn_loop (fun a' W=>∃ (k : Nat) (ds : List Nat) (u13 u35 u36 u37 u38 u39 u40 u41 u51 : Value),(k <= roots.length /\ u35 = .int .i64 (k : Int) /\ Ts w5 W tb (kpN (univ L) BL (roots.take k)) ds) /\ a' = { tmps:=#[.slice a Q.length c,.slice ra roots.length rc,.slice ca cn cc,undef,undef,undef,.slice none 0 0,.nilIface,.pointer (some ⟨bB,0,none⟩),.nilIface,.nilIface,.pointer (some ⟨tb + 1,0,none⟩),undef,u13,undef,.tuple #[.slice (some ⟨gB,0,none⟩) Q.length Q.length,.nilIface],.slice a Q.length c,.slice ca cn cc,.tuple #[.slice (some ⟨gB,0,none⟩) Q.length Q.length,.nilIface],.slice (some ⟨gB,0,none⟩) Q.length Q.length,.nilIface,.nilIface,.bool false,undef,.slice a Q.length c,.slice ra roots.length rc,.nilIface,.nilIface,.bool false,undef,.slice a Q.length c,.int .i64 (Q.length : Int),.slice (some ⟨tb,0,none⟩) Q.length Q.length,.slice ra roots.length rc,.int .i64 (roots.length : Int),u35,u36,u37,u38,u39,u40,u41,undef,undef,undef,undef,undef,undef,undef,undef,undef,u51,undef,undef,undef],defers:=ds.map dfr }) (fun a' _=>roots.length - (intOf (a'.tmps.getD 35 undef)).toNat) ?start ?round
  case start=>
    refine ⟨0,[],?_⟩
    repeat apply Exists.intro
    exact ⟨⟨Nat.zero_le _,rfl,HTS.out⟩,rfl⟩
  case round=>
    rintro a' W ⟨k,ds,u13,u35,u36,u37,u38,u39,u40,u41,u51,⟨hk,rfl,hT⟩,rfl⟩
    have hBw:=HBW.out W _ ds hT
    by_cases hlt : k < roots.length
    · have hkI : (k : Int) < (roots.length : Int):=by omega
      have hk0 : (0 : Int) <= (k : Int):=by omega
      obtain ⟨xb,xo,hxa,yy0,yy1⟩:=(HMS.out _ hBw).cells hlt
      subst hxa
      obtain ⟨r,hr,htk,y0,y1,hrU⟩ : ∃ r : Bm,roots[k] = r /\ roots.take (k + 1) = roots.take k ++ [r] /\ W.cell? ⟨xb,xo + k * 2,none⟩ = some (.string r.1) /\ W.cell? ⟨xb,xo + k * 2 + 1,none⟩ = some (.string r.2) /\ r ∈ univ L:=⟨_,rfl,take_nextB hlt,yy0,yy1,HRU.out _ (List.getElem_mem hlt)⟩
      obtain ⟨kq,hkU,e1,e2⟩:=HIU.out r hrU
      have hkq : kq < Q.length:=by rw [<- HUL.out]; exact hkU
      have hes:=HES.out _ hBw
      obtain ⟨b,o,hab⟩ : ∃ b o,a = some ⟨b,o,none⟩:=by
        obtain ⟨a',c',e,_,_,h⟩:=hes
        injection e with q1 q2 q3
        obtain ⟨b,o,h4,_⟩:=h (fun h=>by rw [h] at hkq; simp at hkq)
        exact ⟨b,o,by rw [q1,h4]⟩
      subst hab
      have hbw : b < w.heap.size:=lt_of_cell (es_all (HES.out w (Below.refl _ _)) hkq).2.1
      obtain ⟨p,q⟩:=r
      clear yy0 yy1 hes hr
      have HLT:=hid hlt
      have HKN:=hid (show bst (univ L) BL (p,q) (univ L).length < 0 -> kpN (univ L) BL (roots.take (k + 1)) = kpN (univ L) BL (roots.take k) from fun h=>by rw [htk]; exact kpN_none h)
      have HKS:=hid (show ∀ j : Nat,bst (univ L) BL (p,q) (univ L).length = (j : Int) -> kpN (univ L) BL (roots.take (k + 1)) = (kpN (univ L) BL (roots.take k)).set j true from fun j h=>by rw [htk]; exact kpN_some h)
      have HKL:=hid (show (kpN (univ L) BL (roots.take k)).length = Q.length by rw [kpN_len,HUL.out])
      have HTT:=hid hT
      have hlu : BL.length = (univ L).length:=by rw [HBL.out,HUL.out]
      have HBN:=hid (show ∀ t,t <= kq + 1 -> (∀ x,x ∈ dnL kq t -> ∀ (h : x < BL.length),BL[x] = true) -> (t = kq + 1 \/ ∀ (h : kq - t < (univ L).length),(univ L)[kq - t].1 ≠ p) -> bst (univ L) BL (p,q) (univ L).length < 0 from fun t ht hb he=>by
        have h:=bst_no HU.out hlu hkU ht hb (he.imp id (fun h h'=>by rw [e2]; exact h h'))
        rw [e2] at h; exact h)
      have HBY:=hid (show ∀ t,t <= kq -> (∀ x,x ∈ dnL kq t -> ∀ (h : x < BL.length),BL[x] = true) -> (∀ (h : kq - t < (univ L).length),(univ L)[kq - t].1 = p) -> (∀ (h : kq - t < BL.length),BL[kq - t] = false) -> bst (univ L) BL (p,q) (univ L).length = ((kq - t : Nat) : Int) from fun t ht hb hp ho=>by
        have h:=bst_yes HU.out hlu hkU ht hb (by rw [e2]; exact hp (by omega)) (ho (by omega))
        rw [e2] at h; exact h)
      have HPU:=hid (fun j (h : j < Q.length) (h' : j < (univ L).length)=>show Q[j].1.1 = (univ L)[j].1 from congrArg Prod.fst (HUM.out j h h'))
      clear hT hlt htk hlu e2
      generalize kpN (univ L) BL (roots.take k) = T at *
      have hA1:=(Below.refl W.heap.size W).alloc (Nat.le_refl _) (.cells #[.string p,.string q] 25)
      have HA1:=hid hA1
      clear hA1
      gi_wp2
      refine ⟨trivial,?_⟩
      refine (callsIn_wide.2 (fid_any (some ⟨b,o,none⟩) Q.length c p q _)).mono ?_
      rintro e W' ⟨rfl,rfl⟩
      have hz1 : (W.alloc (.cells #[.string p,.string q] 25)).heap.size = W.heap.size + 1:=by simp
      have hB0 : Below W.heap.size W (((W.alloc (.cells #[.string p,.string q] 25)).alloc (.cells #[.slice (some ⟨b,o,none⟩) Q.length c] 22)).alloc (.cells #[.string p,.string q] 25)):=(HA1.out.alloc HA1.out.size _).alloc (by simp; omega) _
      have s1:=heap_old ((W.alloc (.cells #[.string p,.string q] 25)).alloc (.cells #[.slice (some ⟨b,o,none⟩) Q.length c] 22)) (.cells #[.string p,.string q] 25) (heap_new (W.alloc (.cells #[.string p,.string q] 25)) (.cells #[.slice (some ⟨b,o,none⟩) Q.length c] 22))
      have s2:=heap_new ((W.alloc (.cells #[.string p,.string q] 25)).alloc (.cells #[.slice (some ⟨b,o,none⟩) Q.length c] 22)) (.cells #[.string p,.string q] 25)
      have hz2 : ((W.alloc (.cells #[.string p,.string q] 25)).alloc (.cells #[.slice (some ⟨b,o,none⟩) Q.length c] 22)).heap.size = W.heap.size + 1 + 1:=by simp
      have hz0 : (((W.alloc (.cells #[.string p,.string q] 25)).alloc (.cells #[.slice (some ⟨b,o,none⟩) Q.length c] 22)).alloc (.cells #[.string p,.string q] 25)).heap.size = W.heap.size + 1 + 1 + 1:=by simp
      rw [hz1] at s1
      rw [hz2] at s2
      rw [hz1]
      have HB0:=hid hB0
      have HS1:=hid s1
      have HS2:=hid s2
      have HZ:=hid hz0
      clear hB0 s1 s2 hz0 hz1 hz2 y0 y1 HA1
      generalize ((W.alloc (.cells #[.string p,.string q] 25)).alloc (.cells #[.slice (some ⟨b,o,none⟩) Q.length c] 22)).alloc (.cells #[.string p,.string q] 25) = W0 at *
      gi_wp2
      have hz0:=HZ.out
      have hw5:=HTT.out.kx.size
      have htbl : tb < W0.heap.size:=by omega
      have hes0:=HES.out W0 (hBw.trans (HB0.out.mono hBw.size))
      refine wpIn_rangeFunc_ownG rfl (by omega) (gf:=139) (lb:=#[.pointer (some ⟨W.heap.size + 1,0,none⟩),.pointer (some ⟨W.heap.size + 1 + 1,0,none⟩)]) rfl trivial (enters_of Tryz.func139 (by kernel_rfl) rfl)
        (encs:=encX (n:=Q.length)) (Kp:=Kx W0.heap.size (fun b=>b = tb)) (S:=fun ys=>∃ t,t <= kq + 1 /\ atX ys = dnL kq t /\ (t = kq + 1 \/ ∀ (h : kq - t < Q.length),Q[kq - t].1.1 ≠ p)) (Sp:=fun pre=>∃ t,t <= kq /\ atX pre = dnL kq (t + 1) /\ ∀ (h : kq - t < Q.length),Q[kq - t].1.1 = p) (N:=Q.length) (w0:=W0)
        (fun l J Jx W' hW hJ _ hY h0=>fid1_in _ (by omega) l (W.heap.size + 1) (W.heap.size + 1 + 1) W0.heap.size b o c Q (p,q) kq (by omega) e1 (fun b=>b = tb) J Jx (fun s A B hs hb=>hJ s A B none hs (gr_of_below hb) (fun r e=>by cases e)) hY W' hW.size (cell_below hW (by rw [Lib.cell_of_heap HS1.out]; rfl)) (cell_below hW (by rw [Lib.cell_of_heap HS2.out]; rfl)) (cell_below hW (by rw [Lib.cell_of_heap HS2.out]; rfl)) (hes0.below hW) (by omega) (by omega) (by omega) (by omega) (by omega) (by omega) h0)
        (fun h k=>h.trans k) (fun W l o o' hl _ _ _=>Kx.put W l o' hl) (Below.refl _ _) (fun _=>rfl)
        (fun pre W1=>∃ T',Tr W0 W1 tb T' /\ (T' = T /\ ∀ x,x ∈ atX pre -> ∀ (h : x < BL.length),BL[x] = true))
        (fun cd pre W1=>∃ T',Tr W0 W1 tb T' /\ (cd = .exit 2 /\ ∃ (qs : List (Px Q.length)) (x : Px Q.length),pre = qs ++ [x] /\ (∀ y,y ∈ atX qs -> ∀ (h : y < BL.length),BL[y] = true) /\ (∀ (h : x.1 < BL.length),BL[x.1] = false) /\ T' = T.set x.1 true))
        (Tr.own htbl _) (fun cd=>Tr.own htbl _)
        ⟨T,⟨Kx.refl _ _ _,(HB0.out.block _ (lt_of_blk HTT.out.mr)).trans HTT.out.mr⟩,rfl,fun x hx=>by cases hx⟩
        (fun x=>{ tmps:=#[.slice (some ⟨b,o,none⟩) Q.length c,.slice (some ⟨xb,xo,none⟩) roots.length rc,.slice ca cn cc,undef,undef,undef,.slice none 0 0,.nilIface,.pointer (some ⟨bB,0,none⟩),.nilIface,.nilIface,.pointer (some ⟨tb + 1,0,none⟩),undef,.pointer (some ⟨W.heap.size,0,none⟩),.int .i64 (x.1 : Int),.tuple #[.slice (some ⟨gB,0,none⟩) Q.length Q.length,.nilIface],.slice (some ⟨b,o,none⟩) Q.length c,.slice ca cn cc,.tuple #[.slice (some ⟨gB,0,none⟩) Q.length Q.length,.nilIface],.slice (some ⟨gB,0,none⟩) Q.length Q.length,.nilIface,.nilIface,.bool false,undef,.slice (some ⟨b,o,none⟩) Q.length c,.slice (some ⟨xb,xo,none⟩) roots.length rc,.nilIface,.nilIface,.bool false,undef,.slice (some ⟨b,o,none⟩) Q.length c,.int .i64 (Q.length : Int),.slice (some ⟨tb,0,none⟩) Q.length Q.length,.slice (some ⟨xb,xo,none⟩) roots.length rc,.int .i64 (roots.length : Int),.int .i64 (k : Int),.bool true,.pointer (some ⟨xb,xo + k * 2,none⟩),.agg #[.string p,.string q],.slice (some ⟨b,o,none⟩) Q.length c,.agg #[.string p,.string q],.func (.func 139) #[] #[.pointer (some ⟨W.heap.size + 1,0,none⟩),.pointer (some ⟨W.heap.size + 1 + 1,0,none⟩)],.int .i64 (x.1 : Int),undef,undef,undef,undef,undef,undef,undef,undef,u51,undef,undef,undef],defers:=[] }) ?assign ?body ?done ?stop
      case assign=>
        intro l x W1 K hK
        unfold encX
        gi_wp2
        exact hK
      case body=>
        rintro l pre x W1 ⟨T',hTr,rfl,hbd⟩ _
        obtain ⟨j,hj⟩:=x
        have hjB : j < BL.length:=by rw [HBL.out]; exact hj
        have hjT : j < T'.length:=by rw [HKL.out]; exact hj
        have hjI : (j : Int) < (Q.length : Int):=by omega
        have hj0 : (0 : Int) <= (j : Int):=by omega
        have k5 : Kx w5.heap.size (fun b=>b = tb) w5 W1:=(HTT.out.kx.trans (Kx.below HB0.out HTT.out.kx.size)).trans (hTr.kx.less (by omega) (fun _ _ e=>e))
        have c8:=k5.cell (a:=⟨bB,0,none⟩) (by rw [Lib.cell_of_heap HN5.out]; rfl) (by show bB < w5.heap.size; omega) (by show ¬ bB = tb; omega)
        have cB:=k5.cell (a:=⟨gB,j,none⟩) (bwc_at HM5.out.hp hjB) (by show gB < w5.heap.size; omega) (by show ¬ gB = tb; omega)
        have c11:=k5.cell (a:=⟨tb + 1,0,none⟩) (by rw [Lib.cell_of_heap HX5.out]; rfl) (by show tb + 1 < w5.heap.size; omega) (by show ¬ tb + 1 = tb; omega)
        have cT:=bwc_at hTr.mr hjT
        have cf:=fun o=>Lib.frozen_of_heap hTr.mr o
        have HTr:=hid hTr
        have HBD:=hid hbd
        cases hbj : BL[j] with
        | true=>
          rw [hbj] at cB
          have HBJ:=hid hbj
          clear hbj hTr hbd k5
          gi_wp2
          exact ⟨KeepsFrom.refl _ _,Kx.refl _ _ _,T',HTr.out,rfl,fun y hy h=>by
            rw [atX_app] at hy
            rcases List.mem_append.1 hy with h1 | h1
            · exact HBD.out y h1 h
            · have:=List.mem_singleton.1 h1
              subst this; exact HBJ.out⟩
        | false=>
          rw [hbj] at cB
          have HBJ:=hid hbj
          clear hbj hTr hbd k5
          gi_wp2
          exact ⟨(KeepsOthers.setCell _ _ _).from _,_,⟨HTr.out.kx.trans (Kx.set W1 _ rfl),by rw [set_block HTr.out.mr,bwc_put]⟩,rfl,pre,⟨j,hj⟩,rfl,HBD.out,fun _=>HBJ.out,rfl⟩
      case done=>
        rintro D ys W1 hD ⟨t,ht,hat,hend⟩ ⟨T',hTr,rfl,hbd⟩ hK
        have hkn:=HKN.out (HBN.out t ht (fun x hx h=>hbd x (by rw [hat]; exact hx) h) (hend.imp id (fun h h'=>by rw [<- HPU.out (kq - t) (by rw [<- HUL.out]; exact h') h']; exact h _)))
        have HNX:=hid (show Ts w5 W1 tb (kpN (univ L) BL (roots.take (k + 1))) (D :: ds) by rw [hkn]; exact HTT.out.next HB0.out hTr hD hK (by omega))
        clear hkn hTr hbd hend hat hK
        gi_wp2
        refine ⟨?_,?_⟩
        · refine ⟨k + 1,D :: ds,?_⟩
          repeat apply Exists.intro
          refine ⟨?rel,rfl⟩
          first | exact ⟨HLT.out,nr_idx k,HNX.out⟩ | exact ⟨HLT.out,nx_idx HLT.out hrn,HNX.out⟩
        · first | exact nr_meas HLT.out | exact nx_meas HLT.out hrn
      case stop=>
        rintro D cd pre W1 hD ⟨t,ht,hat,hpt⟩ ⟨T',hTr,rfl,qs,x,hpre,hq,hx,hT'⟩ hK
        subst hpre
        subst hT'
        rw [atX_app] at hat
        obtain ⟨ha1,ha2⟩:=List.append_inj' (show atX qs ++ [x.1] = dnL kq t ++ [kq - t] from hat) rfl
        have hx1 : x.1 = kq - t:=by simpa using ha2
        have hks:=HKS.out x.1 (by rw [hx1]; exact HBY.out t ht (fun y hy h=>hq y (by rw [ha1]; exact hy) h) (fun h=>by rw [<- HPU.out (kq - t) (by rw [<- HUL.out]; exact h) h]; exact hpt _) (fun h=>by have:=hx (by rw [hx1]; exact h); simp only [hx1] at this; exact this))
        have HNX:=hid (show Ts w5 W1 tb (kpN (univ L) BL (roots.take (k + 1))) (D :: ds) by rw [hks]; exact HTT.out.next HB0.out hTr hD hK (by omega))
        clear hks hTr hq hx hat ha1 ha2 hpt hK hx1
        gi_wp2
        refine ⟨?_,?_⟩
        · refine ⟨k + 1,D :: ds,?_⟩
          repeat apply Exists.intro
          refine ⟨?rel2,rfl⟩
          first | exact ⟨HLT.out,nr_idx k,HNX.out⟩ | exact ⟨HLT.out,nx_idx HLT.out hrn,HNX.out⟩
        · first | exact nr_meas HLT.out | exact nx_meas HLT.out hrn
    · have hke : k = roots.length:=by omega
      have hkI : ¬ (k : Int) < (roots.length : Int):=by omega
      rw [List.take_of_length_le (show roots.length <= k by omega)] at hT
      have HTT:=hid hT
      have c11:=hT.kx.cell (a:=⟨tb + 1,0,none⟩) (by rw [Lib.cell_of_heap HX5.out]; rfl) (by show tb + 1 < w5.heap.size; omega) (by show ¬ tb + 1 = tb; omega)
      have HMD:=hid (marked_any Q (kpN (univ L) BL roots) (.slice a Q.length c) tb Q.length W hqn (by rw [kpN_len,HUL.out]) (HES.out _ hBw) hT.mr)
      rw [HQU.out,<- HTL.out] at HMD
      have HBQ:=hid hBw
      clear hT hke hlt hBw
      gi_wp2
      refine ⟨trivial,?_⟩
      refine (callsIn_wide.2 HMD.out).mono ?_
      rintro e W7 ⟨u,rfl,ho,hb⟩
      have HO:=hid (own_base ho HBQ.out.size)
      have HB7:=hid (HBQ.out.trans (hb.mono HBQ.out.size))
      have HDF:=hid (fun D (hD : D ∈ ds)=>show w5.heap.size <= D /\ W7.heap[D]? = some (.deferred (some [])) from ⟨(HTT.out.df D hD).1,(hb.block _ (lt_of_blk (HTT.out.df D hD).2)).trans (HTT.out.df D hD).2⟩)
      obtain ⟨ua,un,uc,hu⟩:=own_sl ho
      subst hu
      clear ho hb
      gi_wp2
      refine leaves_dfr (fun W'=>W'.ownsRow w.heap.size 25 2 (.slice ua un uc) TL.length (flatM TL) /\ Below w.heap.size w W') w5.heap.size ?own ?fin ds W7 HTT.out.nd HDF.out ⟨HO.out,HB7.out⟩
      case own=>
        rintro _ X Y row ⟨h1,h2⟩ hg hrow
        refine ⟨h1.kept hg ?_,h2.grown hg h2.size (fun k e=>by have:=(hrow k e).1; omega)⟩
        rcases h1.2 with ⟨e,_⟩ | ⟨g,cap,cur,e,_,hgb,_⟩
        · exact .inl (by rw [e]; rfl)
        · refine .inr fun e'=>?_
          rw [e] at e'
          obtain ⟨_,o,ho,hc⟩:=hrow g (by simpa [Value.ownBlock] using e'.symm)
          rw [hgb] at ho; cases ho; cases hc
      case fin=>
        rintro W' ⟨h1,h2⟩
        exact ⟨.tuple #[.slice ua un uc,.nilIface],by simp [results,Tryz.results47,go_sem],_,rfl,h1,h2⟩
set_option maxRecDepth 100000 in
set_option maxHeartbeats 2000000 in
theorem to_bad (Q : List Raw) (L : List Ent) (roots caps : List Bm) (v rv cv : Value) (A : Nat -> Addr) (m : Int) (w : World) (hn : L.length <= 1000) (hrn : roots.length <= 1000000) (hcn : caps.length <= 1000000) (sh : ∀ e,e ∈ L -> ShE e) (hs : shortL caps) (S : Te w A m) (I : Ixs w v Q L) (hr : MsAt w rv roots) (hc : MsAt w cv caps) (h0 : ¬ (tF Q L roots caps).1 = 0) :
    Calls Tryz.prog 47 #[v,rv,cv] w fun e w'=>∃ T a,e = .returned (.tuple #[.slice none 0 0,.iface T (.pointer (some a))]) /\ ErrAt w' A (.iface T (.pointer (some a))) (tF Q L roots caps).1 (tF Q L roots caps).2 /\ Below w.heap.size w w':=by
  by_cases hb0 : (bF Q L caps).1 = 0
  · have hbf : tF Q L roots caps = chkG Q L roots:=if_pos hb0
    rw [hbf] at h0 ⊢
    obtain ⟨k0,-⟩:=bF_chk hb0
    have hcg : chkG Q L roots = (codeE (nonE Q roots) roots.length,fstE (nonE Q roots) roots.length):=chkG_ok k0
    rw [hcg] at h0 ⊢
    have HBD:=hid (bad_good Q L caps v cv A m w hn hcn sh hs S I hc hb0)
    have HCM:=hid (fun W (h : Below w.heap.size w W)=>cmods_any Q roots v rv A m W (by rw [I.ln]; omega) hrn (S.below h) (I.below h).es (hr.below h))
    obtain ⟨a,c,hv,-⟩:=id I.es
    subst hv
    obtain ⟨ra,rn,rc,hrv⟩:=hr.slice
    subst hrv
    obtain ⟨ca,cn,cc,hcv⟩:=hc.slice
    subst hcv
    have H0:=hid h0
    clear S I hr hc sh hs h0 hbf hcg k0 hb0
    generalize codeE (nonE Q roots) roots.length = R1 at *
    generalize fstE (nonE Q roots) roots.length = R2 at *
    generalize bdL Q L caps = BL at *
    go_enter Tryz.func47,Tryz.ntmps47
    go_wp2_with fail
    refine HBD.out.mono ?_
    rintro e w1 ⟨gB,rfl,hM1⟩
    have HA2:=hid (hM1.bl.trans (((Below.refl w1.heap.size w1).alloc (Nat.le_refl _) (.cells #[.slice (some ⟨gB,0,none⟩) BL.length BL.length] 68)).mono hM1.bl.size))
    clear hM1
    go_wp2_with fail
    refine (HCM.out _ HA2.out).mono ?_
    rintro e w3 ⟨x3,rfl,he,hb3⟩
    have HB3:=hid (HA2.out.trans (hb3.mono HA2.out.size))
    have HE:=hid he
    rcases he.kind with ⟨h,-⟩ | ⟨-,T,xa,rfl⟩
    · exact absurd h H0.out
    clear he hb3
    go_wp2_with fail
    go_ret2
    exact ⟨_,_,rfl,HE.out,HB3.out⟩
  · have hbf : tF Q L roots caps = bF Q L caps:=if_neg hb0
    rw [hbf]
    have HBD:=hid (bad_bad Q L caps v cv A m w hn hcn sh hs S I hc hb0)
    obtain ⟨a,c,hv,-⟩:=id I.es
    subst hv
    obtain ⟨ra,rn,rc,hrv⟩:=hr.slice
    subst hrv
    obtain ⟨ca,cn,cc,hcv⟩:=hc.slice
    subst hcv
    clear S I hr hc sh hs h0 hbf hb0
    generalize bF Q L caps = R at *
    go_enter Tryz.func47,Tryz.ntmps47
    go_wp2_with fail
    refine HBD.out.mono ?_
    rintro e w1 ⟨T,xa,rfl,he,hb⟩
    have HE:=hid he
    have HB1:=hid hb
    have HN1:=hid (heap_new w1 (.cells #[.slice none 0 0] 68))
    clear he hb HBD
    have HA1:=hid ((Below.refl w1.heap.size w1).alloc (Nat.le_refl _) (.cells #[.slice none 0 0] 68))
    go_wp2_with fail
    go_ret2
    exact ⟨_,_,rfl,HE.out.below HA1.out,HB1.out.trans (HA1.out.mono HB1.out.size)⟩
end Ve
end Go.Proofs.YtlcffhadobhfkaaGreatDoor
