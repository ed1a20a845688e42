
import Derived.Test.YtjbmjnbkibmkpaaGreatDoorGt17
import Derived.Sort.QuietIn
import Derived.Test.YtjbmjnbkibmkpaaGreatDoorGt9
import Derived.Test.YtjbmjnbkibmkpaaGreatDoorGt6
import Derived.Lib.SliceRun
import Derived.Shelf.SlSortCmp.WholeK
import Derived.Calls
import Derived.Shelf.SlGeneric
import Derived.Test.YtjbmjnbkibmkpaaGreatDoorProg
set_option maxHeartbeats 8000000
namespace Go.Proofs.YtjbmjnbkibmkpaaGreatDoor
open Go.RowKit Go.Shelf
namespace Ve
attribute [local go_sem] Oper.semAt_some
abbrev Px (n : Nat) : Type:={ i : Nat // i < n }
def encX {n : Nat} (x : Px n) : Array Value:=#[.int .i64 (x.1 : Int)]
def atX {n : Nat} (l : List (Px n)) : List Nat:=l.map fun x=>x.1
theorem atX_app {n : Nat} (l : List (Px n)) (x : Px n) : atX (l ++ [x]) = atX l ++ [x.1]:=by simp [atX]
theorem gr_of_below {A B : World} (h : Below A.heap.size A B) : A.grownBy B none:=⟨h.os,h.tape,h.output,h.size,fun b hb _=>h.block b hb⟩
theorem fid_any (a : Option Addr) (len cap : Nat) (p q : ByteArray) (w : World) :
  Calls Tryz.prog 149 #[.slice a len cap,.agg #[.string p,.string q]] w fun e w'=>e = .returned (.func (.func 206) #[] #[.pointer (some ⟨w.heap.size,0,none⟩),.pointer (some ⟨w.heap.size + 1,0,none⟩)]) /\ w' = (w.alloc (.cells #[.slice a len cap] 22)).alloc (.cells #[.string p,.string q] 47):=by
 go_enter Tryz.func149,Tryz.ntmps149
 go_wp2_with fail
 go_ret
 exact ⟨rfl,rfl⟩
set_option maxRecDepth 100000 in
theorem fid1_in (n : Nat) (hn : 2 <= n) (l B1 B2 n1 b o c : Nat) (Q : List Raw) (r : Bm) (kq : Nat) (hL : Q.length <= 1000000) (hkq : idxOf (isM r) Q = (kq : Int)) (E : Nat -> Prop) (J Jx : List (Px Q.length) -> World -> Prop)
  (hJ : ∀ s A B,J s A -> Below A.heap.size A B -> J s B)
  (hY : ∀ pre x W,J pre W -> pre.length < Q.length -> YieldAt Fence.wide (n - 1) Tryz.prog l (encX x) W fun e W'=>
   (e = .returned (.bool true) /\ J (pre ++ [x]) W' /\ Kx n1 E W W') \/ (e = .returned (.bool false) /\ Jx (pre ++ [x]) W'))
  (W : World) (hn1 : n1 <= W.heap.size) (h1 : W.cell? ⟨B1,0,none⟩ = some (.slice (some ⟨b,o,none⟩) Q.length c)) (h2 : W.cell? ⟨B2,0,none⟩ = some (.string r.1)) (h3 : W.cell? ⟨B2,1,none⟩ = some (.string r.2)) (hes : EsAt W (.slice (some ⟨b,o,none⟩) Q.length c) Q)
  (b1 : B1 < n1) (e1 : ¬ E B1) (b2 : B2 < n1) (e2 : ¬ E B2) (b3 : b < n1) (e3 : ¬ E b) (h0 : J [] W) :
  CallsIn Fence.wide n Tryz.prog 206 #[.func (.yield l) #[] #[],.pointer (some ⟨B1,0,none⟩),.pointer (some ⟨B2,0,none⟩)] W fun e W'=>(∃ v,e = .returned v) /\
   ((∃ ys : List (Px Q.length),(∃ t,t <= kq + 1 /\ atX ys = dnL kq t /\ (t = kq + 1 \/ ∀ (h : kq - t < Q.length),Q[kq - t].1.1 ≠ r.1)) /\ J ys W') \/ (∃ pre : List (Px Q.length),(∃ t,t <= kq /\ atX pre = dnL kq (t + 1) /\ ∀ (h : kq - t < Q.length),Q[kq - t].1.1 = r.1) /\ Jx pre W')):=by
 have hn1' : 1 <= n:=by omega
 obtain ⟨hkl,-⟩:=idx_is hkq
 obtain ⟨p,q⟩:=r
 simp only at h2 h3
 have HF:=hid (find_any Q (p,q) _ W hL hes)
 rw [hkq] at HF
 have HP:=hid (fun k (h : k < Q.length)=>(es_all hes h).2.1)
 clear hes hkq
 refine callsIn_of_wp Tryz.func206 rfl trivial ?_ rfl
 simp only [Tryz.ntmps206,List.size_toArray,List.length_cons,List.length_nil,Nat.reduceAdd,Nat.reduceSub,Array.replicate_succ,Array.replicate_zero,List.push_toArray,List.append_toArray,List.nil_append,List.cons_append]
 gi_wp2_with (refine ⟨trivial,?_⟩; gi_at_call 127; refine (callsIn_wide.2 HF.out).mono ?_; rintro e W1 ⟨rfl,hb1⟩)
 have HJ1:=hid (hJ _ _ _ h0 hb1)
 have HK1:=hid (show Kx n1 E W W1 from Kx.below hb1 hn1)
 gi_loopw [4] (fun iv wr=>∃ (k t : Nat) (pre : List (Px Q.length)),k + t = kq + 1 /\ iv = ivD k /\ Hid (pre.length = t /\ atX pre = dnL kq t /\ J pre wr /\ Kx n1 E W wr))
  (fun iv _=>(intOf iv + 1).toNat)
 case atStart=>exact ⟨kq + 1,0,[],by omega,rfl,hid ⟨rfl,rfl,HJ1.out,HK1.out⟩⟩
 case round=>
  clear HJ1 HK1
  obtain ⟨k,t,pre,hkt,rfl,HJ⟩:=hrel
  cases k with
  | zero=>
   unfold ivD
   gi_wp2
   gi_quiet (fail)
   have HJq:=hid (hJ _ _ _ HJ.out.2.2.1 (below_drawn_of (Below.refl _ _) nq))
   gi_wp2
   go_end0
   exact ⟨⟨_,rfl⟩,.inl ⟨pre,⟨t,by omega,HJ.out.2.1,Or.inl (by omega)⟩,HJq.out⟩⟩
  | succ k=>
   have hkl2 : k < Q.length:=by omega
   have c1:=HJ.out.2.2.2.cell h1 b1 e1
   have c2:=HJ.out.2.2.2.cell h2 b2 e2
   have c3:=HJ.out.2.2.2.cell h3 b2 e2
   have c4:=HJ.out.2.2.2.cell (HP.out k hkl2) b3 e3
   have hkI : (k : Int) < (Q.length : Int):=by omega
   have hk0 : (0 : Int) <= (k : Int):=by omega
   have hw1 : wrap64 ((k : Int) - 1) = (k : Int) - 1:=IntWalk.wrap64_in _ (by omega)
   have HNX:=hid (ivD_next k)
   have hkt2 : kq - t = k:=by omega
   have HPT:=hid (show ∀ (h : kq - t < Q.length),Q[kq - t].1.1 = (Q[k]'hkl2).1.1 from fun h=>by congr 3)
   unfold ivD
   by_cases he : (Q[k]'hkl2).1.1 = p
   ·have HE:=hid he
    rw [he] at c4
    have hs:=str_refl p
    gi_wp2
    gi_quiet (fail)
    have hJq:=hJ _ _ _ HJ.out.2.2.1 (below_drawn_of (Below.refl _ _) nq)
    obtain ⟨fn,tmps,assign,body,hy,hR⟩:=hY pre ⟨k,hkl2⟩ _ hJq (by have:=HJ.out.1; omega)
    unfold encX at hy
    have HKq:=hid (show Kx n1 E W (wr.drewN nq) from HJ.out.2.2.2.trans ⟨rfl,rfl,rfl,Nat.le_refl _,fun _ _ _=>rfl⟩)
    clear c1 c2 c3 c4 he
    gi_wp2
    refine hR.mono ?_
    rintro e W3 (⟨rfl,hJ3,hk3⟩ | ⟨rfl,hJx3⟩)
    ·gi_wp2
     go_roundw
     case rel=>exact ⟨k,t + 1,pre ++ [⟨k,hkl2⟩],by omega,HNX.out,hid ⟨by have:=HJ.out.1; simp; omega,by rw [atX_app,HJ.out.2.1]; show dnL kq t ++ [k] = dnL kq t ++ [kq - t]; rw [hkt2],hJ3,HKq.out.trans hk3⟩⟩
     case measure=>first | (simp [intOf]; done) | (simp [intOf]; omega)
    ·gi_wp2
     refine bodyPost_ret (results_none rfl _ _ _) rfl ?_
     exact ⟨⟨_,rfl⟩,.inr ⟨_,⟨t,by omega,by rw [atX_app,HJ.out.2.1]; show dnL kq t ++ [k] = dnL kq t ++ [kq - t]; rw [hkt2],fun h=>by rw [HPT.out h]; exact HE.out⟩,hJx3⟩⟩
   ·have HE:=hid he
    have hs:=str_ne he
    generalize (Q[k]'hkl2).1.1 = y at *
    clear he
    gi_wp2
    gi_quiet (fail)
    have HJq:=hid (hJ _ _ _ HJ.out.2.2.1 (below_drawn_of (Below.refl _ _) nq))
    gi_wp2
    go_end0
    exact ⟨⟨_,rfl⟩,.inl ⟨pre,⟨t,by omega,HJ.out.2.1,Or.inr (fun h=>by rw [HPT.out h]; exact HE.out)⟩,HJq.out⟩⟩
set_option maxRecDepth 100000 in
theorem marked_any (Q : List Raw) (O : List Bool) (v : Value) (g c2 : Nat) (w : World) (hL : Q.length <= 1000) (hO : O.length = Q.length) (hv : EsAt w v Q) (hg : w.heap[g]? = some (.cells (bwc O) 4 (0,0))) :
  Calls Tryz.prog 150 #[v,.slice (some ⟨g,0,none⟩) Q.length c2] w fun e w'=>∃ u,e = .returned u /\ w'.ownsRow w.heap.size 47 2 u (selO O (Q.map fun r=>r.1)).length (flatM (selO O (Q.map fun r=>r.1))) /\ Below w.heap.size w w':=by
 have HES:=hid (fun W (h : Below w.heap.size w W)=>hv.below h)
 have HHP:=hid hg
 have HOL:=hid hO
 have HUM:=hid (fun i (hi : i < Q.length) (hi' : i < (Q.map fun r=>r.1).length)=>show (Q.map fun r=>r.1)[i] = Q[i].1 by simp)
 have HUL:=hid (show (Q.map fun r=>r.1).length = Q.length by simp)
 obtain ⟨i0,hi0,hz0,hz1,hz2⟩:=info_parts infoMod
 obtain ⟨a,c,hv1,-⟩:=id hv
 subst hv1
 clear hv hg hO
 generalize (Q.map fun r=>r.1) = U at *
 go_enter Tryz.func150,Tryz.ntmps150
 go_wp2_with fail
 go_loopw [5,10] (fun ov iv wr=>∃ i : Nat,i <= Q.length /\ iv = .int .i64 i /\ Hid (wr.ownsRow w.heap.size 47 2 ov (selO (O.take i) (U.take i)).length (flatM (selO (O.take i) (U.take i)))) /\ Hid ((selO (O.take i) (U.take i)).length <= i) /\ Hid (Below w.heap.size w wr)) (fun _ iv _=>Q.length - (intOf iv).toNat)
 case atStart=>exact ⟨0,Nat.zero_le _,rfl,hid (by simp only [List.take_zero,selO]; exact World.ownsRow_nil _ _ _ _),hid (by simp [selO]),hid (Below.refl _ _)⟩
 case round=>
  obtain ⟨i,hi,rfl,HOW,HSL,HBr⟩:=hrel
  by_cases hlt : i < Q.length
  ·have hiI : (i : Int) < (Q.length : Int):=by omega
   have hii : (0 : Int) <= (i : Int):=by omega
   have HLI:=hid hlt
   have hiU : i < U.length:=by rw [HUL.out]; exact hlt
   have hiO : i < O.length:=by rw [HOL.out]; exact hlt
   have m0:=cell_below HBr.out (bwc_at HHP.out hiO)
   have hes:=HES.out _ HBr.out
   obtain ⟨b,o,hab⟩ : ∃ b o,a = some ⟨b,o,none⟩:=by
    obtain ⟨a',c',e,_,_,h⟩:=hes
    injection e with q1 q2 q3
    obtain ⟨b,o,h4,_⟩:=h (fun h=>by rw [h] at hlt; simp at hlt)
    exact ⟨b,o,by rw [q1,h4]⟩
   subst hab
   obtain ⟨hsl,x0,x1,x2,x3,x4⟩:=es_all hes hlt
   have HST:=hid (selO_take O U i hiO hiU)
   rw [HUM.out i hlt hiU] at HST
   generalize hx : Q[i] = x at *
   obtain ⟨⟨p,q⟩,rv,pv,bk⟩:=x
   obtain ⟨⟨ra,rn,rc,hrv⟩,pa,pn,pc,hpv⟩:=hsl
   simp only at hrv hpv x0 x1 x2 x3 x4 HST
   subst hrv
   subst hpv
   have HBa:=hid ((Below.refl wr.heap.size wr).alloc (Nat.le_refl _) (.cells #[.string p,.string q,.slice ra rn rc,.slice pa pn pc,.bool bk] 54))
   have mz:=cell_below HBa.out m0
   have HBb:=hid (HBr.out.trans (HBa.out.mono HBr.out.size))
   have HNW:=hid (heap_new wr (.cells #[.string p,.string q,.slice ra rn rc,.slice pa pn pc,.bool bk] 54))
   clear hes hlt hx
   cases hoi : O[i]
   ·rw [hoi] at mz HST
    have HST2:=hid (show selO (O.take (i + 1)) (U.take (i + 1)) = selO (O.take i) (U.take i) by rw [HST.out]; simp)
    have HOW2:=hid (owns_below HOW.out HBa.out)
    clear hoi m0
    go_wp2_with fail
    go_roundw
    case rel=>first | exact ⟨i + 1,HLI.out,nr_idx i,hid (by rw [HST2.out]; exact HOW2.out),hid (by rw [HST2.out]; have:=HSL.out; omega),HBb⟩ | exact ⟨i + 1,HLI.out,nx_idx HLI.out (by omega),hid (by rw [HST2.out]; exact HOW2.out),hid (by rw [HST2.out]; have:=HSL.out; omega),HBb⟩
    case measure=>first | exact nr_meas HLI.out | exact nx_meas HLI.out (by omega)
   ·rw [hoi] at mz HST
    have HST2:=hid (show selO (O.take (i + 1)) (U.take (i + 1)) = selO (O.take i) (U.take i) ++ [(p,q)] by rw [HST.out]; simp)
    obtain ⟨SX,hSX⟩ : ∃ SX,selO (O.take i) (U.take i) = SX:=⟨_,rfl⟩
    rw [hSX] at HOW HST2 HSL
    have HOW2:=hid (owns_below HOW.out HBa.out)
    have hsx:=HSL.out
    have hwz:=HBb.out.size
    clear hoi hSX HST m0
    go_wp2_with (at_builtin; refine wpList_append_own _ rfl _ _ 23 rfl w.heap.size 47 i0 _ 2 32 Tryz.underlying23 hi0 hz0 hz1 hz2 rfl (by decide) _ _ _ rfl (HOW2.out.alloc _) ⟨wr.heap.size + 1,0,none⟩ 1 1 [.string p,.string q] rfl rfl ?c1 ?c2 ?c3 ?c4 ?c5 ?_)
    case c1=>
     intro t u ht
     match t,ht with
     | 0,ht=>simp at ht; subst ht; simp [Addr.add]
     | 1,ht=>simp at ht; subst ht; simp [Addr.add]
     | t + 2,ht=>simp at ht
    case c2=>intro u hu; simp at hu; rcases hu with rfl | rfl <;> rfl
    case c3=>unfold maxLen; omega
    case c4=>omega
    case c5=>first | omega | (simp; omega) | (simp at hwz ⊢; omega)
    intro v' w6 hown hgrow _
    have HR3:=hid (rel_app2 HBb.out.size HBb.out HOW2.out (Below.refl _ _) hgrow)
    have HO4:=hid (show w6.ownsRow w.heap.size 47 2 v' (SX ++ [(p,q)]).length (flatM (SX ++ [(p,q)])) by rw [List.length_append,flatM_app]; exact hown)
    clear hown hgrow
    go_wp2_with fail
    go_roundw
    case rel=>first | exact ⟨i + 1,HLI.out,nr_idx i,hid (by rw [HST2.out]; exact HO4.out),hid (by rw [HST2.out]; simp; omega),HR3⟩ | exact ⟨i + 1,HLI.out,nx_idx HLI.out (by omega),hid (by rw [HST2.out]; exact HO4.out),hid (by rw [HST2.out]; simp; omega),HR3⟩
    case measure=>first | exact nr_meas HLI.out | exact nx_meas HLI.out (by omega)
  ·have hiI : ¬ (i : Int) < (Q.length : Int):=by omega
   have HOF:=hid (show wr.ownsRow w.heap.size 47 2 u5 (selO O U).length (flatM (selO O U)) by
    have h:=HOW.out
    rw [List.take_of_length_le (by rw [HOL.out]; omega),List.take_of_length_le (by rw [HUL.out]; omega)] at h
    exact h)
   clear hlt HOW HSL
   go_wp2_with fail
   go_ret
   exact ⟨_,rfl,HOF.out,HBr.out⟩
end Ve
end Go.Proofs.YtjbmjnbkibmkpaaGreatDoor


namespace Go.Proofs.YtjbmjnbkibmkpaaGreatDoor
open Go.RowKit
namespace Ve
structure Mw (w0 W : World) (g : Nat) (D : List Bm) : Prop where
 bl : Below w0.heap.size w0 W
 lo : w0.heap.size <= g
 hi : g < W.heap.size
 fz : ∀ o,W.frozen? ⟨g,o,none⟩ = false
 c0 : ∀ j (h : j < D.length),W.cell? ⟨g,j * 2,none⟩ = some (.string D[j].1)
 c1 : ∀ j (h : j < D.length),W.cell? ⟨g,j * 2 + 1,none⟩ = some (.string D[j].2)
def mcells (m : Bm) : List Value:=[.string m.1,.string m.2]
theorem Mw.below {w0 W W' : World} {g : Nat} {D : List Bm} (h : Mw w0 W g D) (hb : Below W.heap.size W W') : Mw w0 W' g D:=
 ⟨h.bl.trans (hb.mono h.bl.size),h.lo,Nat.lt_of_lt_of_le h.hi hb.size,fun o=>by rw [hb.frozen h.hi]; exact h.fz o,fun j hj=>cell_below hb (h.c0 j hj),fun j hj=>cell_below hb (h.c1 j hj)⟩
theorem Mw.at {w0 W : World} {g : Nat} {D : List Bm} (h : Mw w0 W g D) {j : Nat} {r : Bm} (hj : D[j]? = some r) :
  W.cell? ⟨g,j * 2,none⟩ = some (.string r.1) /\ W.cell? ⟨g,j * 2 + 1,none⟩ = some (.string r.2):=by
 obtain ⟨hl,rfl⟩:=List.getElem?_eq_some_iff.1 hj
 exact ⟨h.c0 j hl,h.c1 j hl⟩
theorem Mw.cell {w0 W : World} {g : Nat} {D : List Bm} (h : Mw w0 W g D) (j : Nat) (hj : j < D.length) (c : Nat) (hc : c < 2) : W.cell? ⟨g,j * 2 + c,none⟩ = (mcells D[j])[c]?:=by
 match c,hc with
 | 0,_=>exact h.c0 j hj
 | 1,_=>exact h.c1 j hj
theorem Mw.of_cells {w0 W : World} {g : Nat} {D : List Bm} (h1 : Below w0.heap.size w0 W) (h2 : w0.heap.size <= g) (h3 : g < W.heap.size) (h4 : ∀ o,W.frozen? ⟨g,o,none⟩ = false)
  (h : ∀ j (hj : j < D.length) c (_ : c < 2),W.cell? ⟨g,j * 2 + c,none⟩ = (mcells D[j])[c]?) : Mw w0 W g D:=
 ⟨h1,h2,h3,h4,fun j hj=>h j hj 0 (by omega),fun j hj=>h j hj 1 (by omega)⟩
theorem Mw.ms {w0 W : World} {g : Nat} {D : List Bm} (h : Mw w0 W g D) {cap : Nat} (hc : D.length <= cap) : MsAt W (.slice (some ⟨g,0,none⟩) D.length cap) D:=
 ⟨_,cap,rfl,hc,fun _=>⟨g,0,rfl,fun j hj=>⟨by rw [Nat.zero_add]; exact h.c0 j hj,by rw [Nat.zero_add]; exact h.c1 j hj⟩⟩⟩
theorem setCells_belowM {w0 W : World} {g : Nat} (h : Below w0.heap.size w0 W) (hg : w0.heap.size <= g) : ∀ (vs : List Value) (o : Nat),Below w0.heap.size w0 (W.setCells g o vs):=by
 intro vs
 induction vs generalizing W with
 | nil=>intro o; exact h
 | cons v r ih=>intro o; exact ih (h.setCell hg v) (o + 1)
theorem Mw.setAt {w0 W : World} {g : Nat} {D : List Bm} (h : Mw w0 W g D) (i : Nat) (hi : i < D.length) (r : Bm) : Mw w0 (W.setCells g (i * 2) (mcells r)) g (D.set i r):=by
 refine Mw.of_cells (setCells_belowM h.bl h.lo _ _) h.lo (by rw [Go.Sort.size_setCells]; exact h.hi) (fun o=>by rw [World.frozen?_setCells]; exact h.fz o) (fun j hj c hc=>?_)
 have hj' : j < D.length:=by simpa using hj
 by_cases e : j = i
 ·subst e
  have:=World.cell?_setCells_in g (mcells r) (j * 2) W (fun t ht=>by
   have h9 : t < 2:=ht
   rw [h.cell j hj' t h9]
   match t,h9 with
   | 0,_=>rfl
   | 1,_=>rfl) c hc
  rw [this]
  simp
  exact (List.getElem?_eq_getElem (show c < (mcells r).length from hc)).symm
 ·rw [World.cell?_setCells_out g (mcells r) (i * 2) W _ (fun _ _=>by
   show j * 2 + c < i * 2 \/ i * 2 + 2 <= j * 2 + c
   omega),h.cell j hj' c hc]
  rw [List.getElem_set_ne (by omega)]
theorem Mw.cleared {w0 W : World} {g : Nat} {D : List Bm} (h : Mw w0 W g D) (n : Nat) (hn : n <= D.length) (zs : List Value) : Mw w0 (W.setCells g (n * 2) zs) g (D.take n):=by
 refine Mw.of_cells (setCells_belowM h.bl h.lo _ _) h.lo (by rw [Go.Sort.size_setCells]; exact h.hi) (fun o=>by rw [World.frozen?_setCells]; exact h.fz o) (fun j hj c hc=>?_)
 have hj' : j < n:=by simp at hj; omega
 rw [World.cell?_setCells_out g zs (n * 2) W _ (fun _ _=>Or.inl (by show j * 2 + c < n * 2; omega)),h.cell j (by omega) c hc,List.getElem_take]
theorem run_clear_mw {w0 W : World} {g : Nat} {D : List Bm} (h : Mw w0 W g D) (n : Nat) (hn : n < D.length) :
  ∃ zs,∀ ty c,(Builtin.clear_ #[23] ty #[.slice (some ⟨g,n * 2,none⟩) (D.length - n) c]).run Tryz.prog W = .ok (.tuple #[]) (W.setCells g (n * 2) zs):=by
 have hzl : (Builtin.zeroCells (Value.agg #[.string ⟨#[]⟩,.string ⟨#[]⟩]).cells (D.length - n)).toList.length = (D.length - n) * 2:=by
  simp [Builtin.zeroCells,Value.cells]
 refine ⟨(Builtin.zeroCells (Value.agg #[.string ⟨#[]⟩,.string ⟨#[]⟩]).cells (D.length - n)).toList,fun ty c=>?_⟩
 have hst:=run_storeCells_cells (P:=Tryz.prog) g (n * 2) (Builtin.zeroCells (Value.agg #[.string ⟨#[]⟩,.string ⟨#[]⟩]).cells (D.length - n)).toList 0 W (fun j hj=>by
  rw [hzl] at hj
  have e : n * 2 + 0 + j = (n + j / 2) * 2 + j % 2:=by omega
  rw [e,h.cell (n + j / 2) (by omega) (j % 2) (by omega)]
  have h9 : j % 2 < 2:=by omega
  match j % 2,h9 with
  | 0,_=>rfl
  | 1,_=>rfl) (fun j _=>h.fz _) (fun v hv=>by
  simp only [Builtin.zeroCells,Value.cells] at hv
  simp at hv
  obtain ⟨t,_,rfl⟩:=hv
  have h9 : t % 2 < 2:=by omega
  match t % 2,h9 with
  | 0,_=>rfl
  | 1,_=>rfl)
 simp only [Nat.add_zero] at hst
 obtain ⟨m,hm⟩ : ∃ m,D.length - n = m + 1:=⟨D.length - n - 1,by omega⟩
 rw [hm] at hst ⊢
 have hu:=Tryz.underlying23
 have hv : ∀ w,(zeroValue 47).run Tryz.prog w = .ok (.agg #[.string ⟨#[]⟩,.string ⟨#[]⟩]) w:=fun w=>Tryz.zeroValue47 w
 simp [Builtin.clear_,run_underlying hu,hv,hst]
theorem own_mw {w0 W : World} {v : Value} {L : List Bm} (h : W.ownsRow w0.heap.size 47 2 v L.length (flatM L)) (hb : Below w0.heap.size w0 W) (hL : L ≠ []) : ∃ g cap,v = .slice (some ⟨g,0,none⟩) L.length cap /\ L.length <= cap /\ cap <= maxLen /\ Mw w0 W g L:=by
 obtain ⟨_,⟨_,hn0⟩ | ⟨g,cap,cur,hv,hg,hblk,hcap,hcm,hcs,hct⟩⟩:=h
 ·exact absurd (List.length_eq_zero_iff.1 hn0) hL
 ·refine ⟨g,cap,hv,hcap,hcm,Mw.of_cells hb hg (lt_of_blk hblk) (fun o=>by simp [World.frozen?,hblk]) (fun j hj c hc=>?_)⟩
  have h1:=flatM_get L j c hj hc
  rw [<- hct,List.getElem?_take,if_pos (by omega)] at h1
  simp only [World.cell?,hblk]
  unfold mcells
  rw [<- h1]; simp
def srtM (D : List Bm) : Prop:=D.Pairwise nfW
structure CpM (D : List Bm) (m : Nat) (E : List Bm) : Prop where
 ri : rising E
 sub : ∀ e,e ∈ E -> e ∈ D.take m
 top : ∀ x,x ∈ D.take m -> ∃ e,e ∈ E /\ e.1 = x.1 /\ ordV (vb x) (vb e) <= 0
 len : E.length <= m
theorem mem_take_at {D : List Bm} {m : Nat} {x : Bm} (h : x ∈ D.take m) : ∃ i,∃ hi : i < D.length,i < m /\ D[i] = x:=by
 obtain ⟨i,hi,e⟩:=List.mem_iff_getElem.1 h
 rw [List.getElem_take] at e
 simp at hi
 exact ⟨i,by omega,by omega,e⟩
theorem take_snocM {D : List Bm} {m : Nat} (hm : m < D.length) {x : Bm} : x ∈ D.take (m + 1) ↔ x ∈ D.take m \/ x = D[m]:=by
 rw [List.take_succ_eq_append_getElem hm,List.mem_append,List.mem_singleton]
theorem CpM.start {D : List Bm} (hD : 0 < D.length) (hr : ∀ r,r ∈ D -> Rt r) : CpM D 1 (D.take 1):=by
 match D,hD with
 | r :: R,_=>exact ⟨List.pairwise_singleton _ _,fun t h=>h,fun x hx=>⟨x,hx,rfl,by
   have : x = r:=by simpa using hx
   subst this
   rw [(ordV_zero (hr x (by simp)).ver (hr x (by simp)).ver).2 rfl]; omega⟩,by simp⟩
theorem CpM.same {D E : List Bm} {m : Nat} (h : CpM D (m + 1) E) (hs : srtM D) (_hr : ∀ r,r ∈ D -> Rt r) (hm : m + 1 < D.length) (he : D[m + 1].1 = (D[m]'(by omega)).1) : CpM D (m + 1 + 1) E:=by
 have hp:=List.pairwise_iff_getElem.1 hs
 refine ⟨h.ri,fun e he=>(take_snocM hm).2 (Or.inl (h.sub e he)),fun x hx=>?_,by have:=h.len; omega⟩
 rcases (take_snocM hm).1 hx with hx | rfl
 ·exact h.top x hx
 ·obtain ⟨e,h1,h2,_⟩:=h.top (D[m]'(by omega)) ((take_snocM (by omega)).2 (Or.inr rfl))
  obtain ⟨i,hi,him,rfl⟩:=mem_take_at (h.sub e h1)
  refine ⟨D[i],h1,h2.trans he.symm,?_⟩
  rcases hp i (m + 1) hi hm him with h3 | ⟨_,h3⟩
  ·rw [h2,<- he,lt_irrefl] at h3; cases h3
  ·exact h3
theorem srt_strictM {D : List Bm} (hs : srtM D) {i k : Nat} (hik : i <= k) (hk : k + 1 < D.length) (hne : D[k + 1].1 ≠ (D[k]'(by omega)).1) : lt (D[i]'(by omega)).1 D[k + 1].1 = true:=by
 have hp:=List.pairwise_iff_getElem.1 hs
 have h2 : lt (D[k]'(by omega)).1 D[k + 1].1 = true:=by
  rcases hp k (k + 1) (by omega) hk (by omega) with h | ⟨e,_⟩
  ·exact h
  ·exact absurd e.symm hne
 rcases Nat.lt_or_ge i k with h | h
 ·rcases hp i k (by omega) (by omega) h with h1 | ⟨e,_⟩
  ·exact lt_trans h1 h2
  ·rw [e]; exact h2
 ·have : i = k:=by omega
  subst this; exact h2
theorem CpM.more {D E : List Bm} {m : Nat} (h : CpM D (m + 1) E) (hs : srtM D) (hr : ∀ r,r ∈ D -> Rt r) (hm : m + 1 < D.length) (he : D[m + 1].1 ≠ (D[m]'(by omega)).1) : CpM D (m + 1 + 1) (E ++ [D[m + 1]]):=by
 refine ⟨?_,fun e h1=>?_,fun x hx=>?_,by have:=h.len; simp; omega⟩
 ·unfold rising
  rw [List.pairwise_append]
  refine ⟨h.ri,List.pairwise_singleton _ _,fun a ha b hb=>?_⟩
  rw [List.mem_singleton.1 hb]
  obtain ⟨i,hi,him,rfl⟩:=mem_take_at (h.sub a ha)
  exact srt_strictM hs (by omega) hm he
 ·rcases List.mem_append.1 h1 with h1 | h1
  ·exact (take_snocM hm).2 (Or.inl (h.sub e h1))
  ·exact (take_snocM hm).2 (Or.inr (List.mem_singleton.1 h1))
 ·rcases (take_snocM hm).1 hx with hx | rfl
  ·obtain ⟨e,h1,h2⟩:=h.top x hx
   exact ⟨e,List.mem_append_left _ h1,h2⟩
  ·have hv:=(hr D[m + 1] (List.getElem_mem hm)).ver
   exact ⟨D[m + 1],by simp,rfl,by rw [(ordV_zero hv hv).2 rfl]; omega⟩
theorem CpM.plain {D : List Bm} {m : Nat} (h : CpM D (m + 1) (D.take (m + 1))) (hs : srtM D) (hr : ∀ r,r ∈ D -> Rt r) (hm : m + 1 < D.length) (he : D[m + 1].1 ≠ (D[m]'(by omega)).1) : CpM D (m + 1 + 1) (D.take (m + 1 + 1)):=by
 have:=h.more hs hr hm he
 rw [List.take_succ_eq_append_getElem hm]
 exact this
theorem CpM.jn {D E : List Bm} (h : CpM D D.length E) (hr : ∀ r,r ∈ D -> Rt r) : Jn D E:=by
 have hs : ∀ e,e ∈ E -> e ∈ D:=fun e he=>by have:=h.sub e he; rw [List.take_length] at this; exact this
 exact ⟨h.ri,fun e he=>⟨hs e he,(hr e (hs e he)).ok⟩,fun x hx _=>h.top x (by rw [List.take_length]; exact hx)⟩
end Ve
end Go.Proofs.YtjbmjnbkibmkpaaGreatDoor


namespace Go.Proofs.YtjbmjnbkibmkpaaGreatDoor
namespace Mo
def Ge {α : Type} (d : Nat) : Result α -> Prop
 | .ok _ w=>d <= w.drawn
 | .halt _ w=>d <= w.drawn
theorem Ge.le {α : Type} {d d' : Nat} {r : Result α} (h : Ge d r) (hd : d' <= d) : Ge d' r:=by
 cases r <;> exact Nat.le_trans hd h
theorem ask_ge {α : Type} : ∀ (a : Ask α) (w : World),w.drawn <= (w.ask a).2.drawn:=fun a=>by
 induction a with
 | done a=>intro w; exact Nat.le_refl _
 | ask what range k ih=>
  intro w
  unfold World.ask
  dsimp only
  split
  ·exact ih 0 w
  ·exact Nat.le_trans (Nat.le_succ _) (ih _ { w with drawn:=w.drawn + 1 })
theorem sys_ge (w : World) (c : Sys) : w.drawn <= (w.sys c).2.drawn:=by
 have h:=ask_ge (Kernel.perform c w.os) w
 unfold World.sys
 split
 ·exact Nat.le_refl _
 ·rename_i h2
  rw [h2] at h
  exact h
theorem view_ge {P : Program} {w : World} {at_ : Addr} {u : TypeId} {k : Addr} {v : Value} {b : Bool} {r : World × List Addr} (h : w.viewStore P at_ u k v b = .ok r) : r.1.drawn = w.drawn:=by
 unfold World.viewStore at h
 simp only [bind,Except.bind,pure,Except.pure] at h
 repeat' split at h
 all_goals first
  | (cases h; rfl)
  | cases h
theorem far_ge {P : Program} {w : World} {a : Addr} {v : Value} {b : Bool} {r : World × List Addr} (h : w.farStore P a v b = .ok r) : r.1.drawn = w.drawn:=by
 unfold World.farStore at h
 split at h
 ·split at h
  ·rename_i h2
   cases h
   exact view_ge h2
  ·cases h
 ·cases h
theorem freeze_ge (w : World) (a : Addr) (n : Nat) : (w.freeze a n).drawn = w.drawn:=by
 unfold World.freeze
 split <;> rfl
theorem run_ge {α : Type} (P : Program) (s : Sem α) : ∀ w : World,Ge w.drawn (s.run P w):=by
 induction s with
 | pure a=>intro w; exact Nat.le_refl _
 | load m a k ih=>
  intro w
  unfold Sem.run
  split
  ·exact ih _ w
  ·split
   ·exact ih _ w
   ·exact Nat.le_refl _
 | store m a v k ih=>
  intro w
  cases v
  case agg=>exact Nat.le_refl _
  case tuple=>exact Nat.le_refl _
  all_goals
   simp only [Sem.run]
   split
   ·split
    ·exact Nat.le_refl _
    ·exact ih _
   ·split
    ·rename_i h2
     have:=far_ge h2
     rw [<- this]
     exact ih _
    ·exact Nat.le_refl _
 | new o k ih=>intro w; exact ih _ { w with heap:=w.heap.push o }
 | shape r k ih=>intro w; exact ih _ w
 | freeze a n k ih=>intro w; have:=ih (w.freeze a n); rw [freeze_ge] at this; exact this
 | frozen a k ih=>intro w; exact ih _ w
 | getObj r k ih=>
  intro w
  unfold Sem.run
  split
  ·exact Nat.le_refl _
  ·exact ih _ w
  ·exact Nat.le_refl _
 | setObj r o k ih=>
  intro w
  unfold Sem.run
  split
  ·exact Nat.le_refl _
  ·exact ih { w with heap:=w.heap.setIfInBounds r o }
  ·exact Nat.le_refl _
 | choose q k ih=>
  intro w
  unfold Sem.run
  split
  ·exact ih _ w
  ·exact (ih _ { w with drawn:=w.drawn + 1 }).le (Nat.le_succ _)
 | sys c k ih=>intro w; exact (ih _ _).le (sys_ge w c)
 | program k ih=>intro w; exact ih _ w
 | mark m k ih=>intro w; exact ih w
 | halt h=>intro w; exact Nat.le_refl _
theorem run_ok {α : Type} {P : Program} {s : Sem α} {w w' : World} {a : α} (h : s.run P w = .ok a w') : w.drawn <= w'.drawn:=by
 have:=run_ge P s w
 rw [h] at this
 exact this
theorem run_ha {α : Type} {P : Program} {s : Sem α} {w w' : World} {a : Halt} (h : s.run P w = .halt a w') : w.drawn <= w'.drawn:=by
 have:=run_ge P s w
 rw [h] at this
 exact this
def Gs (d : Nat) : GStep -> Prop
 | .go _ w _=>d <= w.drawn
 | .comm _ _ _ _ w _=>d <= w.drawn
 | .spawn _ _ w _=>d <= w.drawn
 | .count _ w _=>d <= w.drawn
 | .timer _ _ w _=>d <= w.drawn
 | .alone _ _ w _=>d <= w.drawn
 | .newcoro _ _ _ w _=>d <= w.drawn
 | .coroswitch _ _ _ w _=>d <= w.drawn
 | .collect _ w _=>d <= w.drawn
 | .watch _ w _=>d <= w.drawn
 | .ended _ _ _=>True
theorem Gs.le {d d' : Nat} {s : GStep} (h : Gs d s) (hd : d' <= d) : Gs d' s:=by
 cases s <;> first | trivial | exact Nat.le_trans hd h
theorem Gs.after {d : Nat} {es : Array Event} {s : GStep} (h : Gs d s) : Gs d (s.after es):=by
 cases s <;> exact h
def Ss (d : Nat) : Stepped -> Prop
 | .next m=>d <= m.world.drawn
 | .ended _ _=>True
theorem Ss.le {d d' : Nat} {s : Stepped} (h : Ss d s) (hd : d' <= d) : Ss d' s:=by
 cases s <;> first | trivial | exact Nat.le_trans hd h
def Mv (d : Nat) : Move -> Prop
 | .goroutine m _=>d <= m.world.drawn
 | .machine s _=>Ss d s
theorem Mv.le {d d' : Nat} {s : Move} (h : Mv d s) (hd : d' <= d) : Mv d' s:=by
 cases s
 ·exact Nat.le_trans hd h
 ·exact Ss.le h hd
theorem endThrow_ge (fr : Frame) (m : String) (w : World) : Gs w.drawn (endThrow fr m w):=Nat.le_refl _
theorem endWith_ge (w : World) (fd : Nat) (t : ByteArray) (o : Outcome) (d : Nat) : Gs d (endWith w fd t o):=by
 unfold endWith
 simp only []
 repeat' first
  | trivial
  | split
theorem endPrinting_ge (P : Program) (fr : Frame) (v : Value) (w : World) : Gs w.drawn (endPrinting P fr v w):=by
 unfold endPrinting
 simp only []
 repeat' first
  | trivial
  | exact Nat.le_refl _
  | split
theorem endFatal_ge (P : Program) (fr : Frame) (cs : List Frame) (dy : Option Dying) (m : String) (w : World) : Gs w.drawn (endFatal P fr cs dy m w):=by
 unfold endFatal
 extract_lets
 split
 ·exact run_ok (by assumption)
 ·trivial
 ·trivial
theorem writeOn_ge (P : Program) (fr : Frame) (d : Dying) (f : Fatal) (w : World) : Gs w.drawn (writeOn P fr d f w):=by
 unfold writeOn
 extract_lets
 split
 ·trivial
 ·extract_lets
  rw [Sem.runT_eq]
  generalize hr : Sem.run P _ w = r
  cases r with
  | ok a w'=>exact run_ok hr
  | halt a w'=>
   cases a <;> first | trivial | exact run_ha hr
theorem doReturn_ge (P : Program) (b : Bool) (fr : Frame) (cs : List Frame) (dy : Option Dying) (v : Value) (w : World) : Gs w.drawn (doReturn P b fr cs dy v w):=by
 unfold doReturn
 simp only []
 repeat' first
  | trivial
  | exact Nat.le_refl _
  | split
theorem die_ge (P : Program) (fr : Frame) (d : Dying) (w : World) : Gs w.drawn (die P fr d w):=by
 unfold die
 simp only [Sem.runT_eq]
 repeat' first
  | trivial
  | exact Nat.le_refl _
  | exact writeOn_ge _ _ _ _ _
  | exact endWith_ge _ _ _ _ _
  | exact run_ok (by assumption)
  | refine Gs.after ?_
  | exact (endPrinting_ge _ _ _ _).le (run_ha (by assumption))
  | split
theorem callDeferred_ge (P : Program) (fr : Frame) (cs : List Frame) (dy : Option Dying) (d : Deferred) (w : World) : Gs w.drawn (callDeferred P fr cs dy d w):=by
 unfold callDeferred
 simp only [Sem.runT_eq]
 generalize hr : Sem.run P (invoke d.target d.args) w = r
 cases r with
 | ok a w'=>
  have h2:=run_ok hr
  cases a
  all_goals try dsimp only
  all_goals repeat' first
   | trivial
   | exact h2
   | refine Gs.after ?_
   | (cases ‹Result.ok _ _ = Result.ok _ _› <;> first | exact h2 | trivial)
   | split
 | halt a w'=>
  have h2:=run_ha hr
  cases a
  all_goals try dsimp only
  all_goals repeat' first
   | trivial
   | exact h2
   | refine Gs.after ?_
   | exact (endFatal_ge _ _ _ _ _ _).le h2
   | exact (endThrow_ge _ _ _).le h2
   | split
theorem unwind_ge (P : Program) (b : Bool) (fr : Frame) (cs : List Frame) (dy : Option Dying) (w : World) : Gs w.drawn (unwind P b fr cs dy w):=by
 unfold unwind
 simp only [Sem.runT_eq]
 repeat' first
  | trivial
  | exact Nat.le_refl _
  | exact callDeferred_ge _ _ _ _ _ _
  | exact run_ok (by assumption)
  | refine Gs.after ?_
  | exact endPrinting_ge _ _ _ _
  | exact doReturn_ge _ _ _ _ _ _ _
  | exact (doReturn_ge _ _ _ _ _ _ _).le (run_ok (by assumption))
  | split
theorem early_ge (P : Program) (fr : Frame) (cs : List Frame) (dy : Option Dying) (g : Nat) (w : World) : Gs w.drawn (early P fr cs dy g w):=by
 unfold early
 simp only []
 repeat' first
  | trivial
  | exact Nat.le_refl _
  | (have h9:=run_ok ‹Sem.run P (choose (Question.early g)) w = Result.ok _ _›; exact h9)
  | split
theorem apply_ge (P : Program) (l : Bool) (fr : Frame) (cs : List Frame) (dy : Option Dying) (s : Sem Next) (w : World) : Gs w.drawn (stepG.apply P l fr cs dy s w):=by
 unfold stepG.apply
 have e : (if l = true then s.runT P w #[] else (s.run P w,#[])) = (s.run P w,(if l = true then s.runT P w #[] else (s.run P w,#[])).2):=by
  cases l
  ·rfl
  ·simp
 simp only []
 rw [e]
 generalize (if l = true then s.runT P w #[] else (s.run P w,#[])).2 = es
 generalize hr : Sem.run P s w = r
 refine Gs.after ?_
 cases r with
 | ok a w'=>
  have h2:=run_ok hr
  cases a
  all_goals try dsimp only
  all_goals repeat' first
   | trivial
   | exact h2
   | exact (endThrow_ge _ _ _).le h2
   | split
 | halt a w'=>
  have h2:=run_ha hr
  cases a
  all_goals try dsimp only
  all_goals repeat' first
   | trivial
   | exact h2
   | exact (endFatal_ge _ _ _ _ _ _).le h2
   | exact (endThrow_ge _ _ _).le h2
   | exact (early_ge _ _ _ _ _ _).le h2
   | (cases ‹Result.halt _ _ = Result.halt _ _› <;> first | exact h2 | exact (early_ge _ _ _ _ _ _).le h2 | trivial)
   | split
theorem oper_ge (P : Program) (l : Bool) (fr : Frame) (cs : List Frame) (dy : Option Dying) (w : World) : Gs w.drawn (stepG.oper P l fr cs dy w):=by
 unfold stepG.oper
 repeat' first
  | trivial
  | exact apply_ge _ _ _ _ _ _ _
  | split
theorem exec_ge (P : Program) (m l : Bool) (fr : Frame) (cs : List Frame) (dy : Option Dying) (w : World) : Gs w.drawn (stepG.exec P m l fr cs dy w):=by
 unfold stepG.exec
 simp only [Sem.runT_eq,Option.elim]
 split
 all_goals try exact Nat.le_refl _
 all_goals repeat' first
  | trivial
  | exact Nat.le_refl _
  | exact apply_ge _ _ _ _ _ _ _
  | exact oper_ge _ _ _ _ _ _
  | exact (doReturn_ge _ _ _ _ _ _ _).le (run_ok (by assumption))
  | exact (apply_ge _ _ _ _ _ _ _).le (run_ok (by assumption))
  | refine Gs.after ?_
  | (have h9:=run_ok (by assumption); exact h9)
  | (have h9:=run_ha (by assumption); exact h9)
  | exact run_ok (by assumption)
  | exact run_ha (by assumption)
  | split
theorem stepG_ge (P : Program) (m l : Bool) (g : Goroutine) (w : World) : Gs w.drawn (stepG P m g w l):=by
 unfold stepG
 repeat' first
  | exact die_ge _ _ _ _
  | exact exec_ge _ _ _ _ _ _ _
  | exact unwind_ge _ _ _ _ _ _
  | split
theorem waiting_ge {rest : Rest} {cases : Array CommCase} {w w' : World} (h : waitingAt rest cases w = some w') : w.drawn <= w'.drawn:=by
 unfold waitingAt at h
 split at h
 ·split at h
  ·cases h; exact Nat.le_refl _
  ·cases h
 ·cases h; exact Nat.le_refl _
theorem comm_ge (P : Program) (rest : Rest) (gs : Array Goroutine) (i : Nat) (g : Goroutine) (cases : Array CommCase) (blocking : Bool) (shape : CommShape) (w : World) : Ss w.drawn (communicate P rest gs i g cases blocking shape w).1:=by
 unfold communicate
 extract_lets
 split
 ·trivial
 split
 ·split
  ·split
   ·exact waiting_ge (by assumption)
   ·trivial
  ·exact Nat.le_refl _
 ·split
  ·trivial
  ·have h9:=run_ok (by assumption)
   try extract_lets
   repeat' first
    | trivial
    | exact h9
    | exact Nat.le_trans h9 (run_ok (by assumption))
    | exact Nat.le_trans h9 (run_ha (by assumption))
    | (have h8:=Nat.le_trans h9 (run_ok (by assumption)); exact h8)
    | split
theorem look_ge (P : Program) (gs : Array Goroutine) (rest : Rest) (w : World) : Ss w.drawn (look P gs rest w):=by
 unfold look
 simp only []
 repeat' first
  | trivial
  | exact run_ok (by assumption)
  | (have h9:=run_ok (by assumption); exact h9)
  | split
theorem serve_ge (P : Program) (m : Machine) (k : Nat) : Ss m.world.drawn (serve P m k):=by
 unfold serve
 simp only []
 repeat' first
  | trivial
  | exact Nat.le_refl _
  | split
theorem drain_ge (w : World) (c : Nat) : w.drawn <= (drain w c).2.drawn:=by
 unfold drain
 split <;> exact Nat.le_refl _
theorem retime_ge (m : Machine) (k : Nat) (t : Timer) (a b : Nat) : m.world.drawn <= (retime m k t a b).2.world.drawn:=by
 unfold retime
 cases t.chan with
 | none=>exact Nat.le_refl _
 | some c=>exact drain_ge m.world c
theorem named_ge {m m0 : Machine} {var : Addr} {f : Nat -> Timer -> Value × Machine} {r : Value × Machine} (hf : ∀ k t,m0.world.drawn <= (f k t).2.world.drawn) (h : timerOp.named m var f = .ok r) : m0.world.drawn <= r.2.world.drawn:=by
 unfold timerOp.named at h
 split at h
 ·cases h; exact hf _ _
 ·cases h
theorem timer_ge {m : Machine} {op : TimerOp} {r : Value × Machine} (h : timerOp m op = .ok r) : m.world.drawn <= r.2.world.drawn:=by
 cases op with
 | new t=>
  unfold timerOp at h
  simp only [] at h
  split at h
  ·cases h; exact Nat.le_refl _
  ·split at h
   ·split at h
    ·cases h
    ·cases h; exact Nat.le_refl _
   ·cases h
 | stop var=>exact named_ge (fun k t=>retime_ge m k t _ _) h
 | reset var a b=>
  unfold timerOp at h
  simp only [] at h
  split at h
  ·rename_i m2 h2
   have e : m.world.drawn <= m2.world.drawn:=by
    unfold timerOp.opened at h2
    split at h2
    ·split at h2
     ·cases h2; exact Nat.le_refl _
     ·cases h2
    ·cases h2; exact Nat.le_refl _
   exact named_ge (fun k t=>Nat.le_trans e (retime_ge m2 k t _ _)) h
  ·cases h
 | deadline ctx a b c=>
  unfold timerOp at h
  simp only [] at h
  cases h
  exact Nat.le_refl _
theorem runT_ge (P : Program) (m : Machine) (i : Nat) (b : Bool) : Ss m.world.drawn (runT P m i b).1:=by
 simp only [runT]
 generalize m.gs.swapAt! _ _ = gg
 have h:=stepG_ge P (i == 0) b gg.1 m.world
 generalize stepG P _ gg.1 m.world b = s at h ⊢
 cases s with
 | go g w es=>exact h
 | comm g cs bl sh w es=>exact (comm_ge _ _ _ _ _ _ _ _ _).le h
 | spawn g c w es=>exact h
 | count g w es=>
  simp only []
  split
  ·trivial
  ·exact h
 | timer g op w es=>
  simp only []
  split
  ·have h2:=timer_ge (by assumption)
   exact Nat.le_trans h h2
  ·exact h
  ·trivial
  ·trivial
 | alone g on w es=>exact h
 | newcoro g c d w es=>exact h
 | coroswitch g c ex w es=>
  simp only []
  split
  ·exact h
  ·exact h
  ·trivial
 | collect g w es=>exact (look_ge _ _ _ _).le h
 | watch g w es=>exact h
 | ended o w es=>trivial
theorem askOn_ge (P : Program) (m : Machine) : Mv m.world.drawn (askOn P m):=by
 unfold askOn
 simp only []
 split
 ·trivial
 have h0:=run_ok (by assumption)
 split
 ·exact (serve_ge _ _ _).le h0
 split
 ·split
  ·exact h0
  ·split
   ·exact h0
   ·split
    ·trivial
    ·trivial
 ·split
  ·split
   ·trivial
   ·have h1:=Nat.le_trans h0 (run_ok (by assumption))
    split
    ·exact h1
    ·split
     ·trivial
     ·exact Nat.le_trans h1 (run_ok (by assumption))
  ·split
   ·trivial
   ·have h1:=Nat.le_trans h0 (run_ok (by assumption))
    split
    ·trivial
    ·have h2:=Nat.le_trans h1 (run_ok (by assumption))
     split
     ·exact h2
     ·split
      ·trivial
      ·exact Nat.le_trans h2 (run_ok (by assumption))
   ·have h1:=Nat.le_trans h0 (run_ok (by assumption))
    exact h1
   ·have h1:=Nat.le_trans h0 (run_ok (by assumption))
    split
    ·trivial
    ·rename_i h5
     have h6:=run_ok h5
     have h2:=Nat.le_trans h1 h6
     split
     ·exact h2
     ·split
      ·trivial
      ·exact Nat.le_trans h2 (run_ok (by assumption))
theorem ask_ge' (P : Program) (m : Machine) : Mv m.world.drawn (ask P m):=by
 unfold ask
 split
 ·split
  ·trivial
  ·have h9:=run_ok (by assumption)
   have h8:=(look_ge P m.gs m.rest _).le h9
   split
   ·rename_i h7
    rw [h7] at h8
    exact (askOn_ge _ _).le h8
   ·exact h8
  ·have h9:=run_ok (by assumption)
   exact (askOn_ge _ _).le h9
 ·exact askOn_ge _ _
theorem move_ge (P : Program) (m : Machine) : Mv m.world.drawn (move P m):=by
 unfold move
 repeat' first
  | trivial
  | exact Nat.le_refl _
  | exact ask_ge' P m
  | exact ask_ge' P { m with rest:={ m.rest with slice:=none } }
  | split
theorem step_ge (P : Program) (m : Machine) : Ss m.world.drawn (step P m):=by
 unfold step stepT
 have h:=move_ge P m
 generalize move P m = v at h ⊢
 cases v with
 | goroutine m2 i=>exact (runT_ge P m2 i true).le h
 | machine s ops=>exact h
theorem runN_ge (P : Program) : ∀ (n : Nat) (m m' : Machine),runN P n m = .next m' -> m.world.drawn <= m'.world.drawn
 | 0,m,m',h=>by
  cases h; exact Nat.le_refl _
 | n + 1,m,m',h=>by
  unfold runN at h
  have h2:=step_ge P m
  split at h
  ·rename_i m2 h3
   rw [h3] at h2
   exact Nat.le_trans h2 (runN_ge P n _ m' h)
  ·rename_i h3
   rw [h] at h2
   exact h2
theorem calls_ge {P : Program} {f : FuncId} {args : Array Value} {w : World} {R : Ending -> World -> Prop} (h : Calls P f args w R) (hr : ∀ e w',R e w' -> ∃ v,e = .returned v) : Calls P f args w fun e w'=>R e w' /\ w.drawn <= w'.drawn:=by
 intro cs
 obtain ⟨e,w',fr,h1,h2,h3,h4⟩:=h cs
 refine ⟨e,w',fr,⟨h1,?_⟩,h2,h3,h4⟩
 obtain ⟨v,rfl⟩:=hr e w' h1
 obtain ⟨n,hn⟩:=h2
 exact runN_ge P n _ _ hn
end Mo
end Go.Proofs.YtjbmjnbkibmkpaaGreatDoor


namespace Go.Proofs
open Go.Shelf
def Tryz.sortMods_ren : Go.Shelf.Ren:=⟨fun | 6=>82 | 15=>129 | 14=>128 | 28=>182 | 29=>183 | 20=>174 | 21=>175 | 22=>176 | 23=>177 | 24=>178 | 25=>179 | 26=>180 | 27=>181 | 46=>229 | 47=>230 | 48=>231 | 49=>232 | 50=>233 | 57=>272 | n=>n,fun | 22=>23 | 24=>47 | 25=>118 | 3=>3 | 39=>167 | 0=>0 | 53=>221 | 55=>223 | 4=>4 | 46=>214 | 45=>213 | 50=>218 | 5=>5 | 9=>9 | 66=>249 | 70=>253 | 76=>277 | 77=>278 | n=>n,fun | n=>n⟩
theorem Tryz.sortMods : Go.Proofs.SlLaysF0.n6 Tryz.prog Tryz.sortMods_ren:={
 mixed:=by kernel_rfl
 f6:=⟨Tryz.f82.name,by decide,Tryz.func82.trans (congrArg some (by kernel_rfl))⟩
 f14:=⟨Tryz.f128.name,by decide,Tryz.func128.trans (congrArg some (by kernel_rfl))⟩
 f15:=Tryz.func129.trans (congrArg some (by kernel_rfl))
 f20:=⟨Tryz.f174.name,by decide,Tryz.func174.trans (congrArg some (by kernel_rfl))⟩
 f21:=⟨Tryz.f175.name,by decide,Tryz.func175.trans (congrArg some (by kernel_rfl))⟩
 f22:=⟨Tryz.f176.name,by decide,Tryz.func176.trans (congrArg some (by kernel_rfl))⟩
 f23:=⟨Tryz.f177.name,by decide,Tryz.func177.trans (congrArg some (by kernel_rfl))⟩
 f24:=⟨Tryz.f178.name,by decide,Tryz.func178.trans (congrArg some (by kernel_rfl))⟩
 f25:=⟨Tryz.f179.name,by decide,Tryz.func179.trans (congrArg some (by kernel_rfl))⟩
 f26:=⟨Tryz.f180.name,by decide,Tryz.func180.trans (congrArg some (by kernel_rfl))⟩
 f27:=⟨Tryz.f181.name,by decide,Tryz.func181.trans (congrArg some (by kernel_rfl))⟩
 f28:=Tryz.func182.trans (congrArg some (by kernel_rfl))
 f29:=Tryz.func183.trans (congrArg some (by kernel_rfl))
 f46:=⟨Tryz.f229.name,by decide,Tryz.func229.trans (congrArg some (by kernel_rfl))⟩
 f47:=Tryz.func230.trans (congrArg some (by kernel_rfl))
 f48:=Tryz.func231.trans (congrArg some (by kernel_rfl))
 f49:=⟨Tryz.f232.name,by decide,Tryz.func232.trans (congrArg some (by kernel_rfl))⟩
 f50:=⟨Tryz.f233.name,by decide,Tryz.func233.trans (congrArg some (by kernel_rfl))⟩
 f57:=⟨Tryz.f272.name,by decide,Tryz.func272.trans (congrArg some (by kernel_rfl))⟩
 t0:=Tryz.underlying0
 a0:=Tryz.isAgg0
 z0:=Tryz.sizeOf0
 v0:=Tryz.zeroValue0
 t3:=Tryz.underlying3
 a3:=Tryz.isAgg3
 z3:=Tryz.sizeOf3
 v3:=Tryz.zeroValue3
 t4:=Tryz.underlying4
 a4:=Tryz.isAgg4
 z4:=Tryz.sizeOf4
 v4:=Tryz.zeroValue4
 t5:=Tryz.underlying5
 a5:=Tryz.isAgg5
 z5:=Tryz.sizeOf5
 v5:=Tryz.zeroValue5
 t9:=Tryz.underlying9
 a9:=Tryz.isAgg9
 z9:=Tryz.sizeOf9
 v9:=Tryz.zeroValue9
 t22:=Tryz.underlying23
 a22:=Tryz.isAgg23
 z22:=Tryz.sizeOf23
 v22:=Tryz.zeroValue23
 t25:=Tryz.underlying118
 a25:=Tryz.isAgg118
 z25:=Tryz.sizeOf118
 v25:=Tryz.zeroValue118
 t39:=Tryz.underlying167
 a39:=Tryz.isAgg167
 z39:=Tryz.sizeOf167
 v39:=Tryz.zeroValue167
 t45:=Tryz.underlying213
 a45:=Tryz.isAgg213
 z45:=Tryz.sizeOf213
 v45:=Tryz.zeroValue213
 t46:=Tryz.underlying214
 a46:=Tryz.isAgg214
 z46:=Tryz.sizeOf214
 v46:=Tryz.zeroValue214
 t50:=Tryz.underlying218
 a50:=Tryz.isAgg218
 z50:=Tryz.sizeOf218
 v50:=Tryz.zeroValue218
 t53:=Tryz.underlying221
 a53:=Tryz.isAgg221
 z53:=Tryz.sizeOf221
 v53:=Tryz.zeroValue221
 t55:=Tryz.underlying223
 a55:=Tryz.isAgg223
 z55:=Tryz.sizeOf223
 v55:=Tryz.zeroValue223
 t66:=Tryz.underlying249
 a66:=Tryz.isAgg249
 z66:=Tryz.sizeOf249
 v66:=Tryz.zeroValue249
 t70:=Tryz.underlying253
 a70:=Tryz.isAgg253
 z70:=Tryz.sizeOf253
 v70:=Tryz.zeroValue253
 t76:=Tryz.underlying277
 a76:=Tryz.isAgg277
 z76:=Tryz.sizeOf277
 v76:=Tryz.zeroValue277
 t77:=Tryz.underlying278
 a77:=Tryz.isAgg278
 z77:=Tryz.sizeOf278
 v77:=Tryz.zeroValue278 }
end Go.Proofs


namespace Go.Proofs.YtjbmjnbkibmkpaaGreatDoor
open Go.RowKit
namespace Ve
theorem grow_of_be {W w' : World} (h : Below W.heap.size W w') (hd : W.drawn <= w'.drawn) : ∃ q os',w' = Go.Sort.grow (W.drewN q) os':=by
 refine ⟨w'.drawn - W.drawn,w'.heap.extract W.heap.size w'.heap.size,?_⟩
 have hh : w'.heap = W.heap ++ w'.heap.extract W.heap.size w'.heap.size:=by
  apply Array.ext_getElem?
  intro i
  by_cases hi : i < W.heap.size
  ·rw [Array.getElem?_append_left hi,h.block i hi]
  ·rw [Array.getElem?_append_right (by omega),Array.getElem?_extract]
   have hs:=h.size
   by_cases h2 : i < w'.heap.size
   ·rw [if_pos (by omega)]
    congr 1
    omega
   ·rw [if_neg (by omega)]
    exact Array.getElem?_eq_none (by omega)
 obtain ⟨a,b,c,d,e⟩:=w'
 obtain ⟨a',b',c',d',e'⟩:=W
 have h1:=h.os
 have h2:=h.tape
 have h3:=h.output
 simp only at h1 h2 h3 hh hd
 subst h1 h2 h3
 simp only [Go.Sort.grow,World.drewN,World.mk.injEq,true_and,and_true]
 exact ⟨hh,by omega⟩
theorem nf_any (a b : Bm) (A : Nat -> Addr) (ml : Int) (w : World) (ha : a.2.size < 999999) (hb : b.2.size < 999999) (S : Te w A ml) :
  Calls Tryz.prog 83 #[.agg #[.string a.1,.string a.2],.agg #[.string b.1,.string b.2]] w fun e w'=>e = .returned (.int .i64 (nfC a b)) /\ Below w.heap.size w w':=by
 obtain ⟨p,v⟩:=a
 obtain ⟨q,u⟩:=b
 simp only at ha hb
 have HB0:=hid (((Below.refl w.heap.size w).alloc (Nat.le_refl _) (.cells #[.string p,.string v] 47)).alloc (by simp) (.cells #[.string q,.string u] 47))
 have HS:=hid S
 by_cases h : p = q
 ·subst h
  have he:=str_refl p
  have HX:=hid (show nfC (p,v) (p,u) = if mAhead (p,u) (p,v) then -1 else if mAhead (p,v) (p,u) then 1 else 0 by unfold nfC; rw [if_pos rfl])
  have H1:=hid (fun W (SW : Te W A ml)=>ahead_any p u p v A ml W hb ha SW)
  have H2:=hid (fun W (SW : Te W A ml)=>ahead_any p v p u A ml W ha hb SW)
  have e1 : aheadB p.data.toList u.data.toList p.data.toList v.data.toList = mAhead (p,u) (p,v):=rfl
  have e2 : aheadB p.data.toList v.data.toList p.data.toList u.data.toList = mAhead (p,v) (p,u):=rfl
  rw [e1] at H1
  rw [e2] at H2
  generalize nfC (p,v) (p,u) = r at *
  clear S e1 e2
  have HD:=hid (fun W (hW : Below ((w.alloc (.cells #[.string p,.string v] 47)).alloc (.cells #[.string p,.string u] 47)).heap.size ((w.alloc (.cells #[.string p,.string v] 47)).alloc (.cells #[.string p,.string u] 47)) W)=>
   show W.cell? ⟨w.heap.size,0,none⟩ = some (.string p) /\ W.cell? ⟨w.heap.size,1,none⟩ = some (.string v) /\ W.cell? ⟨w.heap.size + 1,0,none⟩ = some (.string p) /\ W.cell? ⟨w.heap.size + 1,1,none⟩ = some (.string u) from ⟨cell_below hW (by simp),cell_below hW (by simp),cell_below hW (by simp),cell_below hW (by simp)⟩)
  cases h1 : mAhead (p,u) (p,v)
  ·rw [h1] at H1 HX
   cases h2 : mAhead (p,v) (p,u)
   ·rw [h2] at H2 HX
    clear h1 h2
    go_enter Tryz.func83,Tryz.ntmps83
    go_wp2_with fail
    refine (H1.out _ (HS.out.below HB0.out)).mono ?_
    rintro e w1 ⟨rfl,hb1⟩
    obtain ⟨d0,d1,d2,d3⟩:=HD.out w1 hb1
    have HB1:=hid (HB0.out.trans (hb1.mono HB0.out.size))
    clear hb1
    go_wp2_with fail
    refine (H2.out _ (HS.out.below HB1.out)).mono ?_
    rintro e w2 ⟨rfl,hb2⟩
    have HB2:=hid (HB1.out.trans (hb2.mono HB1.out.size))
    clear hb2
    go_wp2_with fail
    go_ret
    exact ⟨by rw [HX.out]; rfl,HB2.out⟩
   ·rw [h2] at H2 HX
    clear h1 h2
    go_enter Tryz.func83,Tryz.ntmps83
    go_wp2_with fail
    refine (H1.out _ (HS.out.below HB0.out)).mono ?_
    rintro e w1 ⟨rfl,hb1⟩
    obtain ⟨d0,d1,d2,d3⟩:=HD.out w1 hb1
    have HB1:=hid (HB0.out.trans (hb1.mono HB0.out.size))
    clear hb1
    go_wp2_with fail
    refine (H2.out _ (HS.out.below HB1.out)).mono ?_
    rintro e w2 ⟨rfl,hb2⟩
    have HB2:=hid (HB1.out.trans (hb2.mono HB1.out.size))
    clear hb2
    go_wp2_with fail
    go_ret
    exact ⟨by rw [HX.out]; rfl,HB2.out⟩
  ·rw [h1] at H1 HX
   clear h1
   go_enter Tryz.func83,Tryz.ntmps83
   go_wp2_with fail
   refine (H1.out _ (HS.out.below HB0.out)).mono ?_
   rintro e w1 ⟨rfl,hb1⟩
   have HB1:=hid (HB0.out.trans (hb1.mono HB0.out.size))
   clear hb1
   go_wp2_with fail
   go_ret
   exact ⟨by rw [HX.out]; rfl,HB1.out⟩
 ·have he:=str_ne h
  have HX:=hid (show nfC (p,v) (q,u) = Lib.compareBytes p.data.toList q.data.toList by unfold nfC; rw [if_neg h])
  have HC:=hid (fun W=>Tryz.strings_Compare p q W)
  rw [HX.out]
  clear S h
  go_enter Tryz.func83,Tryz.ntmps83
  go_wp2_with fail
  refine (HC.out _).mono ?_
  rintro e w1 ⟨rfl,rfl⟩
  go_wp2_with fail
  go_ret
  exact ⟨rfl,HB0.out⟩
theorem nf_bw (a b : Bm) (A : Nat -> Addr) (ml : Int) (w : World) (ha : a.2.size < 999999) (hb : b.2.size < 999999) (S : Te w A ml) :
  Calls Tryz.prog 83 #[.agg #[.string a.1,.string a.2],.agg #[.string b.1,.string b.2]] w fun e w'=>e = .returned (.int .i64 (nfC a b)) /\ ∃ q os',w' = Go.Sort.grow (w.drewN q) os':=
 (Mo.calls_ge (nf_any a b A ml w ha hb S) (fun _ _ h=>⟨_,h.1⟩)).mono fun _ _ ⟨⟨h1,h2⟩,h3⟩=>⟨h1,grow_of_be h2 h3⟩
abbrev Mq:={ m : Bm // Rt m }
def encJ (m : Mq) : List Value:=mcells m.1
def cfM (a b : Mq) : Int:=nfC a.1 b.1
theorem swoM : Go.Sort.SWO (ltOf cfM) where
 irrefl x:=by
  unfold ltOf cfM
  simpa using Int.not_lt.1 (nf_irr x.2)
 trans x y z h1 h2:=by
  unfold ltOf cfM at *
  simp only [decide_eq_true_eq] at *
  exact nf_trans x.2 y.2 z.2 h1 h2
 ntrans x y z h1 h2:=by
  unfold ltOf cfM at *
  simp only [decide_eq_false_iff_not] at *
  exact nfW_not z.2 x.2 (nfW_trans z.2 y.2 x.2 (nf_not z.2 y.2 h2) (nf_not y.2 x.2 h1))
theorem encJ_len (r : Mq) : (encJ r).length = 2:=rfl
theorem sorted_belowM {w : World} {g : Nat} {α : Type} [Inhabited α] (enc : α -> List Value) (m : Nat) (dk : Array α) (os : Array Obj) (B : Nat) (hB : B <= g) (hz : B <= w.heap.size) : Below B w (sortWorldK enc 2 w g 0 m dk os):=by
 refine ⟨rfl,rfl,rfl,size_sortWorldK_c enc 2 w g 0 m dk os,fun k hk=>?_⟩
 unfold sortWorldK
 rw [Go.Sort.heap_grow_old _ _ (by rw [Go.Sort.size_putRowK]; show k < w.heap.size; omega)]
 unfold Go.Sort.putRowK Go.Sort.putRow
 show (Array.modify (Go.Sort.ahead w m).heap g _)[k]? = _
 rw [Array.getElem?_modify,if_neg (by omega)]
 rfl
theorem cmpM {w0 w : World} {g : Nat} {D : List Bm} (h : Mw w0 w g D) (A : Nat -> Addr) (ml : Int) (S : Te w0 A ml) (n : Nat) [Inhabited Mq] : CmpLays Tryz.prog 83 #[] encJ 2 cfM g 0 n w:=by
 intro m os dk hs x y
 have hb : Below w0.heap.size w0 (sortWorldK encJ 2 w g 0 m dk os):=h.bl.trans (sorted_belowM encJ m dk os w0.heap.size h.lo h.bl.size)
 have h:=nf_bw x.1 y.1 A ml (sortWorldK encJ 2 w g 0 m dk os) x.2.v y.2.v (S.below hb)
 have e : (#[.agg (encJ x).toArray,.agg (encJ y).toArray] ++ #[] : Array Value) = #[.agg #[.string x.1.1,.string x.1.2],.agg #[.string y.1.1,.string y.1.2]]:=by simp [encJ,mcells]
 rw [e]
 exact h
theorem holds_mw {w0 w : World} {g : Nat} {D : List Bm} (h : Mw w0 w g D) [Inhabited Mq] (d : Array Mq) (hd : d.toList.map (·.1) = D) : Go.Sort.HoldsK encJ 2 w g 0 d:=by
 have hl : d.size = D.length:=by rw [<- hd]; simp
 intro t ht
 rw [Go.Sort.size_flatK] at ht
 rw [Go.Sort.get_flatK _ _ _ _ ht]
 have hi : t / 2 < d.size:=by omega
 have e : d[t / 2]!.1 = D[t / 2]'(by omega):=by
  rw [getElem!_pos d (t / 2) hi]
  simp [<- hd]
 refine ⟨?_,by rw [Nat.zero_add]; exact h.fz t⟩
 show w.cell? ⟨g,0 + t,none⟩ = some ((mcells d[t / 2]!.1)[t % 2]!)
 rw [e,Nat.zero_add]
 have hm : t % 2 < 2:=Nat.mod_lt _ (by omega)
 have hdm:=Nat.div_add_mod t 2
 match hc : t % 2,hm with
 | 0,_=>have:=h.c0 (t / 2) (by omega); rw [show t / 2 * 2 = t by omega] at this; exact this
 | 1,_=>have:=h.c1 (t / 2) (by omega); rw [show t / 2 * 2 + 1 = t by omega] at this; exact this
theorem lift_mq : ∀ D : List Bm,(∀ r,r ∈ D -> Rt r) -> ∃ l : List Mq,l.map (·.1) = D
 | [],_=>⟨[],rfl⟩
 | r :: R,h=>by
  obtain ⟨l,e⟩:=lift_mq R (fun q hq=>h q (List.mem_cons_of_mem _ hq))
  exact ⟨⟨r,h r (by simp)⟩ :: l,by simp [e]⟩
theorem sort_mw (w0 w : World) (g cap : Nat) (D : List Bm) (hD : D ≠ []) (h12 : D.length <= 1000000) (A : Nat -> Addr) (ml : Int) (S : Te w0 A ml) (hr : ∀ r,r ∈ D -> Rt r) (h : Mw w0 w g D) :
  Calls Tryz.prog 82 #[.slice (some ⟨g,0,none⟩) D.length cap,.func (.func 83) #[] #[]] w fun e w'=>e = .returned (.tuple #[]) /\ ∃ D',D'.Perm D /\ srtM D' /\ Mw w0 w' g D':=by
 obtain ⟨r0,R,rfl⟩ : ∃ r R,D = r :: R:=by
  cases D with
  | nil=>exact absurd rfl hD
  | cons r R=>exact ⟨r,R,rfl⟩
 letI : Inhabited Mq:=⟨⟨r0,hr r0 (by simp)⟩⟩
 obtain ⟨d,hd⟩ : ∃ d : Array Mq,d.toList.map (·.1) = r0 :: R:=by
  obtain ⟨l,e⟩:=lift_mq (r0 :: R) hr
  exact ⟨l.toArray,by simpa using e⟩
 have hl : d.size = (r0 :: R).length:=by rw [<- hd]; simp
 have hH:=holds_mw h d hd
 have eg : ∀ args w,(callFunc 83 args).run Tryz.prog w = .ok (.enter 83 args) w:=enters_of Tryz.func83 (by kernel_rfl) rfl
 have hcon:=AnyQ.slices_SortFunc Tryz.sortMods 2 Tryz.isAgg47 Tryz.sizeOf47 encJ encJ_len (fun x v hv=>by
  simp only [encJ,mcells,List.mem_cons,List.not_mem_nil,or_false] at hv
  rcases hv with rfl | rfl <;> rfl) cfM swoM 83 #[] g 0 cap d w eg (cmpM h A ml S d.size) hH h.hi (by omega)
 rw [hl] at hcon
 refine Calls.mono hcon ?_
 rintro e w' ⟨he,d',n,os,hp,hs,rfl⟩
 obtain ⟨hsz,_,hperm⟩:=hp
 have hsz' : d'.size = (r0 :: R).length:=hsz.trans hl
 have hHd:=holdsK_sortWorldK_c encJ 2 w g 0 d d' n os hH h.hi hsz
 have hpm : d'.toList.Perm d.toList:=by
  have e1 : d'.extract 0 (r0 :: R).length = d':=by rw [<- hsz']; simp
  have e2 : d.extract 0 (r0 :: R).length = d:=by rw [<- hl]; simp
  rw [e1,e2] at hperm
  exact hperm
 have hg : ∀ j (hj : j < (d'.toList.map (·.1)).length),d'[j]! = d'[j]'(by simpa using hj):=fun j hj=>getElem!_pos d' j (by simpa using hj)
 have cell : ∀ j (hj : j < (d'.toList.map (·.1)).length) c (hc : c < 2),(sortWorldK encJ 2 w g 0 n d' os).cell? ⟨g,j * 2 + c,none⟩ = some ((mcells (d'.toList.map (·.1))[j])[c]!):=by
  intro j hj c hc
  have h1:=(hHd.cell (i:=j) (c:=c) (by simpa using hj) hc).1
  rw [Nat.zero_add,hg j hj] at h1
  rw [h1]
  simp [encJ]
 refine ⟨he,d'.toList.map (·.1),?_,?_,?_⟩
 ·rw [<- hd]; exact hpm.map _
 ·unfold srtM
  rw [List.pairwise_iff_getElem]
  intro i j hi hj hij
  have h1:=hs i j (Nat.zero_le _) hij (by rw [<- hsz']; simpa using hj)
  rw [hg i hi,hg j hj] at h1
  unfold ltOf cfM at h1
  simp only [decide_eq_false_iff_not] at h1
  simp only [List.getElem_map,Array.getElem_toList]
  exact nf_not (d'[i]'(by simpa using hi)).2 (d'[j]'(by simpa using hj)).2 h1
 ·refine ⟨h.bl.trans ((sorted_belowM encJ n d' os w0.heap.size h.lo h.bl.size)),h.lo,Nat.lt_of_lt_of_le h.hi (size_sortWorldK_c encJ 2 w g 0 n d' os),fun o=>?_,fun j hj=>?_,fun j hj=>?_⟩
  ·unfold sortWorldK
   rw [Go.Sort.frozen?_grow _ _ _ (by rw [Go.Sort.size_putRowK]; exact h.hi)]
   unfold Go.Sort.putRowK
   rw [Go.Sort.frozen?_putRow]
   exact h.fz o
  ·exact cell j hj 0 (by omega)
  ·exact cell j hj 1 (by omega)
end Ve
end Go.Proofs.YtjbmjnbkibmkpaaGreatDoor
