/-
  DnE DnF DnG
-/
import Derived.RangeFuncCalls
import Derived.Test.YtlcffhadobhfkaaGreatDoorMq3
import Derived.Test.YtlcffhadobhfkaaGreatDoorMq2
import Derived.Test.YtlcffhadobhfkaaGreatDoorMq5
import Derived.Test.YtlcffhadobhfkaaGreatDoorMq6
import Derived.Test.YtlcffhadobhfkaaGreatDoorMq9
import Derived.Test.YtlcffhadobhfkaaGreatDoorMq11
import Derived.Test.YtlcffhadobhfkaaGreatDoorMq18
import Derived.Test.YtlcffhadobhfkaaGreatDoorMq19
import Derived.Test.YtlcffhadobhfkaaGreatDoorMq20
import Derived.Test.YtlcffhadobhfkaaGreatDoorMq23
import Derived.Test.YtlcffhadobhfkaaGreatDoorMq16
import Derived.Test.YtlcffhadobhfkaaGreatDoorMq22
import Derived.Test.YtlcffhadobhfkaaGreatDoorMq39
import Derived.Test.YtlcffhadobhfkaaGreatDoorMq43
import Derived.Test.YtlcffhadobhfkaaGreatDoorMq45
import Derived.Test.YtlcffhadobhfkaaGreatDoorMq15
import Derived.Test.YtlcffhadobhfkaaGreatDoorMq34
import Derived.Test.YtlcffhadobhfkaaGreatDoorMq48
import Derived.Test.YtlcffhadobhfkaaGreatDoorMq87
namespace Go.Proofs.YtlcffhadobhfkaaGreatDoor
open Go.RowKit Go.Shelf
namespace Ve
attribute [local go_sem] Oper.semAt_some
structure Kx (n1 : Nat) (E : Nat -> Prop) (W W' : World) : Prop where
  os : W'.os = W.os
  tape : W'.tape = W.tape
  output : W'.output = W.output
  size : W.heap.size <= W'.heap.size
  block : ∀ b,b < n1 -> ¬ E b -> W'.heap[b]? = W.heap[b]?
theorem Kx.refl (n1 : Nat) (E : Nat -> Prop) (W : World) : Kx n1 E W W:=⟨rfl,rfl,rfl,Nat.le_refl _,fun _ _ _=>rfl⟩
theorem Kx.trans {n1 : Nat} {E : Nat -> Prop} {A B C : World} (h : Kx n1 E A B) (k : Kx n1 E B C) : Kx n1 E A C:=
  ⟨k.os.trans h.os,k.tape.trans h.tape,k.output.trans h.output,Nat.le_trans h.size k.size,fun b hb he=>(k.block b hb he).trans (h.block b hb he)⟩
theorem Kx.below {n1 : Nat} {E : Nat -> Prop} {W W' : World} (h : Below W.heap.size W W') (hn : n1 <= W.heap.size) : Kx n1 E W W':=
  ⟨h.os,h.tape,h.output,h.size,fun b hb _=>h.block b (Nat.lt_of_lt_of_le hb hn)⟩
theorem Kx.set {n1 g o : Nat} {E : Nat -> Prop} (W : World) (x : Value) (he : E g) : Kx n1 E W (W.setCell ⟨g,o,none⟩ x):=
  ⟨rfl,rfl,rfl,by simp [World.setCell],fun b _ hb=>Below.heap_setCell _ _ _ _ (fun e=>hb (by rw [e]; exact he))⟩
theorem Kx.grown {n1 : Nat} {E : Nat -> Prop} {W W' : World} {row : Option Nat} (h : W.grownBy W' row) (hn : n1 <= W.heap.size) (hr : ∀ r,row = some r -> n1 <= r) : Kx n1 E W W':=
  ⟨h.os,h.tape,h.output,h.size,fun b hb _=>h.block b (Nat.lt_of_lt_of_le hb hn) (fun e=>by have:=hr b e.symm; omega)⟩
theorem Kx.less {n1 n2 : Nat} {E E' : Nat -> Prop} {W W' : World} (h : Kx n1 E W W') (hn : n2 <= n1) (hE : ∀ b,b < n2 -> E b -> E' b) : Kx n2 E' W W':=
  ⟨h.os,h.tape,h.output,h.size,fun b hb he=>h.block b (Nat.lt_of_lt_of_le hb hn) (fun h2=>he (hE b hb h2))⟩
theorem Kx.put {n1 : Nat} {E : Nat -> Prop} (W : World) (l : Nat) (o' : Obj) (hl : n1 <= l) : Kx n1 E W (W.putObj l o'):=
  ⟨rfl,rfl,rfl,by simp,fun b hb _=>World.putObj_heap_other (by omega)⟩
theorem Kx.cell {n1 : Nat} {E : Nat -> Prop} {W W' : World} {a : Addr} {v : Value} (h : Kx n1 E W W') (hc : W.cell? a = some v) (hb : a.block < n1) (he : ¬ E a.block) : W'.cell? a = some v:=(World.cell?_of_block (h.block _ hb he)).trans hc
def ivD : Nat -> Value
  | 0=>.int .i64 (-1)
  | k + 1=>.int .i64 (k : Int)
theorem ivD_next (k : Nat) : Value.int .i64 ((k : Int) - 1) = ivD k:=by
  cases k with
  | zero=>rfl
  | succ k=>show Value.int .i64 (((k + 1 : Nat) : Int) - 1) = .int .i64 (k : Int); congr 1; omega
theorem ivD_start (n : Nat) : Value.int .i64 ((n : Int) - 1) = ivD n:=ivD_next n
abbrev Pl (vs : List Value) : Type:={ i : Nat // i < vs.length }
def encP (vs : List Value) (x : Pl vs) : Array Value:=#[.int .i64 (x.1 : Int),vs[x.1]'x.2]
set_option maxRecDepth 100000 in
set_option maxHeartbeats 4000000 in
theorem back1_in (F : Fence) (n : Nat) (hf : F.fn 188) (hro : F.round = none) (hn : 1 ≤ n) (l Bs n1 g c : Nat) (vs : List Value) (hreach : vs.length ≤ 1000000) (E : Nat → Prop) (hsl : ∀ x, x ∈ vs → ∃ a n c, x = .slice a n c) (J Jx : List (Pl vs) → World → Prop)
    (hY : ∀ pre x W,J pre W -> pre.length < vs.length -> YieldAt F (n - 1) Tryz.prog l (encP vs x) W fun e W'=>
      (e = .returned (.bool true) /\ J (pre ++ [x]) W' /\ Kx n1 E W W') \/ (e = .returned (.bool false) /\ Jx (pre ++ [x]) W'))
    (W : World) (hBs : W.cell? ⟨Bs,0,none⟩ = some (.slice (some ⟨g,0,none⟩) vs.length c)) (hg : ∀ j (h : j < vs.length),W.cell? ⟨g,j,none⟩ = some vs[j]) (hb1 : Bs < n1) (hb2 : ¬ E Bs) (hg1 : g < n1) (hg2 : ¬ E g) (h0 : J [] W) :
    CallsIn F n Tryz.prog 188 #[.func (.yield l) #[] #[],.pointer (some ⟨Bs,0,none⟩)] W fun e W'=>(∃ v,e = .returned v) /\
      ((∃ ys : List (Pl vs),(∀ x : Pl vs,x ∈ ys) /\ J ys W') \/ (∃ pre,True /\ Jx pre W')):=by
  refine callsIn_of_wp Tryz.func188 rfl hf ?_ hro
  simp only [Tryz.ntmps188,List.size_toArray,List.length_cons,List.length_nil,Nat.reduceAdd,Nat.reduceSub,Array.replicate_succ,Array.replicate_zero,List.push_toArray,List.append_toArray,List.nil_append,List.cons_append]
  have hst : wrap64 ((vs.length : Int) - 1) = (vs.length : Int) - 1:=IntWalk.wrap64_in _ (by omega)
  have HST:=hid (ivD_start vs.length)
  gi_wp2
  gi_loopw [3] (fun iv wr=>∃ (k : Nat) (pre : List (Pl vs)),k <= vs.length /\ iv = ivD k /\ Hid (pre.length + k = vs.length /\ (∀ x : Pl vs,k <= x.1 -> x ∈ pre) /\ J pre wr /\ Kx n1 E W wr))
    (fun iv _=>(intOf iv + 1).toNat)
  case atStart=>exact ⟨vs.length,[],Nat.le_refl _,by rw [<- HST.out],hid ⟨by simp,fun x h=>absurd x.2 (by omega),h0,Kx.refl _ _ _⟩⟩
  case round=>
    obtain ⟨k,pre,hk,rfl,HJ⟩:=hrel
    cases k with
    | zero=>
      show Code.wpIn _ _ _ _ _ _ _
      unfold ivD
      gi_wp2
      go_end0
      exact ⟨⟨_,rfl⟩,.inl ⟨pre,fun x=>HJ.out.2.1 x (Nat.zero_le _),HJ.out.2.2.1⟩⟩
    | succ k=>
      have hkl : k < vs.length:=by omega
      obtain ⟨fn,tmps,assign,body,hy,hR⟩:=hY pre ⟨k,hkl⟩ wr HJ.out.2.2.1 (by have:=HJ.out.1; omega)
      have c1:=HJ.out.2.2.2.cell hBs hb1 hb2
      have c2:=HJ.out.2.2.2.cell (hg k hkl) hg1 hg2
      obtain ⟨sa,sn,sc,hsx⟩:=hsl vs[k] (List.getElem_mem hkl)
      unfold encP at hy
      simp only [hsx] at hy c2
      have hkI : (k : Int) < (vs.length : Int):=by omega
      have hk0 : (0 : Int) <= (k : Int):=by omega
      have hw1 : wrap64 ((k : Int) - 1) = (k : Int) - 1:=IntWalk.wrap64_in _ (by omega)
      have HNX:=hid (ivD_next k)
      unfold ivD
      gi_wp2
      refine hR.mono ?_
      rintro e W3 (⟨rfl,hJ3,hk3⟩ | ⟨rfl,hJx3⟩)
      · gi_wp2
        go_roundw
        case rel=>exact ⟨k,pre ++ [⟨k,hkl⟩],by omega,HNX.out,hid ⟨by have:=HJ.out.1; simp; omega,fun x hx=>by
          rcases Nat.lt_or_ge k x.1 with h | h
          · exact List.mem_append_left _ (HJ.out.2.1 x h)
          · have : x = ⟨k,hkl⟩:=Subtype.ext (by have h1 : k <= x.1:=hx; show x.1 = k; omega)
            rw [this]; simp,hJ3,HJ.out.2.2.2.trans hk3⟩⟩
        case measure=>first | (simp [intOf]; done) | (simp [intOf]; omega)
      · gi_wp2
        refine bodyPost_ret (results_none rfl _ _ _) rfl ?_
        exact ⟨⟨_,rfl⟩,.inr ⟨_,trivial,hJx3⟩⟩
set_option maxHeartbeats 1000000 in
theorem back_any (a : Option Addr) (len cap : Nat) (w : World) :
    Calls Tryz.prog 146 #[.slice a len cap] w fun e w'=>e = .returned (.func (.func 188) #[] #[.pointer (some ⟨w.heap.size,0,none⟩)]) /\ w' = w.alloc (.cells #[.slice a len cap] 120):=by
  go_enter Tryz.func146,Tryz.ntmps146
  go_wp2_with fail
  go_ret
  exact ⟨rfl,rfl⟩
structure Spd (req : Bm -> List Bm) (caps U : List Bm) (NV : List (List Nat)) (O O' : List Bool) (ch : Bool) (D : Nat -> Prop) : Prop where
  sd : Sd req caps U O'
  le : unm O' <= unm O
  lt : ch = true -> unm O' < unm O
  qt : ch = false -> O' = O /\ ∀ i,D i -> Qt NV O i
theorem Spd.start {req : Bm -> List Bm} {caps U : List Bm} {NV : List (List Nat)} {O : List Bool} (S : Sd req caps U O) : Spd req caps U NV O O false (fun _=>False):=
  ⟨S,Nat.le_refl _,fun h=>(by cases h),fun _=>⟨rfl,fun _ h=>h.elim⟩⟩
theorem Spd.more {req : Bm -> List Bm} {caps U : List Bm} {NV : List (List Nat)} {O O' : List Bool} {ch : Bool} {D D' : Nat -> Prop} (h : Spd req caps U NV O O' ch D) (N : Nd req U NV) {i : Nat} (hi : i < U.length) (hi' : i < NV.length) (hO : i < O'.length) (h0 : O'[i] = false) (ha : anyO O' NV[i] = true) : Spd req caps U NV O (O'.set i true) true D':=
  ⟨h.sd.set N hi hi' ha,by have:=unm_set _ _ hO h0; have:=h.le; omega,fun _=>by have:=unm_set _ _ hO h0; have:=h.le; omega,fun e=>(by cases e)⟩
theorem Spd.skip {req : Bm -> List Bm} {caps U : List Bm} {NV : List (List Nat)} {O O' : List Bool} {ch : Bool} {D D' : Nat -> Prop} (h : Spd req caps U NV O O' ch D) {i : Nat} (hD : ∀ j,D' j -> D j \/ j = i) (hq : Qt NV O' i) : Spd req caps U NV O O' ch D':=
  ⟨h.sd,h.le,h.lt,fun e=>⟨(h.qt e).1,fun j hj=>by
    rcases hD j hj with h1 | rfl
    · exact (h.qt e).2 j h1
    · have:=(h.qt e).1
      rw [this] at hq; exact hq⟩⟩
theorem Spd.wide {req : Bm -> List Bm} {caps U : List Bm} {NV : List (List Nat)} {O O' : List Bool} {ch : Bool} {D D' : Nat -> Prop} (h : Spd req caps U NV O O' ch D) (hD : ∀ j,D' j -> D j) : Spd req caps U NV O O' ch D':=
  ⟨h.sd,h.le,h.lt,fun e=>⟨(h.qt e).1,fun j hj=>(h.qt e).2 j (hD j hj)⟩⟩
attribute [local go_sem] Oper.semAt_some
theorem IaAt.kx {W W' : World} {n1 : Nat} {E : Nat -> Prop} {v : Value} {P : List Nat} (h : IaAt W v P) (k : Kx n1 E W W') (hn : W.heap.size <= n1) (hE : ∀ b,E b -> b < W.heap.size -> ∃ O : List Bool,W.heap[b]? = some (.cells (bwc O) 4 (0,0))) : IaAt W' v P:=by
  obtain ⟨a,c,rfl,h1⟩:=h
  refine ⟨a,c,rfl,fun hP=>?_⟩
  obtain ⟨b,o,rfl,h2⟩:=h1 hP
  refine ⟨b,o,rfl,fun j hj=>?_⟩
  have h3:=h2 j hj
  have hlt:=lt_of_cell h3
  refine k.cell h3 (Nat.lt_of_lt_of_le hlt hn) (fun e=>?_)
  obtain ⟨O,hO⟩:=hE b e hlt
  rw [Lib.cell_of_heap hO] at h3
  have h4 : (O.map Value.bool)[o + j]? = some (.int .i64 (P[j] : Int)):=by
    unfold bwc at h3
    rw [List.getElem?_toArray] at h3
    exact h3
  obtain ⟨x,hx,hx2⟩:=List.mem_map.1 (List.mem_of_getElem? h4)
  cases hx2
structure Sr (W0 W : World) (mb b5 : Nat) (O' : List Bool) (ch : Bool) : Prop where
  kx : Kx W0.heap.size (fun b=>b = mb \/ b = b5) W0 W
  mr : W.heap[mb]? = some (.cells (bwc O') 4 (0,0))
  bx : Boxed W b5 4 (.bool ch)
theorem Sr.own {W0 : World} {mb b5 : Nat} {β : Type} (hm : mb < W0.heap.size) (h5 : b5 < W0.heap.size) (C : β -> List Bool -> Bool -> Prop) : OwnFrom W0.heap.size (fun (s : β) W=>∃ O' ch,Sr W0 W mb b5 O' ch /\ C s O' ch):=by
  rintro s W W' row ⟨O',ch,h,hC⟩ hg hr
  have hn : W0.heap.size <= W.heap.size:=h.kx.size
  have k : Kx W0.heap.size (fun b=>b = mb \/ b = b5) W W':=Kx.grown hg hn (fun r e=>(hr r e).1)
  have hb : ∀ b,b < W0.heap.size -> W'.heap[b]? = W.heap[b]?:=fun b hb=>hg.block b (Nat.lt_of_lt_of_le hb hn) (fun e=>by have:=(hr b e.symm).1; omega)
  exact ⟨O',ch,⟨h.kx.trans k,(hb mb hm).trans h.mr,(hb b5 h5).trans h.bx⟩,hC⟩
theorem bool_box (W : World) (b5 : Nat) (T : TypeId) {x : Value} (v : Value) (h : W.heap[b5]? = some (.cells #[x] T (0,0))) : (W.setCell ⟨b5,0,none⟩ v).heap[b5]? = some (.cells #[v] T (0,0)):=by
  rw [set_block h]; rfl
set_option maxRecDepth 100000 in
set_option maxHeartbeats 8000000 in
theorem spread_any (req : Bm → List Bm) (caps U : List Bm) (NV : List (List Nat)) (vs : List Value) (O : List Bool) (g mb c1 c2 : Nat) (w : World) (hU : U.length ≤ 1000) (hNl : ∀ P, P ∈ NV → P.length ≤ 1000000) (N : Nd req U NV) (S : Sd req caps U O) (V : Nv w g vs NV) (hmb : w.heap[mb]? = some (.cells (bwc O) 4 (0, 0))) :
    Calls Tryz.prog 105 #[.slice (some ⟨g,0,none⟩) vs.length c1,.slice (some ⟨mb,0,none⟩) vs.length c2] w fun e w'=>∃ O' ch,e = .returned (.bool ch) /\ w'.heap[mb]? = some (.cells (bwc O') 4 (0,0)) /\ Kx w.heap.size (fun b=>b = mb) w w' /\ Spd req caps U NV O O' ch (fun i=>i < U.length):=by
  have eg : ∀ args w,(callFunc 145 args).run Tryz.prog w = .ok (.enter 145 args) w:=enters_of Tryz.func145 (by kernel_rfl) rfl
  have HVL:=hid (show vs.length = U.length from V.ln.trans N.ln)
  have hvn : vs.length <= 1000:=by have:=HVL.out; omega
  have hsf:=fun (a : Addr) (c : Array Value) (w : World)=>run_store Tryz.prog w a (.func (.func 145) #[] c) .plain rfl
  have hml:=lt_of_blk hmb
  have hgl:=lt_of_blk V.hp
  have hgm : g ≠ mb:=fun e=>by
    subst e
    have:=V.hp.symm.trans hmb
    simp at this
  have s1:=heap_new w (.cells #[.slice (some ⟨mb,0,none⟩) vs.length c2] 68)
  obtain ⟨w1,hw1⟩ : ∃ w1,w.alloc (.cells #[.slice (some ⟨mb,0,none⟩) vs.length c2] 68) = w1:=⟨_,rfl⟩
  have z1 : w1.heap.size = w.heap.size + 1:=by rw [<- hw1]; simp
  rw [hw1] at s1
  have s2:=heap_new w1 (.cells #[.bool false] 4)
  obtain ⟨w2,hw2⟩ : ∃ w2,w1.alloc (.cells #[.bool false] 4) = w2:=⟨_,rfl⟩
  have z2 : w2.heap.size = w.heap.size + 1 + 1:=by rw [<- hw2]; simp [z1]
  rw [hw2,z1] at s2
  have s1b:=heap_old w1 (.cells #[.bool false] 4) s1
  rw [hw2] at s1b
  have s3:=heap_new w2 (.cells #[.func (.func 145) #[] #[.pointer (some ⟨w.heap.size,0,none⟩)]] 156)
  obtain ⟨w3,hw3⟩ : ∃ w3,w2.alloc (.cells #[.func (.func 145) #[] #[.pointer (some ⟨w.heap.size,0,none⟩)]] 156) = w3:=⟨_,rfl⟩
  have z3 : w3.heap.size = w.heap.size + 1 + 1 + 1:=by rw [<- hw3]; simp [z2]
  rw [hw3,z2] at s3
  have s1c:=heap_old w2 (.cells #[.func (.func 145) #[] #[.pointer (some ⟨w.heap.size,0,none⟩)]] 156) s1b
  have s2b:=heap_old w2 (.cells #[.func (.func 145) #[] #[.pointer (some ⟨w.heap.size,0,none⟩)]] 156) s2
  rw [hw3] at s1c s2b
  have s4:=heap_new w3 (.cells #[.slice (some ⟨g,0,none⟩) vs.length c1] 120)
  obtain ⟨w4,hw4⟩ : ∃ w4,w3.alloc (.cells #[.slice (some ⟨g,0,none⟩) vs.length c1] 120) = w4:=⟨_,rfl⟩
  have z4 : w4.heap.size = w.heap.size + 1 + 1 + 1 + 1:=by rw [<- hw4]; simp [z3]
  rw [hw4,z3] at s4
  have t1:=heap_old w3 (.cells #[.slice (some ⟨g,0,none⟩) vs.length c1] 120) s1c
  have t2:=heap_old w3 (.cells #[.slice (some ⟨g,0,none⟩) vs.length c1] 120) s2b
  have t3:=heap_old w3 (.cells #[.slice (some ⟨g,0,none⟩) vs.length c1] 120) s3
  rw [hw4] at t1 t2 t3
  have hB4 : Below w.heap.size w w4:=by
    rw [<- hw4,<- hw3,<- hw2,<- hw1]
    exact ((((Below.refl w.heap.size w).alloc (Nat.le_refl _) _).alloc (by simp) _).alloc (by simp; omega) _).alloc (by simp; omega) _
  have hm4 : w4.heap[mb]? = some (.cells (bwc O) 4 (0,0)):=(hB4.block mb hml).trans hmb
  have hg4 : ∀ j (h : j < vs.length),w4.cell? ⟨g,j,none⟩ = some vs[j]:=fun j h=>by
    rw [hB4.cell hgl,Lib.cell_of_heap V.hp]; simp [h]
  have hia4 : ∀ j (h : j < vs.length) (h' : j < NV.length),IaAt w4 vs[j] NV[j]:=fun j h h'=>(V.ia j h h').below hB4
  have hE : ∀ b,(b = mb \/ b = w.heap.size + 1) -> b < w4.heap.size -> ∃ O : List Bool,w4.heap[b]? = some (.cells (bwc O) 4 (0,0)):=fun b hb _=>by
    rcases hb with rfl | rfl
    · exact ⟨O,hm4⟩
    · exact ⟨[false],t2⟩
  have HW1:=hid hw1
  have HW2:=hid hw2
  have HW3:=hid hw3
  have HW4:=hid hw4
  have Z4:=hid z4
  have S4:=hid s4
  have T1:=hid t1
  have T2:=hid t2
  have T3:=hid t3
  have B4:=hid hB4
  have M4:=hid hm4
  have G4:=hid hg4
  have A4:=hid hia4
  have EE:=hid hE
  clear hw1 hw2 hw3 hw4 z1 z2 z3 z4 s1 s2 s3 s4 s1b s1c s2b t1 t2 t3 hB4 hm4 hg4 hia4 hE
  refine (callsIn_wide (n:=8)).1 ?_
  refine callsIn_of_wp_marks Tryz.func105 rfl trivial ?_ rfl
  simp only [Tryz.ntmps105,List.size_toArray,List.length_cons,List.length_nil,Nat.reduceAdd,Nat.reduceSub,Array.replicate_succ,Array.replicate_zero,List.push_toArray,List.append_toArray,List.nil_append,List.cons_append]
  gi_wp2_with (refine ⟨trivial,?_⟩; gi_at_call 146; refine (callsIn_wide.2 (back_any (some ⟨g,0,none⟩) vs.length c1 _)).mono ?_; rintro e w' ⟨rfl,rfl⟩)
  rw [HW1.out,HW2.out,HW3.out,HW4.out]
  have z4:=Z4.out
  have s4:=S4.out
  have t1:=T1.out
  have t2:=T2.out
  have t3:=T3.out
  have hB4:=B4.out
  have hm4:=M4.out
  have hg4:=G4.out
  have hia4:=A4.out
  have hE:=EE.out
  clear hsf
  refine wpIn_rangeFunc_ownG rfl (by omega) (gf:=188) (lb:=#[.pointer (some ⟨w.heap.size + 1 + 1 + 1,0,none⟩)]) rfl trivial (enters_of Tryz.func188 (by kernel_rfl) rfl)
    (encs:=encP vs) (Kp:=Kx w4.heap.size (fun b=>b = mb \/ b = w.heap.size + 1)) (S:=fun ys=>∀ x : Pl vs,x ∈ ys) (Sp:=fun _=>True) (N:=vs.length) (w0:=w4)
    (fun l J Jx W hW _ _ hY h0=>back1_in Fence.wide _ trivial rfl (by omega) l (w.heap.size + 1 + 1 + 1) w4.heap.size g c1 vs (by omega) (fun b=>b = mb \/ b = w.heap.size + 1) V.sl J Jx hY W (cell_below hW (by rw [Lib.cell_of_heap s4]; rfl)) (fun j h=>cell_below hW (hg4 j h)) (by omega) (by omega) (by omega) (by omega) h0)
    (fun h k=>h.trans k) (fun W l o o' hl _ _ _=>Kx.put W l o' hl) (Below.refl _ _) (fun _=>rfl)
    (fun pre W=>∃ O' ch,Sr w4 W mb (w.heap.size + 1) O' ch /\ Spd req caps U NV O O' ch (fun i=>∃ x : Pl vs,x ∈ pre /\ x.1 = i))
    (fun _ _ _=>False)
    (Sr.own (by omega) (by omega) _)
    (fun _ _ _ _ _ hs _ _=>hs)
    ⟨O,false,⟨Kx.refl _ _ _,hm4,t2⟩,(Spd.start S).wide (fun j ⟨x,hx,_⟩=>by cases hx)⟩
    (fun x=>{ tmps:=#[.slice (some ⟨g,0,none⟩) vs.length c1,.slice (some ⟨mb,0,none⟩) vs.length c2,undef,.pointer (some ⟨w.heap.size,0,none⟩),.bool false,.pointer (some ⟨w.heap.size + 1,0,none⟩),.pointer (some ⟨w.heap.size + 1 + 1,0,none⟩),.int .i64 (x.1 : Int),vs[x.1]'x.2,.func (.func 145) #[] #[.pointer (some ⟨w.heap.size,0,none⟩)],.slice (some ⟨g,0,none⟩) vs.length c1,.func (.func 188) #[] #[.pointer (some ⟨w.heap.size + 1 + 1 + 1,0,none⟩)],.int .i64 (x.1 : Int),vs[x.1]'x.2,undef,undef,undef,undef,undef,undef,undef,undef,undef,undef,undef,undef,undef,undef],defers:=[] }) ?assign ?body ?done ?stop
  case assign=>
    intro l x W K hK
    unfold encP
    gi_wp2
    exact hK
  case body=>
    rintro l pre x W ⟨O',ch,hSr,hSp⟩ _
    obtain ⟨k,hk⟩:=x
    have hkU : k < U.length:=by have:=HVL.out; omega
    have hkN : k < NV.length:=by rw [N.ln]; exact hkU
    have HOl:=hid (show O'.length = U.length from hSp.sd.ln)
    have hkO : k < O'.length:=by have:=HOl.out; omega
    have hkI : (k : Int) < (vs.length : Int):=by omega
    have hk0 : (0 : Int) <= (k : Int):=by omega
    have cm:=hSr.kx.cell (a:=⟨w.heap.size,0,none⟩) (by rw [Lib.cell_of_heap t1]; rfl) (by show w.heap.size < w4.heap.size; omega) (by show ¬ (w.heap.size = mb \/ w.heap.size = w.heap.size + 1); omega)
    have cf:=hSr.kx.cell (a:=⟨w.heap.size + 1 + 1,0,none⟩) (by rw [Lib.cell_of_heap t3]; rfl) (by show w.heap.size + 1 + 1 < w4.heap.size; omega) (by show ¬ (w.heap.size + 1 + 1 = mb \/ w.heap.size + 1 + 1 = w.heap.size + 1); omega)
    have cx:=bwc_at hSr.mr hkO
    have cfz:=fun o=>Lib.frozen_of_heap hSr.mr o
    have bz:=hSr.bx.cell
    have bf:=hSr.bx.frozen
    have hia:=(hia4 k hk hkN).kx hSr.kx (Nat.le_refl _) hE
    have HHI:=hid (hasI_any 145 #[.pointer (some ⟨w.heap.size,0,none⟩)] (fun j=>O'[j]?.getD false) NV[k] vs[k] W eg (hNl _ (List.getElem_mem hkN)) hia (fun i hi W' hW=>by
      obtain ⟨hj,-⟩:=N.bk k hkU hkN _ (List.getElem_mem hi)
      exact spK_any O' _ mb w.heap.size vs.length c2 W' (by have:=HOl.out; omega) (by have:=HOl.out; have:=HVL.out; omega) (cell_below hW cm) ((hW.block _ (lt_of_blk hSr.mr)).trans hSr.mr)))
    have HAN:=hid (show NV[k].any (fun j=>O'[j]?.getD false) = anyO O' NV[k] from rfl)
    rw [HAN.out] at HHI
    have HSr:=hid hSr
    have HSp:=hid hSp
    have HD:=hid (show ∀ j,(∃ y : Pl vs,y ∈ pre ++ [(⟨k,hk⟩ : Pl vs)] /\ y.1 = j) -> (∃ y : Pl vs,y ∈ pre /\ y.1 = j) \/ j = k from fun j ⟨y,hy,e⟩=>by
      rcases List.mem_append.1 hy with h | h
      · exact Or.inl ⟨y,h,e⟩
      · have:=List.mem_singleton.1 h
        subst this; exact Or.inr e.symm)
    have hd : 1 <= 8 - 1 - 1:=by omega
    cases hok : O'[k] with
    | true=>
      rw [hok] at cx
      have HQ:=hid (show Qt NV O' k from fun h h' e=>by rw [hok] at e; cases e)
      clear hok hSr hSp
      gi_wp2
      refine ⟨trivial,?_⟩
      gi_wp2
      exact ⟨KeepsFrom.refl _ _,Kx.refl _ _ _,O',ch,HSr.out,HSp.out.skip HD.out HQ.out⟩
    | false=>
      rw [hok] at cx
      cases han : anyO O' NV[k] with
      | false=>
        rw [han] at HHI
        have HQ:=hid (show Qt NV O' k from fun h h' e=>han)
        clear hok hSr hSp han
        gi_wp2_with (refine ⟨trivial,?_⟩; gi_at_call 147; refine (CallsIn.inRound l (callsIn_wide.2 HHI.out)).mono ?_; rintro e W1 ⟨rfl,hb⟩)
        refine ⟨(KeepsFrom.of_grownBy (row:=none) ⟨hb.os,hb.tape,hb.output,hb.size,fun b h _=>hb.block b h⟩ (fun j e=>by cases e)),Kx.below hb HSr.out.kx.size,O',ch,⟨HSr.out.kx.trans (Kx.below hb HSr.out.kx.size),(hb.block _ (lt_of_blk HSr.out.mr)).trans HSr.out.mr,(hb.block _ HSr.out.bx.lt).trans HSr.out.bx⟩,HSp.out.skip HD.out HQ.out⟩
      | true=>
        rw [han] at HHI
        have HMO:=hid (HSp.out.more (D':=fun i=>∃ x : Pl vs,x ∈ pre ++ [(⟨k,hk⟩ : Pl vs)] /\ x.1 = i) N hkU hkN hkO hok han)
        clear hok hSr hSp han
        gi_wp2_with (refine ⟨trivial,?_⟩; gi_at_call 147; refine (CallsIn.inRound l (callsIn_wide.2 HHI.out)).mono ?_; rintro e W1 ⟨rfl,hb⟩; have cm1:=cell_below hb cm; have cx1:=cell_below hb cx; have hmk1:=(hb.block _ (lt_of_blk HSr.out.mr)).trans HSr.out.mr; have hbx1:=(hb.block _ HSr.out.bx.lt).trans HSr.out.bx; have cfz1:=fun o=>Lib.frozen_of_heap hmk1 o; have bz1:=cell_below hb bz; have bf1:=Lib.frozen_of_heap hbx1 0)
        have k1 : Kx w4.heap.size (fun b=>b = mb \/ b = w.heap.size + 1) W W1:=Kx.below hb HSr.out.kx.size
        have k2 : Kx w4.heap.size (fun b=>b = mb \/ b = w.heap.size + 1) W1 (W1.setCell ⟨mb,k,none⟩ (.bool true)):=Kx.set W1 _ (Or.inl rfl)
        have k3 : Kx w4.heap.size (fun b=>b = mb \/ b = w.heap.size + 1) (W1.setCell ⟨mb,k,none⟩ (.bool true)) ((W1.setCell ⟨mb,k,none⟩ (.bool true)).setCell ⟨w.heap.size + 1,0,none⟩ (.bool true)):=Kx.set _ _ (Or.inr rfl)
        have m1 : (W1.setCell ⟨mb,k,none⟩ (.bool true)).heap[mb]? = some (.cells (bwc (O'.set k true)) 4 (0,0)):=by rw [set_block hmk1,bwc_put]
        have m2:=keep_set (fb:=w.heap.size + 1) (o:=0) (x:=.bool true) m1 (by omega)
        have b1:=keep_set (fb:=mb) (o:=k) (x:=.bool true) hbx1 (by omega)
        have b2:=bool_box _ _ _ (.bool true) b1
        refine ⟨((KeepsFrom.of_grownBy (row:=none) ⟨hb.os,hb.tape,hb.output,hb.size,fun b h _=>hb.block b h⟩ (fun j e=>by cases e)).trans ((KeepsOthers.setCell _ _ _).from _)).trans ((KeepsOthers.setCell _ _ _).from _),(k1.trans k2).trans k3,O'.set k true,true,⟨((HSr.out.kx.trans k1).trans k2).trans k3,m2,b2⟩,HMO.out⟩
  case done=>
    rintro D ys W hD hS ⟨O',ch,hSr,hSp⟩ hK
    have hc:=hSr.bx.cell
    have HX:=hid (show Kx w.heap.size (fun b=>b = mb) w (W.putObj D (.deferred none)) from ((Kx.below hB4 (Nat.le_refl _)).trans (hSr.kx.less (by omega) (fun b hb h=>by rcases h with h | h; exact h; omega))).trans (Kx.put W D _ (by omega)))
    have HM:=hid (show (W.putObj D (.deferred none)).heap[mb]? = some (.cells (bwc O') 4 (0,0)) from (World.putObj_heap_other (by omega)).trans hSr.mr)
    have HP:=hid (hSp.wide (D':=fun i=>i < U.length) (fun j hj=>⟨⟨j,by have:=HVL.out; omega⟩,hS _,rfl⟩))
    gi_wp2
    refine ⟨by simp,.inl ⟨_,_,rfl,run_takeDeferred hK,?_⟩⟩
    exact ⟨_,results_tmp rfl _ _ _,O',ch,rfl,HM.out,HX.out,HP.out⟩
  case stop=>
    rintro D c pre W _ _ h _
    exact h.elim
end Ve
end Go.Proofs.YtlcffhadobhfkaaGreatDoor
namespace Go.Proofs.YtlcffhadobhfkaaGreatDoor
open Go.RowKit Go.Maps
namespace Ve
open Classical in
noncomputable def bdL (Q : List Raw) (L : List Ent) (caps : List Bm) : List Bool:=(univ L).map fun m=>decide (Bd (reqQ Q L) caps m)
theorem bdL_len (Q : List Raw) (L : List Ent) (caps : List Bm) : (bdL Q L caps).length = L.length:=by simp [bdL,univ]
theorem bdL_at {Q : List Raw} {L : List Ent} {caps : List Bm} {i : Nat} (h : i < (univ L).length) (h' : i < (bdL Q L caps).length) : (bdL Q L caps)[i] = true ↔ Bd (reqQ Q L) caps (univ L)[i]:=by
  simp [bdL]
theorem bdL_of {Q : List Raw} {L : List Ent} {caps : List Bm} {O : List Bool} (hl : O.length = (univ L).length) (h : ∀ i (h : i < (univ L).length) (h' : i < O.length),O[i] = true ↔ Bd (reqQ Q L) caps (univ L)[i]) : O = bdL Q L caps:=by
  have hU : (univ L).length = L.length:=univ_len L
  refine List.ext_getElem (by rw [bdL_len,hl,hU]) fun i h1 h2=>?_
  have h3:=h i (by omega) h1
  have h4:=bdL_at (Q:=Q) (L:=L) (caps:=caps) (i:=i) (by omega) h2
  exact Bool.eq_iff_iff.2 (h3.trans h4.symm)
def bF (Q : List Raw) (L : List Ent) (caps : List Bm) : Nat × Option Nat:=if (chk Q L).1 = 0 then chkP caps else chk Q L
theorem bF_chk {Q : List Raw} {L : List Ent} {caps : List Bm} (h : (bF Q L caps).1 = 0) : (chk Q L).1 = 0 /\ (chkP caps).1 = 0:=by
  unfold bF at h
  by_cases hc : (chk Q L).1 = 0
  · rw [if_pos hc] at h; exact ⟨hc,h⟩
  · rw [if_neg hc] at h; exact absurd h hc
def BsAt (W : World) (v : Value) (O : List Bool) : Prop:=∃ a c,v = .slice a O.length c /\ (O ≠ [] -> ∃ g,a = some ⟨g,0,none⟩ /\ W.heap[g]? = some (.cells (bwc O) 4 (0,0)))
theorem BsAt.below {W W' : World} {v : Value} {O : List Bool} (h : BsAt W v O) (hb : Below W.heap.size W W') : BsAt W' v O:=by
  obtain ⟨a,c,rfl,h1⟩:=h
  refine ⟨a,c,rfl,fun hO=>?_⟩
  obtain ⟨g,rfl,h2⟩:=h1 hO
  exact ⟨g,rfl,(hb.block _ (lt_of_blk h2)).trans h2⟩
theorem above_sd {w : World} {v : Value} {Q : List Raw} {L : List Ent} (I : Ixs w v Q L) (caps : List Bm) : Sd (reqQ Q L) caps (univ L) (Q.map fun r=>capB caps r.1):=by
  have hU : (univ L).length = L.length:=univ_len L
  have hm : ∀ i (h : i < (univ L).length) (h' : i < (Q.map fun r=>capB caps r.1).length),(Q.map fun r=>capB caps r.1)[i] = capB caps (univ L)[i]:=fun i h h'=>by
    have hq : i < Q.length:=by simpa using h'
    rw [List.getElem_map]
    have:=(I.ok i hq (by omega)).m
    simp only [univ,List.getElem_map]
    rw [this]
  refine ⟨by simp [I.ln,hU],fun i h h' ho=>?_,fun i h h' hc=>?_⟩
  · rw [hm i h h'] at ho
    exact bd_iff.2 (Or.inl ho)
  · rw [hm i h h']; exact hc
theorem nvL_short {Q : List Raw} {L : List Ent} (sh : ∀ e,e ∈ L -> ShE e) : ∀ P,P ∈ nvL Q L -> P.length <= 1000000:=fun P hP=>by
  obtain ⟨e,he,rfl⟩:=List.mem_map.1 hP
  have:=(sh e he).rn
  simp; omega
theorem Nv.kx {W W' : World} {g mb : Nat} {vs : List Value} {NV : List (List Nat)} {O : List Bool} (h : Nv W g vs NV) (hm : W.heap[mb]? = some (.cells (bwc O) 4 (0,0))) (k : Kx W.heap.size (fun b=>b = mb) W W') : Nv W' g vs NV:=by
  have hgm : g ≠ mb:=fun e=>by
    subst e
    have:=h.hp.symm.trans hm
    simp at this
  exact ⟨(k.block g (lt_of_blk h.hp) hgm).trans h.hp,h.ln,h.sl,fun j h1 h2=>(h.ia j h1 h2).kx k (Nat.le_refl _) (fun b e _=>by subst e; exact ⟨O,hm⟩)⟩
set_option maxRecDepth 100000 in
set_option maxHeartbeats 4000000 in
theorem bad_good (Q : List Raw) (L : List Ent) (caps : List Bm) (v cv : Value) (A : Nat → Addr) (m : Int) (w : World) (hn : L.length ≤ 1000) (hcn : caps.length ≤ 1000000) (sh : ∀ e, e ∈ L → ShE e) (hs : shortL caps) (S : Te w A m) (I : Ixs w v Q L) (hc : MsAt w cv caps) (h0 : (bF Q L caps).1 = 0) :
    Calls Tryz.prog 52 #[v,cv] w fun e w'=>∃ g,e = .returned (.tuple #[.slice (some ⟨g,0,none⟩) (bdL Q L caps).length (bdL Q L caps).length,.nilIface]) /\ Mb w w' g (bdL Q L caps):=by
  obtain ⟨k0,k1⟩:=bF_chk h0
  have HIC:=hid (icheck_any Q L v A m w (by omega) sh S I)
  have HCA:=hid (fun W (h : Below w.heap.size w W)=>caps_any caps cv A m W hcn hs (S.below h) (hc.below h))
  have HAB:=hid (fun W (h : Below w.heap.size w W)=>above_any Q caps v cv A m W (by rw [I.ln]; omega) hcn (fun r hr=>by
    obtain ⟨j,hj,rfl⟩:=List.getElem_of_mem hr
    have hj2 : j < L.length:=by rw [<- I.ln]; exact hj
    rw [(I.ok j hj hj2).m]
    exact Nat.lt_of_lt_of_le (sh _ (List.getElem_mem hj2)).v (by omega)) (fun c hc=>(hs c hc).2) (caps_rise k1) (S.below h) (I.below h).es (hc.below h))
  have HRQ:=hid (fun W (h : Below w.heap.size w W)=>required_any Q L v W hn sh (I.below h) k0)
  have HND:=hid (nvL_nd I k0)
  have HSD:=hid (above_sd I caps)
  have HSP:=hid (fun vs O g mb c1 c2 W (S' : Sd (reqQ Q L) caps (univ L) O) (V : Nv W g vs (nvL Q L)) hmb=>spread_any (reqQ Q L) caps (univ L) (nvL Q L) vs O g mb c1 c2 W (by rw [univ_len]; exact hn) (nvL_short sh) HND.out S' V hmb)
  have HOF:=hid (fun O hl h=>bdL_of (Q:=Q) (L:=L) (caps:=caps) (O:=O) hl h)
  have HDN:=hid (fun O (S' : Sd (reqQ Q L) caps (univ L) O) hq=>S'.done HND.out hq)
  have HQL:=hid (show Q.length = (univ L).length by rw [I.ln,univ_len])
  have HBL:=hid (show (bdL Q L caps).length = Q.length by rw [bdL_len,I.ln])
  have HNL:=hid (show (nvL Q L).length = Q.length by rw [I.ln]; simp [nvL])
  have hqn : Q.length <= 1000:=by rw [I.ln]; exact hn
  obtain ⟨oo,ho⟩ : ∃ oo,chk Q L = (0,oo):=⟨_,Prod.ext k0 rfl⟩
  obtain ⟨op,hp⟩ : ∃ oo,chkP caps = (0,oo):=⟨_,Prod.ext k1 rfl⟩
  rw [ho] at HIC
  rw [hp] at HCA
  obtain ⟨a,c,hv,-⟩:=id I.es
  subst hv
  obtain ⟨ca,cn,cc,hcv⟩:=hc.slice
  subst hcv
  clear S I hc sh hs h0 k0 k1 ho hp HND hn
  generalize reqQ Q L = req at *
  generalize nvL Q L = NV at *
  generalize bdL Q L caps = BL at *
  rw [HBL.out]
  go_enter Tryz.func52,Tryz.ntmps52
  go_wp2_with fail
  refine HIC.out.mono ?_
  rintro e w1 ⟨x1,rfl,he,hb⟩
  have HB1:=hid hb
  rcases he.kind with ⟨-,rfl⟩ | ⟨h,-⟩
  rotate_left
  · exact absurd rfl h
  clear he hb HIC
  go_wp2_with fail
  refine (HCA.out w1 HB1.out).mono ?_
  rintro e w2 ⟨x2,rfl,he,hb⟩
  have HB2:=hid (HB1.out.trans (hb.mono HB1.out.size))
  rcases he.kind with ⟨-,rfl⟩ | ⟨h,-⟩
  rotate_left
  · exact absurd rfl h
  clear he hb HCA HB1
  go_wp2_with fail
  refine (HAB.out w2 HB2.out).mono ?_
  rintro e w3 ⟨rfl,hM⟩
  have HB3:=hid (HB2.out.trans (hM.bl.mono HB2.out.size))
  have HM3:=hid hM
  clear hM HAB
  go_wp2_with fail
  refine (HRQ.out w3 HB3.out).mono ?_
  rintro e w4 ⟨rfl,vs,hV,hb⟩
  have HB4:=hid (HB3.out.trans (hb.mono HB3.out.size))
  have HM4:=hid ((hb.block _ (lt_of_blk HM3.out.hp)).trans HM3.out.hp)
  have HV4:=hid hV
  have HVL:=hid (show vs.length = Q.length from hV.ln.trans HNL.out)
  have HS0:=hid HSD.out
  clear hb hV HRQ HM3 HB3
  generalize (Q.map fun r=>capB caps r.1) = O0 at *
  generalize hgN : w3.heap.size = gN at *
  generalize hgM : w2.heap.size = gM at *
  go_wp2_with fail
  go_loopw [27] (fun _ wr=>Hid (∃ O,Below w.heap.size w wr /\ Nv wr gN vs NV /\ wr.heap[gM]? = some (.cells (bwc O) 4 (0,0)) /\ Sd req caps (univ L) O)) (fun _ wr=>unmW wr.heap[gM]?)
  case atStart=>exact hid ⟨O0,HB4.out,HV4.out,HM4.out,HS0.out⟩
  case round=>
    obtain ⟨O,hB,hV,hM,hS⟩:=hrel.out
    have HMS:=hid (unmW_is hM)
    have HSX:=hid (HSP.out vs O gN gM Q.length Q.length wr hS hV hM)
    rw [HVL.out] at HSX
    have HKB:=hid (show w.heap.size <= gM by rw [<- hgM]; exact HB2.out.size)
    have HX:=hid (show Below w.heap.size w wr /\ Nv wr gN vs NV /\ wr.heap[gM]? = some (.cells (bwc O) 4 (0,0)) from ⟨hB,hV,hM⟩)
    clear hB hV hM hS hrel
    go_wp2_with fail
    refine HSX.out.mono ?_
    rintro e w5 ⟨O',ch,rfl,hm5,hk5,hs5⟩
    have HB5:=hid (show Below w.heap.size w w5 from HX.out.1.trans ⟨hk5.os,hk5.tape,hk5.output,hk5.size,fun b hb=>hk5.block b (Nat.lt_of_lt_of_le hb HX.out.1.size) (by have:=HKB.out; omega)⟩)
    have HV5:=hid (HX.out.2.1.kx HX.out.2.2 hk5)
    have HM5:=hid hm5
    cases ch with
    | true=>
      have HS5:=hid hs5.sd
      have HLT:=hid (hs5.lt rfl)
      have HM6:=hid (unmW_is hm5)
      clear hm5 hk5 hs5
      go_wp2_with fail
      go_roundw
      case rel=>exact hid ⟨O',HB5.out,HV5.out,HM5.out,HS5.out⟩
      case measure=>
        show unmW w5.heap[gM]? < unmW wr.heap[gM]?
        rw [HM6.out,HMS.out]
        exact HLT.out
    | false=>
      obtain ⟨e1,e2⟩:=hs5.qt rfl
      subst e1
      have HE:=hid (HOF.out O' hs5.sd.ln (HDN.out O' hs5.sd e2))
      clear hm5 hk5 hs5 e2
      have HFI:=hid (show Mb w w5 gM BL from ⟨HB5.out,HKB.out,by rw [<- HE.out]; exact HM5.out⟩)
      go_wp2_with fail
      go_ret2
      exact ⟨gM,rfl,HFI.out⟩
set_option maxRecDepth 100000 in
set_option maxHeartbeats 2000000 in
theorem bad_bad (Q : List Raw) (L : List Ent) (caps : List Bm) (v cv : Value) (A : Nat -> Addr) (m : Int) (w : World) (hn : L.length <= 1000) (hcn : caps.length <= 1000000) (sh : ∀ e,e ∈ L -> ShE e) (hs : shortL caps) (S : Te w A m) (I : Ixs w v Q L) (hc : MsAt w cv caps) (h0 : ¬ (bF Q L caps).1 = 0) :
    Calls Tryz.prog 52 #[v,cv] w fun e w'=>∃ T a,e = .returned (.tuple #[.slice none 0 0,.iface T (.pointer (some a))]) /\ ErrAt w' A (.iface T (.pointer (some a))) (bF Q L caps).1 (bF Q L caps).2 /\ Below w.heap.size w w':=by
  have HIC:=hid (icheck_any Q L v A m w (by omega) sh S I)
  have HCA:=hid (fun W (h : Below w.heap.size w W)=>caps_any caps cv A m W hcn hs (S.below h) (hc.below h))
  obtain ⟨a,c,hv,-⟩:=id I.es
  subst hv
  obtain ⟨ca,cn,cc,hcv⟩:=hc.slice
  subst hcv
  clear S I hc sh hs hn
  by_cases k0 : (chk Q L).1 = 0
  · have hbf : bF Q L caps = chkP caps:=if_pos k0
    rw [hbf] at h0 ⊢
    obtain ⟨oo,ho⟩ : ∃ oo,chk Q L = (0,oo):=⟨_,Prod.ext k0 rfl⟩
    rw [ho] at HIC
    have H0:=hid h0
    clear k0 ho h0 hbf
    generalize chkP caps = R at *
    go_enter Tryz.func52,Tryz.ntmps52
    go_wp2_with fail
    refine HIC.out.mono ?_
    rintro e w1 ⟨x1,rfl,he,hb⟩
    have HB1:=hid hb
    rcases he.kind with ⟨-,rfl⟩ | ⟨h,-⟩
    rotate_left
    · exact absurd rfl h
    clear he hb HIC
    go_wp2_with fail
    refine (HCA.out w1 HB1.out).mono ?_
    rintro e w2 ⟨x2,rfl,he,hb⟩
    have HB2:=hid (HB1.out.trans (hb.mono HB1.out.size))
    have HE:=hid he
    rcases he.kind with ⟨h,-⟩ | ⟨-,T,xa,rfl⟩
    · exact absurd h H0.out
    clear he hb HCA HB1
    go_wp2_with fail
    go_ret2
    exact ⟨_,_,rfl,HE.out,HB2.out⟩
  · have hbf : bF Q L caps = chk Q L:=if_neg k0
    rw [hbf]
    have H0:=hid k0
    clear k0 h0 hbf HCA
    generalize chk Q L = R at *
    go_enter Tryz.func52,Tryz.ntmps52
    go_wp2_with fail
    refine HIC.out.mono ?_
    rintro e w1 ⟨x1,rfl,he,hb⟩
    have HB1:=hid hb
    have HE:=hid he
    rcases he.kind with ⟨h,-⟩ | ⟨-,T,xa,rfl⟩
    · exact absurd h H0.out
    clear he hb HIC
    go_wp2_with fail
    go_ret2
    exact ⟨_,_,rfl,HE.out,HB1.out⟩
end Ve
end Go.Proofs.YtlcffhadobhfkaaGreatDoor
