
import Derived.Test.YtjbmjnbkibmkpaaGreatDoorGt6
import Derived.Lib.AppendZeros
import Derived.RangeFuncBox
import Derived.RangeFuncLeaves
import Derived.Shelf.Abstract
import Derived.OwnWalkIn
import Derived.TacticsInMore
import Derived.LoopNIn
import Derived.LoopIn
import Derived.Maps.AppendAt
import Derived.Shelf.Strings.Builder1
import Derived.Shelf.Strings.Builder2
import Derived.Shelf.Strings.OnBuilder
import Derived.Shelf.Strings.Trim
import Derived.Shelf.Small.Utf8
import Derived.Shelf.Small.Bits
import Derived.Shelf.Small.Strs
import Derived.Shelf.Small.Wraps
import Derived.Shelf.Strings.BuilderF
import Derived.Shelf.Strings.BuilderK
import Derived.Shelf.Strconv.Itoa0
import Derived.Shelf.Strconv.Itoa1
import Derived.Shelf.LaysM
import Derived.Shelf.Strconv.Itoa2
import Derived.Shelf.Strconv.Itoa3
import Derived.Shelf.Strings.Search1
import Derived.Shelf.Strings.Search2
import Derived.Shelf.Strings.Search3
import Derived.Shelf.Strings.Cut
import Derived.Shelf.Strings.Count
import Derived.Shelf.Strings.Shaped
import Derived.Shelf.Sort.Plain
import Derived.Shelf.Strings.Prefix
import Derived.Shelf.Strings.Split
import Derived.Shelf.Strings.Replace
import Derived.Shelf.Strings.Runes
import Derived.Shelf.Strings.AsciiSet
import Derived.Shelf.Unicode.DecodeSlow
import Derived.Shelf.Unicode.DecodeAny
import Derived.Shelf.Slices.Equal
import Derived.Shelf.Slices.CompactS
import Derived.Ground.Names2Prog
import Derived.Shelf.Slices.SearchI
import Derived.Shelf.Slices.Cells
import Derived.Shelf.Slices.In.SortNone
import Derived.Shelf.Slices.Empties2
import Derived.Test.YtjbmjnbkibmkpaaGreatDoorProg
import Derived.Test.YtjbmjnbkibmkpaaGreatDoorGt2
import Derived.Sort.OwnSorted
set_option maxHeartbeats 8000000
namespace Go.Proofs.YtjbmjnbkibmkpaaGreatDoor
open Go.RowKit
namespace Ve
def EmT (v : Value) (X : List ByteArray) : Prop:=∀ a c,v = .slice a X.length c -> X = [] -> (Value.slice a 0 c = .slice none 0 0 \/ ∃ a',Value.slice a 0 c = .slice (some a') 0 c)
theorem packs_run (X : List ByteArray) (pv : Value) (W : World) (B : Nat) (hB : B <= W.heap.size) (hn : X.length <= 1000) (h : TxAt W pv X) (he : EmT pv X) :
  ∃ v' W',(Builtin.append_ #[26,26] 26 #[.slice none 0 0,pv]).run Tryz.prog W = .ok v' W' /\ W'.ownsRow B 9 1 v' X.length (X.map Value.string) /\ W.grownBy W' none:=by
 obtain ⟨i0,hi,hz0,hz1,hz2⟩:=info_parts infoStr
 obtain ⟨a,c,rfl,hc,h2⟩:=h
 cases X with
 | nil=>
  rcases he a c rfl rfl with hz | ⟨a',hz⟩
  ·refine ⟨.slice none 0 0,W,?_,World.ownsRow_nil _ _ _ _,⟨rfl,rfl,rfl,Nat.le_refl _,fun _ _ _=>rfl⟩⟩
   show (Builtin.append_ #[26,26] 26 #[.slice none 0 0,.slice a 0 c]).run Tryz.prog W = _
   rw [hz]
   simp [Builtin.append_,run_underlying Tryz.underlying26,Builtin.lenOf,Builtin.firstCells,Go.sizeOf,typeInfo,hi]
  ·refine ⟨.slice none 0 0,W,?_,World.ownsRow_nil _ _ _ _,⟨rfl,rfl,rfl,Nat.le_refl _,fun _ _ _=>rfl⟩⟩
   show (Builtin.append_ #[26,26] 26 #[.slice none 0 0,.slice a 0 c]).run Tryz.prog W = _
   rw [hz]
   have hl : (loadCells a' 0).run Tryz.prog W = .ok #[] W:=by simpa using run_loadCells_list (P:=Tryz.prog) W a' [] (by simp)
   simp [Builtin.append_,run_underlying Tryz.underlying26,Builtin.lenOf,Builtin.firstCells,Go.sizeOf,typeInfo,hi,hl]
 | cons x r=>
  obtain ⟨b,o,rfl,hcell⟩:=h2 (by simp)
  obtain ⟨g,cap,w',hr,h3,h4,_,_⟩:=run_append_lies (P:=Tryz.prog) W 26 26 B 9 i0 (.string ByteArray.empty) 1 16 Tryz.underlying26 hi hz0 hz1 hz2 rfl (by decide) (.slice none 0 0) 0 [] (World.ownsRow_nil _ _ _ _)
   ⟨b,o,none⟩ (x :: r).length c ((x :: r).map Value.string) (by simp) (fun j u hj=>by
    rw [Addr.add_lit]
    obtain ⟨hj1,hj2⟩:=List.getElem?_eq_some_iff.1 hj
    have hj3 : j < (x :: r).length:=by simpa using hj1
    have:=hcell j hj3
    rw [this,<- hj2]; exact congrArg some (List.getElem_map ..).symm) (fun u hu=>by
    obtain ⟨y,_,rfl⟩:=List.mem_map.1 hu
    rfl) (by simp) (by unfold maxLen; omega) (by omega) hB W.heap.size rfl
  rw [Nat.zero_add,List.nil_append] at h3
  rw [Nat.zero_add] at hr
  exact ⟨_,_,hr,h3,h4⟩
theorem own_slN {W : World} {B n k : Nat} {e : TypeId} {v : Value} {xs : List Value} (h : W.ownsRow B e k v n xs) : ∃ a c,v = .slice a n c:=by
 obtain ⟨_,⟨hv,hn0⟩ | ⟨g,cap,cur,hv,_⟩⟩:=h
 ·exact ⟨none,0,by rw [hv,hn0]⟩
 ·exact ⟨_,_,hv⟩
theorem own_kind {W W3 : World} {B B' k k' n n' : Nat} {e e' : TypeId} {v v' : Value} {xs xs' : List Value} (h : W.ownsRow B e k v n xs) (hg : W.grownBy W3 v'.ownBlock) (h' : W.ownsRow B' e' k' v' n' xs') (hne : e ≠ e') : W3.ownsRow B e k v n xs:=by
 obtain ⟨hl,h | ⟨g,cap,cur,e1,e2,e3,e4,e5,e6,e7⟩⟩:=h
 ·exact ⟨hl,Or.inl h⟩
 ·refine ⟨hl,Or.inr ⟨g,cap,cur,e1,e2,?_,e4,e5,e6,e7⟩⟩
  rw [hg.block g (lt_of_blk e3) (fun hh=>?_)]; exact e3
  obtain ⟨_,⟨hv,_⟩ | ⟨g',cap',cur',hv,_,hb,_⟩⟩:=h'
  ·rw [hv] at hh; simp [Value.ownBlock] at hh
  ·rw [hv] at hh
   simp only [Value.ownBlock,Option.some.injEq] at hh
   subst hh
   rw [e3] at hb
   simp only [Option.some.injEq,Obj.cells.injEq] at hb
   exact hne hb.2.1
theorem own_none {W W3 : World} {B k n : Nat} {e : TypeId} {v : Value} {xs : List Value} (h : W.ownsRow B e k v n xs) (hg : W.grownBy W3 none) : W3.ownsRow B e k v n xs:=by
 obtain ⟨hl,h | ⟨g,cap,cur,e1,e2,e3,e4,e5,e6,e7⟩⟩:=h
 ·exact ⟨hl,Or.inl h⟩
 ·refine ⟨hl,Or.inr ⟨g,cap,cur,e1,e2,?_,e4,e5,e6,e7⟩⟩
  rw [hg.block g (lt_of_blk e3) (by simp)]; exact e3
theorem own_baseN {W : World} {B B' k n : Nat} {e : TypeId} {v : Value} {xs : List Value} (h : W.ownsRow B e k v n xs) (hB : B' <= B) : W.ownsRow B' e k v n xs:=by
 obtain ⟨hl,h | ⟨g,cap,cur,e1,e2,e3,e4,e5,e6,e7⟩⟩:=h
 ·exact ⟨hl,Or.inl h⟩
 ·exact ⟨hl,Or.inr ⟨g,cap,cur,e1,Nat.le_trans hB e2,e3,e4,e5,e6,e7⟩⟩
theorem own_setN {W : World} {B k n b o : Nat} {e T : TypeId} {v x : Value} {xs : List Value} {cs : Array Value} {fr : Nat × Nat} (h : W.ownsRow B e k v n xs) (hb : W.heap[b]? = some (.cells cs T fr)) (hne : e ≠ T) : (W.setCell ⟨b,o,none⟩ x).ownsRow B e k v n xs:=by
 obtain ⟨hl,h | ⟨g,cap,cur,e1,e2,e3,e4,e5,e6,e7⟩⟩:=h
 ·exact ⟨hl,Or.inl h⟩
 ·refine ⟨hl,Or.inr ⟨g,cap,cur,e1,e2,?_,e4,e5,e6,e7⟩⟩
  rw [Below.heap_setCell _ _ _ _ (fun hh=>?_)]; exact e3
  subst hh
  rw [e3] at hb
  simp only [Option.some.injEq,Obj.cells.injEq] at hb
  exact hne hb.2.1
structure OwnE (B : Nat) (w : World) (r : Raw) (e : Ent) : Prop where
 m : r.1 = e.1
 rq : w.ownsRow B 47 2 r.2.1 e.2.1.length (flatM e.2.1)
 pk : w.ownsRow B 9 1 r.2.2.1 e.2.2.1.length (e.2.2.1.map Value.string)
 bk : r.2.2.2 = e.2.2.2
theorem OwnE.ok {B : Nat} {w : World} {r : Raw} {e : Ent} (h : OwnE B w r e) : RawOk w r e:=⟨h.m,own_ms h.rq,own_tx h.pk,h.bk⟩
theorem OwnE.sl {B : Nat} {w : World} {r : Raw} {e : Ent} (h : OwnE B w r e) : slR r:=by
 obtain ⟨a,c,h1⟩:=own_slN h.rq
 obtain ⟨a',c',h2⟩:=own_slN h.pk
 exact ⟨⟨_,_,_,h1⟩,_,_,_,h2⟩
theorem OwnE.below {B : Nat} {w w' : World} {r : Raw} {e : Ent} (h : OwnE B w r e) (hb : Below w.heap.size w w') : OwnE B w' r e:=⟨h.m,owns_below h.rq hb,owns_below h.pk hb,h.bk⟩
theorem OwnE.noneg {B : Nat} {w w' : World} {r : Raw} {e : Ent} (h : OwnE B w r e) (hg : w.grownBy w' none) : OwnE B w' r e:=⟨h.m,own_none h.rq hg,own_none h.pk hg,h.bk⟩
theorem OwnE.kind {B B' k n : Nat} {w w' : World} {r : Raw} {e : Ent} {v : Value} {xs : List Value} (h : OwnE B w r e) (hg : w.grownBy w' v.ownBlock) (ho : w.ownsRow B' 54 k v n xs) : OwnE B w' r e:=
 ⟨h.m,own_kind h.rq hg ho (by decide),own_kind h.pk hg ho (by decide),h.bk⟩
theorem OwnE.set {B b o : Nat} {w : World} {r : Raw} {e : Ent} {x : Value} {cs : Array Value} {fr : Nat × Nat} (h : OwnE B w r e) (hb : w.heap[b]? = some (.cells cs 54 fr)) : OwnE B (w.setCell ⟨b,o,none⟩ x) r e:=
 ⟨h.m,own_setN h.rq hb (by decide),own_setN h.pk hb (by decide),h.bk⟩
structure OwnI (B : Nat) (w : World) (v : Value) (Q : List Raw) (L : List Ent) : Prop where
 ln : Q.length = L.length
 row : w.ownsRow B 54 5 v Q.length (flatR Q)
 es : ∀ j (h : j < Q.length) (h' : j < L.length),OwnE B w Q[j] L[j]
theorem OwnI.sl {B : Nat} {w : World} {v : Value} {Q : List Raw} {L : List Ent} (h : OwnI B w v Q L) : ∀ r,r ∈ Q -> slR r:=fun r hr=>by
 obtain ⟨j,hj,rfl⟩:=List.getElem_of_mem hr
 exact (h.es j hj (by rw [<- h.ln]; exact hj)).sl
theorem OwnI.ixs {B : Nat} {w : World} {v : Value} {Q : List Raw} {L : List Ent} (h : OwnI B w v Q L) : Ixs w v Q L:=⟨own_es h.sl h.row,h.ln,fun j h1 h2=>(h.es j h1 h2).ok⟩
theorem OwnI.below {B : Nat} {w w' : World} {v : Value} {Q : List Raw} {L : List Ent} (h : OwnI B w v Q L) (hb : Below w.heap.size w w') : OwnI B w' v Q L:=⟨h.ln,owns_below h.row hb,fun j h1 h2=>(h.es j h1 h2).below hb⟩
theorem OwnI.noneg {B : Nat} {w w' : World} {v : Value} {Q : List Raw} {L : List Ent} (h : OwnI B w v Q L) (hg : w.grownBy w' none) : OwnI B w' v Q L:=⟨h.ln,own_none h.row hg,fun j h1 h2=>(h.es j h1 h2).noneg hg⟩
theorem OwnI.set {B b o : Nat} {w : World} {v x : Value} {Q : List Raw} {L : List Ent} {cs : Array Value} {fr : Nat × Nat} (h : OwnI B w v Q L) (hb : w.heap[b]? = some (.cells cs 54 fr)) (hne : v.ownBlock ≠ some b) : OwnI B (w.setCell ⟨b,o,none⟩ x) v Q L:=by
 refine ⟨h.ln,?_,fun j h1 h2=>(h.es j h1 h2).set hb⟩
 obtain ⟨hl,hr | ⟨g,cap,cur,e1,e2,e3,e4,e5,e6,e7⟩⟩:=h.row
 ·exact ⟨hl,Or.inl hr⟩
 ·refine ⟨hl,Or.inr ⟨g,cap,cur,e1,e2,?_,e4,e5,e6,e7⟩⟩
  rw [Below.heap_setCell _ _ _ _ (fun hh=>hne (by rw [e1,hh]; rfl))]; exact e3
theorem OwnI.more {B : Nat} {w w' : World} {v v' : Value} {Q : List Raw} {L : List Ent} {k : Nat} {r : Raw} (hk : k < L.length) (h : OwnI B w v Q (L.take k)) (he : OwnE B w r L[k]) (hg : w.grownBy w' v.ownBlock)
  (ho : w'.ownsRow B 54 5 v' (Q.length + 1) (flatR Q ++ rowR r)) : OwnI B w' v' (Q ++ [r]) (L.take (k + 1)):=by
 have hl:=h.ln
 have hlk : (L.take k).length = k:=by rw [List.length_take]; omega
 refine ⟨?_,own_nextR ho rfl,fun j h1 h2=>?_⟩
 ·rw [List.length_append,hl,hlk,List.length_take]; show k + 1 = _; omega
 ·by_cases hj : j < Q.length
  ·have:=(h.es j hj (by omega)).kind hg h.row
   rw [List.getElem_append_left hj,List.getElem_take]
   rw [List.getElem_take] at this; exact this
  ·have hjk : j = k:=by rw [List.length_append] at h1; simp at h1; omega
   subst hjk
   have hq : Q.length = j:=by omega
   rw [List.getElem_append_right (by omega),List.getElem_take]
   simp only [hq,Nat.sub_self,List.getElem_cons_zero]
   exact he.kind hg h.row
def EmI (Q : List Raw) (L : List Ent) : Prop:=∀ j (h : j < Q.length) (h' : j < L.length),Em Q[j].2.1 L[j].2.1 /\ EmT Q[j].2.2.1 L[j].2.2.1
structure Fits (e : Ent) : Prop where
 rq : e.2.1.length <= 1000
 pk : e.2.2.1.length <= 1000
set_option maxRecDepth 100000 in
theorem ownI_any (Q : List Raw) (L : List Ent) (v : Value) (w : World) (hn : L.length <= 1000) (I : Ixs w v Q L) (em : EmI Q L) (hf : ∀ e,e ∈ L -> Fits e) :
  Calls Tryz.prog 8 #[v] w fun e w'=>∃ u Q',e = .returned u /\ OwnI w.heap.size w' u Q' L /\ Below w.heap.size w w':=by
 obtain ⟨i0,hi0,hz0,hz1,hz2⟩:=info_parts infoEnt
 obtain ⟨a,c,rfl,_,hs,hc⟩:=id I.es
 have HC:=hid hc
 have HSL:=hid hs
 have HI:=hid I
 have HEM:=hid em
 have HF:=hid hf
 have hln:=I.ln
 rw [hln]
 clear I hc hs em hf
 go_enter Tryz.func8,Tryz.ntmps8
 go_wp2_with fail
 go_loopw [3,4] (fun ov i wr=>∃ k : Nat,k <= L.length /\ i = .int .i64 k /\ Hid (∃ Q',OwnI w.heap.size wr ov Q' (L.take k)) /\ Hid (Below w.heap.size w wr)) (fun _ i _=>L.length - (intOf i).toNat)
 case atStart=>exact ⟨0,Nat.zero_le _,rfl,hid ⟨[],rfl,World.ownsRow_nil _ _ _ _,fun j h=>absurd h (Nat.not_lt_zero _)⟩,hid (Below.refl _ _)⟩
 case round=>
  obtain ⟨k,hk,rfl,HO,HB⟩:=hrel
  by_cases hlt : k < L.length
  ·have hkq : k < Q.length:=by omega
   have hO:=HI.out.ok k hkq hlt
   have hE:=HEM.out k hkq hlt
   have HFF:=hid (HF.out L[k] (List.getElem_mem hlt))
   obtain ⟨Q',hQ'⟩:=HO.out
   have HQ:=hid hQ'
   have hql : Q'.length = k:=by rw [hQ'.ln,List.length_take]; omega
   obtain ⟨b,o,ha,hcc⟩:=HC.out (by intro h; rw [h] at hkq; simp at hkq)
   subst ha
   obtain ⟨y0,y1,y2,y3,y4⟩:=hcc k hkq
   have x0:=cell_below HB.out y0
   have x1:=cell_below HB.out y1
   have x2:=cell_below HB.out y2
   have x3:=cell_below HB.out y3
   have x4:=cell_below HB.out y4
   have hkI : (k : Int) < (L.length : Int):=by omega
   have HLT:=hid hlt
   have HM:=hid (fun (W W' : World) (u u' : Value) (r : Raw) (h : OwnI w.heap.size W u Q' (L.take k)) (he : OwnE w.heap.size W r L[k]) hg ho=>OwnI.more (w':=W') (v':=u') hlt h he hg ho)
   have hsl:=HSL.out Q[k] (List.getElem_mem hkq)
   have hnb : u3.ownBlock ≠ some wr.heap.size:=fun hh=>Nat.lt_irrefl _ (hQ'.row.lt _ hh).2
   clear hcc y0 y1 y2 y3 y4 hQ' HO
   generalize L[k] = e at *
   generalize Q[k] = r at *
   clear hlt hkq
   obtain ⟨⟨p,q⟩,rv,pv,bk⟩:=r
   obtain ⟨⟨p',q'⟩,eR,eP,bk'⟩:=e
   obtain ⟨hm,hrq,hpk,hbk⟩:=hO
   simp only at hm hrq hpk hbk x0 x1 x2 x3 x4 hE
   subst hbk
   obtain ⟨rfl,rfl⟩ : p = p' /\ q = q':=by injection hm with h1 h2; exact ⟨h1,h2⟩
   have HRQ:=hid (hrq.below HB.out)
   have HPK:=hid (hpk.below HB.out)
   have HEE:=hid hE
   obtain ⟨⟨ra,rn,rc,hrv⟩,pa,pn,pc,hpv⟩:=hsl
   simp only at hrv hpv
   subst hrv
   subst hpv
   clear hm hrq hpk hE
   have HB1:=hid (HB.out.alloc HB.out.size (.cells #[.string p,.string q,.slice ra rn rc,.slice pa pn pc,.bool bk] 54))
   have HBx:=hid ((Below.refl wr.heap.size wr).alloc (Nat.le_refl _) (.cells #[.string p,.string q,.slice ra rn rc,.slice pa pn pc,.bool bk] 54))
   have HQ1:=hid (HQ.out.below HBx.out)
   have HOM:=hid (ownM_any _ eR _ (Nat.le_trans HFF.out.rq (by decide)) (HRQ.out.below HBx.out) HEE.out.1)
   go_wp2_with fail
   refine HOM.out.mono ?_
   rintro e w1 ⟨u,rfl,hown,-,hb⟩
   have HU:=hid (own_baseN hown (show w.heap.size <= _ from Nat.le_trans HB.out.size (by simp)))
   have HB2:=hid (HB1.out.trans (hb.mono HB1.out.size))
   have HQ2:=hid (HQ1.out.below hb)
   have HE2:=hid (show w1.heap[wr.heap.size]? = some (.cells #[.string p,.string q,.slice ra rn rc,.slice pa pn pc,.bool bk] 54 (0,0)) by rw [hb.block _ (by simp)]; exact heap_alloc_new wr _)
   have HPK2:=hid (fun x=>HPK.out.below ((HBx.out.trans (hb.mono (by simp))).setCell (p:=⟨wr.heap.size,2,none⟩) (Nat.le_refl _) x))
   have hsz : w.heap.size <= wr.heap.size:=HB.out.size
   have hsz1 : wr.heap.size < w1.heap.size:=by have:=hb.size; simp at this; omega
   obtain ⟨ua,uc,hu⟩:=own_slN hown
   subst hu
   have fz : ∀ o,w1.frozen? ⟨wr.heap.size,o,none⟩ = false:=fun o=>by simp [World.frozen?,HE2.out]
   clear hown hb x0 x1 x2 x3 x4 HOM
   have z0 : w1.cell? ⟨wr.heap.size,0,none⟩ = some (.string p):=by rw [Lib.cell_of_heap HE2.out]; rfl
   have z1 : w1.cell? ⟨wr.heap.size,1,none⟩ = some (.string q):=by rw [Lib.cell_of_heap HE2.out]; rfl
   have z2 : w1.cell? ⟨wr.heap.size,2,none⟩ = some (.slice ra rn rc):=by rw [Lib.cell_of_heap HE2.out]; rfl
   have z3 : w1.cell? ⟨wr.heap.size,3,none⟩ = some (.slice pa pn pc):=by rw [Lib.cell_of_heap HE2.out]; rfl
   have z4 : w1.cell? ⟨wr.heap.size,4,none⟩ = some (.bool bk):=by rw [Lib.cell_of_heap HE2.out]; rfl
   have HRUN:=hid (packs_run eP (.slice pa pn pc) (w1.setCell ⟨wr.heap.size,2,none⟩ (.slice ua eR.length uc)) w.heap.size (by simp [World.setCell]; omega) HFF.out.pk (HPK2.out _) HEE.out.2)
   obtain ⟨pv',w3,hrun,hown3,hg3⟩:=HRUN.out
   have HRR:=hid hrun
   have HB3:=hid ((HB2.out.setCell (p:=⟨wr.heap.size,2,none⟩) hsz (.slice ua eR.length uc)).grown hg3 (by simp [World.setCell]; omega) (fun k hk=>by cases hk))
   have HE3:=hid (show w3.heap[wr.heap.size]? = some (.cells #[.string p,.string q,.slice ua eR.length uc,.slice pa pn pc,.bool bk] 54 (0,0)) by
    rw [hg3.block _ (by simp [World.setCell]; omega) (by simp)]; exact set_block HE2.out)
   have HPV:=hid hown3
   have HUU:=hid (own_none (own_setN HU.out HE2.out (o:=2) (x:=.slice ua eR.length uc) (by decide)) hg3)
   have HQ3:=hid ((HQ2.out.set HE2.out hnb).noneg hg3)
   have hsz3 : wr.heap.size < w3.heap.size:=lt_of_blk HE3.out
   obtain ⟨va,vc,hv⟩:=own_slN hown3
   subst hv
   clear hown3 hg3 HRUN hrun
   have fz3 : ∀ o,w3.frozen? ⟨wr.heap.size,o,none⟩ = false:=fun o=>by simp [World.frozen?,HE3.out]
   have y0 : w3.cell? ⟨wr.heap.size,0,none⟩ = some (.string p):=by rw [Lib.cell_of_heap HE3.out]; rfl
   have y1 : w3.cell? ⟨wr.heap.size,1,none⟩ = some (.string q):=by rw [Lib.cell_of_heap HE3.out]; rfl
   have y2 : w3.cell? ⟨wr.heap.size,2,none⟩ = some (.slice ua eR.length uc):=by rw [Lib.cell_of_heap HE3.out]; rfl
   have y3 : w3.cell? ⟨wr.heap.size,3,none⟩ = some (.slice pa pn pc):=by rw [Lib.cell_of_heap HE3.out]; rfl
   have y4 : w3.cell? ⟨wr.heap.size,4,none⟩ = some (.bool bk):=by rw [Lib.cell_of_heap HE3.out]; rfl
   have HB4:=hid (HB3.out.setCell (p:=⟨wr.heap.size,3,none⟩) hsz (.slice va eP.length vc))
   have HQ4:=hid (HQ3.out.set (o:=3) (x:=.slice va eP.length vc) HE3.out hnb)
   have HEN:=hid (show OwnE w.heap.size (w3.setCell ⟨wr.heap.size,3,none⟩ (.slice va eP.length vc)) ((p,q),.slice ua eR.length uc,.slice va eP.length vc,bk) ((p,q),eR,eP,bk) from
    ⟨rfl,own_setN HUU.out HE3.out (by decide),own_setN HPV.out HE3.out (by decide),rfl⟩)
   have hk1000 : k < 1000:=by omega
   go_wp2_with (at_builtin; first
    | refine wpList_append_own _ rfl _ _ 22 rfl w.heap.size 54 i0 _ 5 88 Tryz.underlying22 hi0 hz0 hz1 hz2 rfl (by decide) _ _ _ rfl (HQ4.out.row.alloc _) ⟨w3.heap.size,0,none⟩ 1 1 [.string p,.string q,.slice ua eR.length uc,.slice va eP.length vc,.bool bk] rfl rfl ?c1 ?c2 ?c3 ?c4 ?c5 ?_
    | refine Lib.wpList_append_run _ rfl _ _ _ _ rfl _ _ rfl rfl _ _ HRR.out ?_)
   case c1=>exact World.news_of_block (cs:=#[.string p,.string q,.slice ua eR.length uc,.slice va eP.length vc,.bool bk]) (t:=54) (fr:=(0,0)) (by have:=heap_alloc_new (w3.setCell ⟨wr.heap.size,3,none⟩ (.slice va eP.length vc)) (.cells #[.string p,.string q,.slice ua eR.length uc,.slice va eP.length vc,.bool bk] 54); simpa [World.setCell] using this)
   case c2=>
    intro u hu
    simp at hu
    rcases hu with rfl | rfl | rfl | rfl | rfl <;> rfl
   case c3=>unfold maxLen; omega
   case c4=>omega
   case c5=>simp [World.setCell]; omega
   intro v' w5 hown hgrow _
   have HBA:=hid (HB4.out.alloc HB4.out.size (.cells #[.string p,.string q,.slice ua eR.length uc,.slice va eP.length vc,.bool bk] 54))
   have HB5:=hid (HBA.out.grown hgrow HBA.out.size (fun k hk=>(HQ4.out.row.lt k hk).1))
   have HBy:=hid ((Below.refl _ (w3.setCell ⟨wr.heap.size,3,none⟩ (.slice va eP.length vc))).alloc (Nat.le_refl _) (.cells #[.string p,.string q,.slice ua eR.length uc,.slice va eP.length vc,.bool bk] 54))
   have HR:=hid (HM.out _ _ _ _ ((p,q),.slice ua eR.length uc,.slice va eP.length vc,bk) (HQ4.out.below HBy.out) (HEN.out.below HBy.out) hgrow (by rw [hql]; exact hown))
   clear hown hgrow y0 y1 y2 y3 y4 fz3 z0 z1 z2 z3 z4 fz
   go_wp2_with fail
   go_roundw
   case rel=>exact ⟨k + 1,by have:=HLT.out; omega,by go_num,hid ⟨_,HR.out⟩,HB5⟩
   case measure=>have:=HLT.out; simp [intOf]; omega
  ·have HTR:=hid (show L.take k = L from List.take_of_length_le (by omega))
   have hkI : ¬ (k : Int) < (L.length : Int):=by omega
   clear hlt
   go_wp2_with fail
   go_ret
   obtain ⟨Q',hQ'⟩:=HO.out
   rw [HTR.out] at hQ'
   exact ⟨_,rfl,⟨Q',hQ'⟩,HB.out⟩
end Ve
end Go.Proofs.YtjbmjnbkibmkpaaGreatDoor


namespace Go.Proofs.YtjbmjnbkibmkpaaGreatDoor
open Go.RowKit Go.Shelf
namespace Ve
attribute [local go_sem] Oper.semAt_some
def upT (f : Nat -> ByteArray) (k : Nat) : List ByteArray:=(List.range k).map f
theorem upT_succ (f : Nat -> ByteArray) (k : Nat) : upT f (k + 1) = upT f k ++ [f k]:=by simp [upT,List.range_succ]
theorem upT_length (f : Nat -> ByteArray) (k : Nat) : (upT f k).length = k:=by simp [upT]
theorem upT_take (X : List ByteArray) {k : Nat} (hk : k <= X.length) : upT (fun j=>X[j]?.getD ByteArray.empty) k = X.take k:=by
 apply List.ext_getElem
 ·simp [upT,hk]
 ·intro i h1 h2
  have : i < X.length:=by simp [upT] at h1; omega
  simp [upT,this]
set_option maxRecDepth 100000 in
theorem values1_in (F : Fence) (n : Nat) (hf : F.fn 273) (hro : F.round = none) (hn : 1 <= n) (l Bs n₀ b off len cap : Nat) (X : List ByteArray) (hreach : len <= 1000000) (hb : b < n₀) (J Jx : List ByteArray -> World -> Prop)
  (hY : ∀ pre x W,J pre W -> pre.length < len -> YieldAt F (n - 1) Tryz.prog l #[.string x] W fun e W'=>
   (e = .returned (.bool true) /\ J (pre ++ [x]) W' /\ Below n₀ W W') \/ (e = .returned (.bool false) /\ Jx (pre ++ [x]) W'))
  (W : World) (hBs : W.cell? ⟨Bs,0,none⟩ = some (.slice (some ⟨b,off,none⟩) len cap)) (hc : ∀ j,j < len -> W.cell? ⟨b,off + j,none⟩ = some (.string (X[j]?.getD ByteArray.empty))) (h0 : J [] W) :
  CallsIn F n Tryz.prog 273 #[.func (.yield l) #[] #[],.pointer (some ⟨Bs,0,none⟩)] W fun e W'=>(∃ v,e = .returned v) /\
   ((∃ ys,ys = upT (fun j=>X[j]?.getD ByteArray.empty) len /\ J ys W') \/ (∃ pre,(∃ k,k <= len /\ pre = upT (fun j=>X[j]?.getD ByteArray.empty) k) /\ Jx pre W')):=by
 refine callsIn_of_wp Tryz.func273 rfl hf ?_ hro
 simp only [Tryz.ntmps273,List.size_toArray,List.length_cons,List.length_nil,Nat.reduceAdd,Nat.reduceSub,Array.replicate_succ,Array.replicate_zero,List.push_toArray,List.append_toArray,List.nil_append,List.cons_append]
 gi_wp2
 gi_loopw [7] (fun i wr=>∃ k : Nat,k <= len /\ i = .int .i64 k /\ J (upT (fun j=>X[j]?.getD ByteArray.empty) k) wr /\ Below n₀ W wr)
  (fun i _=>len - (intOf i).toNat)
 case atStart=>exact ⟨0,Nat.zero_le _,rfl,h0,Below.refl _ _⟩
 case round=>
  obtain ⟨k,hk,rfl,hJs,hnx⟩:=hrel
  have hcx : k < len -> wr.cell? ⟨b,off + k,none⟩ = some (.string (X[k]?.getD ByteArray.empty)):=fun h=>(hnx.cell (p:=⟨b,off + k,none⟩) hb).trans (hc k h)
  by_cases hlt : k < len
  ·obtain ⟨fn,tmps,assign,body,hy,hR⟩:=hY _ (X[k]?.getD ByteArray.empty) wr hJs (by rw [upT_length]; exact hlt)
   have hcx':=hcx hlt
   gi_wp2
   refine hR.mono ?_
   rintro e W3 (⟨rfl,hJ3,hk3⟩ | ⟨rfl,hJx3⟩)
   ·gi_wp2
    go_roundw
    case rel=>exact ⟨k + 1,by omega,by simp,by rw [upT_succ]; exact hJ3,hnx.trans hk3⟩
    case measure=>simp [intOf]; omega
   ·gi_wp2
    refine bodyPost_ret (results_none rfl _ _ _) rfl ?_
    exact ⟨⟨_,rfl⟩,.inr ⟨_,⟨k + 1,by omega,(upT_succ _ _).symm⟩,hJx3⟩⟩
  ·obtain rfl : k = len:=by omega
   gi_wp2
   go_end0
   exact ⟨⟨_,rfl⟩,.inl ⟨_,rfl,hJs⟩⟩
set_option maxRecDepth 100000 in
theorem values1_nil (F : Fence) (n : Nat) (hf : F.fn 273) (hro : F.round = none) (l Bs : Nat) (a : Option Addr) (c : Nat) (J : List ByteArray -> World -> Prop) (W : World) (hBs : W.cell? ⟨Bs,0,none⟩ = some (.slice a 0 c)) (h0 : J [] W) :
  CallsIn F n Tryz.prog 273 #[.func (.yield l) #[] #[],.pointer (some ⟨Bs,0,none⟩)] W fun e W'=>(∃ v,e = .returned v) /\ J [] W':=by
 refine callsIn_of_wp Tryz.func273 rfl hf ?_ hro
 simp only [Tryz.ntmps273,List.size_toArray,List.length_cons,List.length_nil,Nat.reduceAdd,Nat.reduceSub,Array.replicate_succ,Array.replicate_zero,List.push_toArray,List.append_toArray,List.nil_append,List.cons_append]
 gi_wp2
 gi_loopw [7] (fun i wr=>i = .int .i64 0 /\ J [] wr) (fun _ _=>0)
 case atStart=>exact ⟨rfl,h0⟩
 case round=>
  obtain ⟨rfl,hJs⟩:=hrel
  gi_wp2
  go_end0
  exact ⟨⟨_,rfl⟩,hJs⟩
theorem values_in (F : Fence) (n : Nat) (hf : F.fn 236) (hro : F.round = none) (a : Option Addr) (len cap : Nat) (w : World) :
  CallsIn F n Tryz.prog 236 #[.slice a len cap] w fun e w'=>e = .returned (.func (.func 273) #[] #[.pointer (some ⟨w.heap.size,0,none⟩)]) /\ w' = w.alloc (.cells #[.slice a len cap] 26):=by
 refine callsIn_of_wp Tryz.func236 rfl hf ?_ hro
 simp only [Tryz.ntmps236,List.size_toArray,List.length_cons,List.length_nil,Nat.reduceAdd,Nat.reduceSub,Array.replicate_succ,Array.replicate_zero,List.push_toArray,List.append_toArray,List.nil_append,List.cons_append]
 gi_wp2
 go_ret
 exact ⟨rfl,rfl⟩
theorem values_stops (F : Fence) (n : Nat) (hf : F.fn 273) (hro : F.round = none) (hn : 1 <= n) (Bs n₀ : Nat) (sv : Value) (X : List ByteArray) (hreach : X.length <= 1000000) (w : World) (hBs : Bs < w.heap.size) (hn₀ : n₀ <= w.heap.size)
  (hc : w.cell? ⟨Bs,0,none⟩ = some sv) (w0 : World) (hw0 : w0.heap.size = n₀) (hI : TxAt w0 sv X) (hbl : Below n₀ w0 w) :
  SeqStopsK F n Tryz.prog 273 #[.pointer (some ⟨Bs,0,none⟩)] (fun x : ByteArray=>#[Value.string x]) (Below n₀) (fun ys=>ys = X) (fun pre=>pre <+: X) X.length w:=fun l J Jx W hW _ _ hY h0=>by
 have hc':=(hW.cell (p:=⟨Bs,0,none⟩) hBs).trans hc
 obtain ⟨a,cap,rfl,_,hcs⟩:=hI
 cases X with
 | nil=>exact (values1_nil F n hf hro l Bs a cap J W hc' h0).mono fun e W' ⟨he,hj⟩=>⟨he,.inl ⟨_,rfl,hj⟩⟩
 | cons x r=>
  obtain ⟨b,o,rfl,hcc⟩:=hcs (by simp)
  have hb : b < n₀:=by
   have:=hcc 0 (by simp)
   rw [<- hw0]
   exact lt_of_cell this
  refine (values1_in F n hf hro hn l Bs n₀ b o (x :: r).length cap (x :: r) hreach hb J Jx hY W hc' (fun j hj=>?_) h0).mono ?_
  ·rw [(hbl.trans (hW.mono hn₀)).cell (p:=⟨b,o + j,none⟩) hb,hcc j hj,List.getElem?_eq_getElem hj]; rfl
  ·rintro e W' ⟨he,⟨ys,rfl,hj⟩ | ⟨pre,⟨k,hk,rfl⟩,hj⟩⟩
   ·exact ⟨he,.inl ⟨_,by rw [upT_take _ (Nat.le_refl _),List.take_length],hj⟩⟩
   ·exact ⟨he,.inr ⟨_,by rw [upT_take _ hk]; exact List.take_prefix _ _,hj⟩⟩
set_option maxRecDepth 100000 in
theorem appSeq_in (F : Fence) (n : Nat) (hfa : F.fn 200) (hf : F.fn 273) (hro : F.round = none) (hn : 3 <= n) (X : List ByteArray) (hX : X.length <= 1000000) (sv : Value) (w : World) (Bs : Nat) (hBs : Bs < w.heap.size)
  (hc : w.cell? ⟨Bs,0,none⟩ = some sv) (hI : TxAt w sv X) :
  CallsIn F n Tryz.prog 200 #[.slice none 0 0,.func (.func 273) #[] #[.pointer (some ⟨Bs,0,none⟩)]] w fun e W'=>∃ v,e = .returned v /\ W'.ownsRow w.heap.size 9 1 v X.length (X.map Value.string) /\ (v = .slice none 0 0 ↔ X = []) /\ Below w.heap.size w W':=by
 have h1 : 1 <= n:=by omega
 obtain ⟨i0,hi,hz0,hz1,hz2⟩:=info_parts infoStr
 refine callsIn_of_wp_marks Tryz.func200 rfl hfa ?_ hro
 simp only [Tryz.ntmps200,List.size_toArray,List.length_cons,List.length_nil,Nat.reduceAdd,Nat.reduceSub,Array.replicate_succ,Array.replicate_zero,List.push_toArray,List.append_toArray,List.nil_append,List.cons_append]
 gi_wp2
 have bO:=Boxed.new w 26 (.slice none 0 0)
 have hB0 : Below w.heap.size w (w.alloc (.cells #[.slice none 0 0] 26)):=(Below.refl _ w).alloc (Nat.le_refl _) _
 refine wpIn_rangeFunc_ownG hro h1 (gf:=273) (lb:=#[.pointer (some ⟨Bs,0,none⟩)]) rfl hf (enters_of Tryz.func273 (by kernel_rfl) rfl)
  (values_stops F (n - 1) hf hro (by omega) Bs w.heap.size sv X hX _ (by simp; omega) (by simp) ((hB0.cell (p:=⟨Bs,0,none⟩) hBs).trans hc) w rfl hI hB0) belowK_t (belowK_b (by simp)) (Below.refl _ _) (fun _=>rfl)
  (fun pre W=>(∃ v,Boxed W w.heap.size 26 v /\ W.ownsRow w.heap.size 9 1 v pre.length (pre.map Value.string) /\ (v = .slice none 0 0 ↔ pre = [])) /\ Below w.heap.size w W)
  (fun _ _ _=>False)
  (OwnFrom.and (Own.from (holdsRow_own w.heap.size w.heap.size 26 9 1 (fun pre=>pre.length) (fun pre=>pre.map Value.string) (fun pre v=>v = .slice none 0 0 ↔ pre = [])) _) (ownFrom_below (Nat.le_refl _) (by simp)))
  (fun _ _ _ _ _ hs _ _=>hs)
  ⟨⟨_,bO,World.ownsRow_nil _ _ _ _,by simp⟩,hB0⟩
  (fun x=>{ tmps:=#[.slice none 0 0,.func (.func 273) #[] #[.pointer (some ⟨Bs,0,none⟩)],.pointer (some ⟨w.heap.size,0,none⟩),undef,.slice none 0 0,.string x,.func (.func 273) #[] #[.pointer (some ⟨Bs,0,none⟩)],.string x,undef,undef,undef,undef,undef],defers:=[] }) ?assign ?body ?done ?stop
 case assign=>
  intro l x W K hK
  gi_wp2
  exact hK
 case body=>
  rintro l pre x W ⟨⟨v,hv,hrow,hnil⟩,hB⟩ hlt
  have hc:=hv.cell
  gi_wp2_with (gi_at_builtin; refine wpListIn_append_own _ rfl _ _ 26 rfl w.heap.size 9 i0 (.string ByteArray.empty) 1 16 Tryz.underlying26 hi hz0 hz1 hz2 rfl (by decide) _ _ _ rfl (hrow.alloc _) ⟨W.heap.size,0,none⟩ 1 1 [.string x] rfl rfl (cell_one_new _ _ _) (by simp [Value.oneCell']) (by unfold maxLen; omega) (by omega) (by have:=hB.size; simp; omega) ?_; intro v' w1 hown' hgrow _; obtain ⟨g',cap',rfl⟩:=ownsRow_succ hown'; obtain ⟨hv1,hv2,hr2,hk2,hb2⟩:=hv.appended (by decide) hrow hB.size (Nat.le_refl _) hown' hgrow; have hc1:=hv1.cell; have hf1:=hv1.frozen)
  exact ⟨hk2.from _,hb2,⟨_,hv2,by simpa using hr2,by simp⟩,hB.trans hb2⟩
 case done=>
  rintro D ys W hD rfl ⟨⟨v,hv,hrow,hnil⟩,hB⟩ hK
  have hc:=hv.cell
  gi_wp2
  refine ⟨by simp,.inl ⟨_,_,rfl,run_takeDeferred hK,?_⟩⟩
  exact ⟨_,results_tmp rfl _ _ _,v,rfl,ownsRow_putObj hrow _ hK rfl,hnil,hB.trans (belowK_b (w:=w) (Nat.le_refl _) W D _ _ (by simp at hD; omega) hK rfl rfl)⟩
 case stop=>
  rintro D c pre W _ _ h _
  exact h.elim
theorem collect_in (F : Fence) (n : Nat) (hfc : F.fn 145) (hfa : F.fn 200) (hf : F.fn 273) (hro : F.round = none) (hn : 4 <= n) (X : List ByteArray) (hX : X.length <= 1000000) (sv : Value) (w : World) (Bs : Nat) (hBs : Bs < w.heap.size)
  (hc : w.cell? ⟨Bs,0,none⟩ = some sv) (hI : TxAt w sv X) :
  CallsIn F n Tryz.prog 145 #[.func (.func 273) #[] #[.pointer (some ⟨Bs,0,none⟩)]] w fun e W'=>∃ v,e = .returned v /\ W'.ownsRow w.heap.size 9 1 v X.length (X.map Value.string) /\ (v = .slice none 0 0 ↔ X = []) /\ Below w.heap.size w W':=by
 have h1 : 1 <= n:=by omega
 refine callsIn_of_wp Tryz.func145 rfl hfc ?_ hro
 simp only [Tryz.ntmps145,List.size_toArray,List.length_cons,List.length_nil,Nat.reduceAdd,Nat.reduceSub,Array.replicate_succ,Array.replicate_zero,List.push_toArray,List.append_toArray,List.nil_append,List.cons_append]
 gi_wp2_with (gi_at_call 200; refine (appSeq_in F (n - 1) hfa hf hro (by omega) X hX sv _ Bs hBs hc hI).mono ?_; rintro e w' ⟨v,rfl,hrow,hnil,hb⟩)
 go_ret
 exact ⟨v,rfl,hrow,hnil,hb⟩
theorem collect_any (X : List ByteArray) (hX : X.length <= 1000000) (sv : Value) (w : World) (Bs : Nat) (hBs : Bs < w.heap.size) (hc : w.cell? ⟨Bs,0,none⟩ = some sv) (hI : TxAt w sv X) :
  Calls Tryz.prog 145 #[.func (.func 273) #[] #[.pointer (some ⟨Bs,0,none⟩)]] w fun e W'=>∃ v,e = .returned v /\ W'.ownsRow w.heap.size 9 1 v X.length (X.map Value.string) /\ (v = .slice none 0 0 ↔ X = []) /\ Below w.heap.size w W':=
 (callsIn_wide (n:=4)).1 (collect_in Fence.wide 4 trivial trivial trivial rfl (by omega) X hX sv w Bs hBs hc hI)
end Ve
end Go.Proofs.YtjbmjnbkibmkpaaGreatDoor


namespace Go.Proofs
open Go.Shelf
def Tryz.lays190_ren : Go.Shelf.Ren:=⟨fun | 190=>146 | 125=>129 | 258=>201 | 128=>182 | 129=>183 | 302=>249 | 303=>250 | 304=>251 | 305=>252 | 306=>253 | 307=>254 | 308=>255 | 309=>256 | 310=>257 | 333=>283 | 329=>230 | 330=>231 | 334=>284 | 335=>285 | 336=>286 | 344=>297 | n=>n,fun | 31=>26 | 9=>9 | 3=>3 | 46=>167 | 0=>0 | 51=>221 | 53=>223 | 4=>4 | 183=>214 | 182=>213 | 131=>218 | 5=>5 | 218=>249 | 222=>253 | 228=>277 | 229=>278 | n=>n,fun | n=>n⟩
theorem Tryz.lays190 : Go.Proofs.Lays.n190 Tryz.prog Tryz.lays190_ren:={
 mixed:=by kernel_rfl
 f125:=Tryz.func129.trans (congrArg some (by kernel_rfl))
 f128:=Tryz.func182.trans (congrArg some (by kernel_rfl))
 f129:=Tryz.func183.trans (congrArg some (by kernel_rfl))
 f190:=Tryz.func146.trans (congrArg some (by kernel_rfl))
 f258:=Tryz.func201.trans (congrArg some (by kernel_rfl))
 f302:=Tryz.func249.trans (congrArg some (by kernel_rfl))
 f303:=Tryz.func250.trans (congrArg some (by kernel_rfl))
 f304:=Tryz.func251.trans (congrArg some (by kernel_rfl))
 f305:=Tryz.func252.trans (congrArg some (by kernel_rfl))
 f306:=Tryz.func253.trans (congrArg some (by kernel_rfl))
 f307:=Tryz.func254.trans (congrArg some (by kernel_rfl))
 f308:=Tryz.func255.trans (congrArg some (by kernel_rfl))
 f309:=Tryz.func256.trans (congrArg some (by kernel_rfl))
 f310:=Tryz.func257.trans (congrArg some (by kernel_rfl))
 f329:=Tryz.func230.trans (congrArg some (by kernel_rfl))
 f330:=Tryz.func231.trans (congrArg some (by kernel_rfl))
 f333:=Tryz.func283.trans (congrArg some (by kernel_rfl))
 f334:=Tryz.func284.trans (congrArg some (by kernel_rfl))
 f335:=Tryz.func285.trans (congrArg some (by kernel_rfl))
 f336:=Tryz.func286.trans (congrArg some (by kernel_rfl))
 f344:=Tryz.func297.trans (congrArg some (by kernel_rfl))
 t0:=Tryz.underlying0
 a0:=Tryz.isAgg0
 z0:=Tryz.sizeOf0
 v0:=Tryz.zeroValue0
 t3:=Tryz.underlying3
 a3:=Tryz.isAgg3
 z3:=Tryz.sizeOf3
 v3:=Tryz.zeroValue3
 t4:=Tryz.underlying4
 a4:=Tryz.isAgg4
 z4:=Tryz.sizeOf4
 v4:=Tryz.zeroValue4
 t5:=Tryz.underlying5
 a5:=Tryz.isAgg5
 z5:=Tryz.sizeOf5
 v5:=Tryz.zeroValue5
 t9:=Tryz.underlying9
 a9:=Tryz.isAgg9
 z9:=Tryz.sizeOf9
 v9:=Tryz.zeroValue9
 t31:=Tryz.underlying26
 a31:=Tryz.isAgg26
 z31:=Tryz.sizeOf26
 v31:=Tryz.zeroValue26
 t46:=Tryz.underlying167
 a46:=Tryz.isAgg167
 z46:=Tryz.sizeOf167
 v46:=Tryz.zeroValue167
 t51:=Tryz.underlying221
 a51:=Tryz.isAgg221
 z51:=Tryz.sizeOf221
 v51:=Tryz.zeroValue221
 t53:=Tryz.underlying223
 a53:=Tryz.isAgg223
 z53:=Tryz.sizeOf223
 v53:=Tryz.zeroValue223
 t131:=Tryz.underlying218
 a131:=Tryz.isAgg218
 z131:=Tryz.sizeOf218
 v131:=Tryz.zeroValue218
 t182:=Tryz.underlying213
 a182:=Tryz.isAgg213
 z182:=Tryz.sizeOf213
 v182:=Tryz.zeroValue213
 t183:=Tryz.underlying214
 a183:=Tryz.isAgg214
 z183:=Tryz.sizeOf214
 v183:=Tryz.zeroValue214
 t218:=Tryz.underlying249
 a218:=Tryz.isAgg249
 z218:=Tryz.sizeOf249
 v218:=Tryz.zeroValue249
 t222:=Tryz.underlying253
 a222:=Tryz.isAgg253
 z222:=Tryz.sizeOf253
 v222:=Tryz.zeroValue253
 t228:=Tryz.underlying277
 a228:=Tryz.isAgg277
 z228:=Tryz.sizeOf277
 v228:=Tryz.zeroValue277
 t229:=Tryz.underlying278
 a229:=Tryz.isAgg278
 z229:=Tryz.sizeOf278
 v229:=Tryz.zeroValue278 }
open Go.Sort Go.RowKit in
theorem Tryz.slices_Sort_string (blk off cap : Nat) (ss : List (List UInt8)) (w : World) (hH : Holds encStr w blk off ss.toArray) (hblk : blk < w.heap.size) (hsz : ss.length < 4611686018427387904) :
  Calls Tryz.prog 146 #[.slice (some ⟨blk,off,none⟩) ss.length cap] w fun e w'=>
   e = .returned (.tuple #[]) /\ ∃ n os,w' = grow (putRow encStr (Sort.ahead w n) blk off (ss.mergeSort fun x y=>decide (x <= y)).toArray) os:=Any.slices_Sort_string Tryz.lays190 blk off cap ss w hH hblk hsz
def Tryz.lays193_ren : Go.Shelf.Ren:=⟨fun | 193=>186 | n=>n,fun | 31=>26 | 9=>9 | 4=>4 | 3=>3 | 0=>0 | n=>n,fun | n=>n⟩
theorem Tryz.lays193 : Go.Proofs.Lays.n193 Tryz.prog Tryz.lays193_ren:={
 mixed:=by kernel_rfl
 f193:=Tryz.func186.trans (congrArg some (by kernel_rfl))
 t0:=Tryz.underlying0
 a0:=Tryz.isAgg0
 z0:=Tryz.sizeOf0
 v0:=Tryz.zeroValue0
 t3:=Tryz.underlying3
 a3:=Tryz.isAgg3
 z3:=Tryz.sizeOf3
 v3:=Tryz.zeroValue3
 t4:=Tryz.underlying4
 a4:=Tryz.isAgg4
 z4:=Tryz.sizeOf4
 v4:=Tryz.zeroValue4
 t9:=Tryz.underlying9
 a9:=Tryz.isAgg9
 z9:=Tryz.sizeOf9
 v9:=Tryz.zeroValue9
 t31:=Tryz.underlying26
 a31:=Tryz.isAgg26
 z31:=Tryz.sizeOf26
 v31:=Tryz.zeroValue26 }
open Go.RowKit Go.Lib in
theorem Tryz.slices_Equal_string (b1 o1 n c b2 o2 m d : Nat) (xs ys : List ByteArray) (w : World) (hx : n <= xs.length) (hy : m <= ys.length) (hbig : n <= 9223372036854775807) (hbig2 : m <= 9223372036854775807) (hc1 : ∀ j,j < xs.length -> w.cell? ⟨b1,o1 + j,none⟩ = some (.string (xs.getD j ByteArray.empty))) (hc2 : ∀ j,j < ys.length -> w.cell? ⟨b2,o2 + j,none⟩ = some (.string (ys.getD j ByteArray.empty))) :
  Calls Tryz.prog 186 #[.slice (some ⟨b1,o1,none⟩) n c,.slice (some ⟨b2,o2,none⟩) m d] w fun e w'=>e = .returned (.bool (decide (xs.take n = ys.take m))) /\ ∃ q,w' = w.drewN q:=Any.slices_Equal_string Tryz.lays193 b1 o1 n c b2 o2 m d xs ys w hx hy hbig hbig2 hc1 hc2
open Go.RowKit Go.Lib in
theorem Tryz.slices_Equal_string_empty (a1 a2 : Option Addr) (c m d : Nat) (w : World) (hbig2 : m <= 9223372036854775807) :
  Calls Tryz.prog 186 #[.slice a1 0 c,.slice a2 m d] w fun e w'=>e = .returned (.bool (decide (m = 0))) /\ w' = w:=Any.slices_Equal_string_empty Tryz.lays193 a1 a2 c m d w hbig2
def Tryz.lays194_ren : Go.Shelf.Ren:=⟨fun | 194=>235 | n=>n,fun | 31=>26 | 9=>9 | 3=>3 | 4=>4 | 0=>0 | n=>n,fun | n=>n⟩
theorem Tryz.lays194 : Go.Proofs.Lays.n194 Tryz.prog Tryz.lays194_ren:={
 mixed:=by kernel_rfl
 f194:=Tryz.func235.trans (congrArg some (by kernel_rfl))
 t0:=Tryz.underlying0
 a0:=Tryz.isAgg0
 z0:=Tryz.sizeOf0
 v0:=Tryz.zeroValue0
 t3:=Tryz.underlying3
 a3:=Tryz.isAgg3
 z3:=Tryz.sizeOf3
 v3:=Tryz.zeroValue3
 t4:=Tryz.underlying4
 a4:=Tryz.isAgg4
 z4:=Tryz.sizeOf4
 v4:=Tryz.zeroValue4
 t9:=Tryz.underlying9
 a9:=Tryz.isAgg9
 z9:=Tryz.sizeOf9
 v9:=Tryz.zeroValue9
 t31:=Tryz.underlying26
 a31:=Tryz.isAgg26
 z31:=Tryz.sizeOf26
 v31:=Tryz.zeroValue26 }
open Go.RowKit Go.Lib Go.Sort in
theorem Tryz.slices_Compact_string (blk off cap : Nat) (zs : List (List UInt8)) (w : World) (hH : Holds encStr w blk off zs.toArray) (hsz : zs.length <= 9223372036854775807) (hcap : zs.length <= cap) :
  Calls Tryz.prog 235 #[.slice (some ⟨blk,off,none⟩) zs.length cap] w fun e w'=>e = .returned (.slice (some ⟨blk,off,none⟩) (Lib.compact zs).length cap) /\ ∃ q,w' = putRow encStr (Sort.ahead w q) blk off (Lib.compact zs ++ List.replicate (zs.length - (Lib.compact zs).length) []).toArray:=Any.slices_Compact_string Tryz.lays194 blk off cap zs w hH hsz hcap
open Go.RowKit Go.Lib Go.Sort in
theorem Tryz.slices_Compact_string_empty (a : Option Addr) (cap : Nat) (w : World) :
  Calls Tryz.prog 235 #[.slice a 0 cap] w fun e w'=>e = .returned (.slice a 0 cap) /\ w' = w:=Any.slices_Compact_string_empty Tryz.lays194 a cap w
open Go.RowKit Go.Sort in
theorem Tryz.slices_Sort_string_none (p : Option Addr) (cap : Nat) (w : World) :
  Calls Tryz.prog 146 #[.slice p 0 cap] w fun e w'=>e = .returned (.tuple #[]) /\ w' = w:=Any.slices_Sort_string_none Tryz.lays190 p cap w
open Go.RowKit Go.Lib in
theorem Tryz.slices_Equal_string_lens (a1 a2 : Option Addr) (n c m d : Nat) (w : World) (hnm : n ≠ m) :
  Calls Tryz.prog 186 #[.slice a1 n c,.slice a2 m d] w fun e w'=>e = .returned (.bool false) /\ w' = w:=Any.slices_Equal_string_lens Tryz.lays193 a1 a2 n c m d w hnm
end Go.Proofs


namespace Go.Proofs.YtjbmjnbkibmkpaaGreatDoor
open Go.RowKit Go.Shelf Go.Sort
namespace Ve
theorem map_bl (X : List ByteArray) : (bl X).map encStr = X.map Value.string:=by simp [bl]
def ba' (t : List UInt8) : ByteArray:=⟨t.toArray⟩
def srtB (Z : List (List UInt8)) : List (List UInt8):=Z.mergeSort fun x y=>decide (x <= y)
def risB (Z : List (List UInt8)) : List (List UInt8):=Lib.compact (srtB Z)
theorem srtB_len (Z : List (List UInt8)) : (srtB Z).length = Z.length:=by simp [srtB]
theorem values_any (a : Option Addr) (len cap : Nat) (w : World) :
  Calls Tryz.prog 236 #[.slice a len cap] w fun e w'=>e = .returned (.func (.func 273) #[] #[.pointer (some ⟨w.heap.size,0,none⟩)]) /\ w' = w.alloc (.cells #[.slice a len cap] 26):=
 (callsIn_wide (n:=4)).1 (values_in Fence.wide 4 trivial rfl a len cap w)
set_option maxRecDepth 100000 in
theorem sorted_any (X : List ByteArray) (hX : X.length <= 1000000) (sv : Value) (w : World) (Bs : Nat) (hBs : Bs < w.heap.size) (hc : w.cell? ⟨Bs,0,none⟩ = some sv) (hI : TxAt w sv X) :
  Calls Tryz.prog 104 #[.func (.func 273) #[] #[.pointer (some ⟨Bs,0,none⟩)]] w fun e W'=>∃ v,e = .returned v /\ W'.ownsRow w.heap.size 9 1 v X.length ((srtB (bl X)).map encStr) /\ Below w.heap.size w W':=by
 have HCL:=hid (collect_any X hX sv w Bs hBs hc hI)
 clear hc hI
 go_enter Tryz.func104,Tryz.ntmps104
 go_wp2_with fail
 refine HCL.out.mono ?_
 rintro e W ⟨v,rfl,hrow,hnil,hb⟩
 have HB:=hid hb
 have HROW:=hid hrow
 rcases hrow.2 with ⟨rfl,hz⟩ | ⟨gb,cap,cur,rfl,hbase,hgb,r1,r2,r3,r4⟩
 ·have hss : X = []:=List.eq_nil_of_length_eq_zero hz
  subst hss
  have HS:=hid (Tryz.slices_Sort_string_none none 0 W)
  clear hrow hnil hb hz
  go_wp2_with fail
  refine HS.out.mono ?_
  rintro e w1 ⟨rfl,rfl⟩
  go_wp2_with fail
  go_ret
  exact ⟨_,rfl,by simpa [srtB,bl] using World.ownsRow_nil w1 w.heap.size 9 1,HB.out⟩
 ·have hlen : (bl X).length = X.length:=bl_len X
  have hH : Holds encStr W gb 0 (bl X).toArray:=holds_of_block hgb (by rw [map_bl,hlen]; simpa using r4)
  have hgl : gb < W.heap.size:=(Array.getElem?_eq_some_iff.1 hgb).1
  have HS:=hid (Tryz.slices_Sort_string gb 0 cap (bl X) W hH hgl (by rw [hlen]; omega))
  rw [hlen] at HS
  have HO:=hid (fun n os=>ownsRow_sorted (n:=n) (os:=os) (ss:=bl X) (ts:=srtB (bl X)) (srtB_len _) hbase hgb (by rw [hlen]; exact r1) r2 r3)
  have HBS:=hid hbase
  clear hrow hnil hb hH r1 r2 r3 r4 hgb
  go_wp2_with fail
  refine HS.out.mono ?_
  rintro e w1 ⟨rfl,nn,os,rfl⟩
  have HBB:=hid (HB.out.grown (grownBy_sorted (w:=W) (g:=gb) (n:=nn) (os:=os) (srtB (bl X)).toArray) HB.out.size (fun j hj=>by cases hj; exact HBS.out))
  have HOO:=hid (HO.out nn os)
  rw [hlen] at HOO
  have HWW:=hid (show ∃ W2,grow (putRow encStr (Sort.ahead W nn) gb 0 ((bl X).mergeSort fun x y=>decide (x <= y)).toArray) os = W2 from ⟨_,rfl⟩)
  obtain ⟨W2,hW2⟩:=HWW.out
  have HOO2:=hid (show W2.ownsRow w.heap.size 9 1 (.slice (some ⟨gb,0,none⟩) X.length cap) X.length ((srtB (bl X)).map encStr) by rw [<- hW2]; exact HOO.out)
  have HBB2:=hid (show Below w.heap.size w W2 by rw [<- hW2]; exact HBB.out)
  rw [hW2]
  clear HOO HBB HO HWW hW2
  go_wp2_with fail
  go_ret
  exact ⟨_,rfl,HOO2.out,HBB2.out⟩
theorem owns_compact {w : World} {base g cap n : Nat} {e : TypeId} {cur : Array Value} {C R : List (List UInt8)} (hbase : base <= g) (hb : w.heap[g]? = some (.cells cur e (0,0)))
  (h1 : C.length + R.length <= cap) (h2 : cap <= maxLen) (h3 : cur.size = cap * 1) :
  (putRow encStr (Sort.ahead w n) g 0 (C ++ R).toArray).ownsRow base e 1 (.slice (some ⟨g,0,none⟩) C.length cap) C.length (C.map encStr):=by
 have hs:=heap_sorted (n:=n) (os:=#[]) (C ++ R).toArray hb
 rw [grow_empty] at hs
 refine ⟨by simp,.inr ⟨g,cap,_,rfl,hbase,hs,by omega,h2,by simp [putCells,h3],?_⟩⟩
 have ht:=take_putCells cur (C ++ R) (by rw [List.length_append]; omega)
 have:=congrArg (List.take C.length) ht
 rw [List.take_take,List.length_append,Nat.min_eq_left (by omega),List.map_append,List.take_append_of_le_length (by simp),List.take_of_length_le (l:=List.map encStr C) (by simp)] at this
 rw [Nat.mul_one]; exact this
theorem grownBy_compact {w : World} {g n : Nat} (d : Array (List UInt8)) : w.grownBy (putRow encStr (Sort.ahead w n) g 0 d) (some g):=by
 have:=grownBy_sorted (w:=w) (g:=g) (n:=n) (os:=#[]) d
 rwa [grow_empty] at this
theorem compact_le (zs : List (List UInt8)) : (Lib.compact zs).length <= zs.length:=by
 unfold Lib.compact Lib.compactUpTo
 rw [List.length_map]
 exact Nat.le_trans (List.length_filter_le _ _) (by simp)
def tx (Z : List (List UInt8)) : List ByteArray:=Z.map ba'
theorem tx_str (Z : List (List UInt8)) : (tx Z).map Value.string = Z.map encStr:=by simp [tx,ba']
theorem bl_tx (Z : List (List UInt8)) : bl (tx Z) = Z:=by
 unfold bl tx
 rw [List.map_map]
 exact (List.map_congr_left fun t _=>show (ba' t).data.toList = t by simp [ba']).trans (List.map_id _)
theorem tx_len (Z : List (List UInt8)) : (tx Z).length = Z.length:=by simp [tx]
theorem own_txB {w : World} {B : Nat} {e : TypeId} {v : Value} {Z : List (List UInt8)} (h : w.ownsRow B e 1 v Z.length (Z.map encStr)) : w.ownsRow B e 1 v (tx Z).length ((tx Z).map Value.string):=by
 rw [tx_str,tx_len]; exact h
set_option maxRecDepth 100000 in
theorem rising_any (X : List ByteArray) (hX : X.length <= 1000000) (sv : Value) (w : World) (hI : TxAt w sv X) :
  Calls Tryz.prog 187 #[sv] w fun e W'=>∃ v,e = .returned v /\ W'.ownsRow w.heap.size 9 1 v (tx (risB (bl X))).length ((tx (risB (bl X))).map Value.string) /\ Below w.heap.size w W':=by
 obtain ⟨a,c,rfl,hac,_⟩:=id hI
 have HV:=hid (values_any a X.length c w)
 have HB1:=hid ((Below.refl w.heap.size w).alloc (Nat.le_refl _) (.cells #[.slice a X.length c] 26))
 have HSO:=hid (sorted_any X hX (.slice a X.length c) (w.alloc (.cells #[.slice a X.length c] 26)) w.heap.size (by simp) (by rw [Lib.cell_of_heap (heap_alloc_new w _)]; rfl) (hI.below HB1.out))
 clear hI hac
 go_enter Tryz.func187,Tryz.ntmps187
 go_wp2_with fail
 refine HV.out.mono ?_
 rintro e w1 ⟨rfl,rfl⟩
 go_wp2_with fail
 refine HSO.out.mono ?_
 rintro e W ⟨v,rfl,hrow,hb⟩
 have HB:=hid (HB1.out.trans (hb.mono (by simp)))
 rcases hrow.2 with ⟨rfl,hz⟩ | ⟨gb,cap,cur,rfl,hbase,hgb,r1,r2,r3,r4⟩
 ·have hss : X = []:=List.eq_nil_of_length_eq_zero hz
  subst hss
  have HS:=hid (Tryz.slices_Compact_string_empty none 0 W)
  clear hrow hb hz
  go_wp2_with fail
  refine HS.out.mono ?_
  rintro e w1 ⟨rfl,rfl⟩
  go_wp2_with fail
  go_ret
  exact ⟨_,rfl,by simpa [risB,srtB,bl,tx,Lib.compact,Lib.compactUpTo] using World.ownsRow_nil w1 w.heap.size 9 1,HB.out⟩
 ·have hlen : (srtB (bl X)).length = X.length:=by rw [srtB_len,bl_len]
  have hH : Holds encStr W gb 0 (srtB (bl X)).toArray:=holds_of_block hgb (by rw [hlen]; simpa using r4)
  have HS:=hid (Tryz.slices_Compact_string gb 0 cap (srtB (bl X)) W hH (by rw [hlen]; omega) (by rw [hlen]; exact r1))
  rw [hlen] at HS
  have hcl:=compact_le (srtB (bl X))
  have hgw : w.heap.size <= gb:=by simp at hbase; omega
  have HO:=hid (fun n=>owns_compact (n:=n) (base:=w.heap.size) (C:=risB (bl X)) (R:=List.replicate (X.length - (Lib.compact (srtB (bl X))).length) []) hgw hgb (by rw [List.length_replicate]; unfold risB; omega) r2 r3)
  have HBS:=hid hgw
  clear hrow hb hH r1 r2 r3 r4 hgb hbase
  go_wp2_with fail
  refine HS.out.mono ?_
  rintro e w1 ⟨rfl,nn,hw1⟩
  have HBB:=hid (HB.out.grown (grownBy_compact (w:=W) (g:=gb) (n:=nn) (Lib.compact (srtB (bl X)) ++ List.replicate (X.length - (Lib.compact (srtB (bl X))).length) []).toArray) HB.out.size (fun j hj=>by cases hj; exact HBS.out))
  have HOO:=hid (HO.out nn)
  rw [<- hw1] at HBB
  have HOO2:=hid (show w1.ownsRow w.heap.size 9 1 (.slice (some ⟨gb,0,none⟩) (risB (bl X)).length cap) (risB (bl X)).length ((risB (bl X)).map encStr) by rw [hw1]; exact HOO.out)
  clear HOO HO hw1
  go_wp2_with fail
  go_ret
  exact ⟨_,rfl,own_txB HOO2.out,HBB.out⟩
end Ve
end Go.Proofs.YtjbmjnbkibmkpaaGreatDoor
