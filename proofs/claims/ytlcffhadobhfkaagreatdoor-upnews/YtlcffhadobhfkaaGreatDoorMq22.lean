/-
  IxQ GrC Opn IxE
-/
import Derived.Deep.SlicePairs
import Derived.Test.YtlcffhadobhfkaaGreatDoorMq6
import Derived.Test.YtlcffhadobhfkaaGreatDoorMq11
import Derived.Test.YtlcffhadobhfkaaGreatDoorMq9
import Derived.Test.YtlcffhadobhfkaaGreatDoorMq18
import Derived.Test.YtlcffhadobhfkaaGreatDoorMq19
import Derived.Test.YtlcffhadobhfkaaGreatDoorMq20
import Derived.Test.YtlcffhadobhfkaaGreatDoorMq2
import Derived.Test.YtlcffhadobhfkaaGreatDoorMq5
import Derived.Test.YtlcffhadobhfkaaGreatDoorMq3
import Derived.Test.YtlcffhadobhfkaaGreatDoorMq8
import Derived.Test.YtlcffhadobhfkaaGreatDoorMq16
namespace Go.Proofs.YtlcffhadobhfkaaGreatDoor
open Go.RowKit
namespace Ve
theorem idx_is {P : Raw -> Bool} {L : List Raw} {k : Nat} (h : idxOf P L = (k : Int)) : ∃ hk : k < L.length,P L[k] = true:=by
  unfold idxOf at h
  cases h1 : fstE (idxE P L) L.length with
  | none=>rw [h1] at h; simp only at h; omega
  | some j=>
    rw [h1] at h
    simp only at h
    have e : j = k:=by omega
    subst e
    obtain ⟨a,b,_⟩:=fstE_of_some h1
    refine ⟨a,?_⟩
    rw [idxE_at a] at b
    cases hp : P L[j] with
    | true=>rfl
    | false=>rw [hp] at b; exact absurd rfl b
theorem ErrAt.kind {W : World} {A : Nat -> Addr} {x : Value} {c : Nat} {o : Option Nat} (h : ErrAt W A x c o) : (c = 0 /\ x = .nilIface) \/ (c ≠ 0 /\ ∃ T a,x = .iface T (.pointer (some a))):=by
  cases o with
  | none=>
    have h : x = errA A c:=h
    by_cases hc : c = 0
    · subst hc; exact Or.inl ⟨rfl,h⟩
    · obtain ⟨a,ha⟩:=errA_ne A hc
      exact Or.inr ⟨hc,_,a,h.trans ha⟩
  | some i=>
    obtain ⟨h1,b,h2,_⟩:=h
    exact Or.inr ⟨h1,_,_,h2⟩
open Go.Maps
structure Wk (w0 W : World) (bb ob mb : Nat) (T : By) : Prop where
  bl : Below w0.heap.size w0 W
  sz : szT T
  b1 : w0.heap.size <= bb
  b2 : w0.heap.size <= ob
  b3 : w0.heap.size <= mb
  bc : W.heap[bb]? = some (.cells #[.map (some mb)] 86 (0,0))
  mp : ByAt W mb T
  oc : ∃ ov,W.heap[ob]? = some (.cells #[ov] 23 (0,0)) /\ W.ownsRow w0.heap.size 25 2 ov T.length (flatM (whoT T))
theorem Wk.below {w0 W W' : World} {bb ob mb : Nat} {T : By} (h : Wk w0 W bb ob mb T) (hb : Below W.heap.size W W') : Wk w0 W' bb ob mb T:=by
  obtain ⟨ov,h1,h2⟩:=h.oc
  exact ⟨h.bl.trans (hb.mono h.bl.size),h.sz,h.b1,h.b2,h.b3,(hb.block _ (lt_of_blk h.bc)).trans h.bc,h.mp.below hb,ov,(hb.block _ (lt_of_blk h1)).trans h1,owns_below h2 hb⟩
theorem flatM_who (T : By) (m f : Bm) : flatM (whoT (T ++ [(m,f)])) = flatM (whoT T) ++ [.string m.1,.string m.2]:=by
  rw [whoT_app,flatM_app]; simp [flatM]
theorem ByAt.block {w : World} {b : Nat} {T : By} (h : ByAt w b T) : ∃ es clock,w.heap[b]? = some (.map es clock):=by
  obtain ⟨es,clock,h1,_⟩:=h
  exact ⟨es,clock,h1⟩
theorem ByAt.ne {w : World} {b g : Nat} {T : By} {cs : Array Value} {t : TypeId} {fr : Nat × Nat} (h : ByAt w b T) (hg : w.heap[g]? = some (.cells cs t fr)) : g ≠ b:=fun e=>by
  obtain ⟨es,clock,h1⟩:=h.block
  subst e
  rw [h1] at hg
  cases hg
theorem ByAt.far {w w2 : World} {b B n : Nat} {T : By} {v : Value} {e : TypeId} {xs : List Value} (h : ByAt w b T) (hg : w.grownBy w2 (some b)) (ho : w.ownsRow B e 2 v n xs) : w2.ownsRow B e 2 v n xs:=
  owns_far ho hg fun g hv=>by
    obtain ⟨hl,⟨h1,_⟩ | ⟨g',cap,cur,e1,e2,e3,_⟩⟩:=ho
    · rw [h1] at hv; cases hv
    · rw [e1] at hv
      have : g' = g:=by simpa [Value.ownBlock] using hv
      subst this
      intro e
      exact h.ne e3 (by simpa using e.symm)
theorem Wk.more {w0 w1 w2 w3 : World} {bb ob mb : Nat} {T : By} {m f : Bm} {ov v' : Value} {o : Obj} (h : Wk w0 w1 bb ob mb T) (hm : m.1.size <= maxLen /\ m.2.size <= maxLen) (o1 : w1.heap[ob]? = some (.cells #[ov] 23 (0,0))) (o2 : w1.ownsRow w0.heap.size 25 2 ov T.length (flatM (whoT T)))
    (hown : w2.ownsMap Tryz.prog 25 rB mb (T.length + 1) ((datB T).put (kL m) (.held f))) (hg : w1.grownBy w2 (some mb)) (hown3 : w3.ownsRow w0.heap.size 25 2 v' (T.length + 1) (flatM (whoT T) ++ [.string m.1,.string m.2])) (hg3 : (w2.alloc o).grownBy w3 ov.ownBlock) :
    Wk w0 (w3.setCell ⟨ob,0,none⟩ v') bb ob mb (T ++ [(m,f)]):=by
  have hs1:=h.bl.size
  have l1:=lt_of_blk h.bc
  have l2:=lt_of_blk o1
  obtain ⟨es,clock,hm1⟩:=ByAt.block h.mp
  have l3:=lt_of_blk hm1
  have n1 : bb ≠ mb:=h.mp.ne h.bc
  have n2 : ob ≠ mb:=h.mp.ne o1
  have n3 : bb ≠ ob:=fun e=>by
    subst e
    have:=h.bc.symm.trans o1
    simp at this
  have o2':=h.mp.far hg o2
  have r1 : ov.ownBlock ≠ some bb:=own_ne2 o2 h.bc (by decide)
  have r2 : ov.ownBlock ≠ some ob:=own_ne2 o2 o1 (by decide)
  have r3 : ov.ownBlock ≠ some mb:=fun e=>by
    obtain ⟨hl,⟨h1,_⟩ | ⟨g',cap,cur,e1,e2,e3,_⟩⟩:=o2
    · rw [h1] at e; cases e
    · rw [e1] at e
      have : g' = mb:=by simpa [Value.ownBlock] using e
      exact h.mp.ne e3 this
  have sz2:=hg.size
  have step : ∀ b,b < w1.heap.size -> b ≠ mb -> ov.ownBlock ≠ some b -> w3.heap[b]? = w1.heap[b]?:=fun b hb hne hr=>by
    rw [hg3.block b (by simp; omega) (fun e=>hr e.symm),((Below.refl w2.heap.size w2).alloc (Nat.le_refl _) o).block b (by omega),hg.block b hb (by simp [hne])]
  have q1:=(step bb l1 n1 r1).trans h.bc
  have q2:=(step ob l2 n2 r2).trans o1
  have q3 : w3.heap[mb]? = w2.heap[mb]?:=by
    rw [hg3.block mb (by simp; omega) (fun e=>r3 e.symm),((Below.refl w2.heap.size w2).alloc (Nat.le_refl _) o).block mb (by omega)]
  have b2 : Below w0.heap.size w0 w2:=h.bl.grown hg hs1 (fun k hk=>by cases hk; exact h.b3)
  have b3 : Below w0.heap.size w0 w3:=(b2.alloc b2.size o).grown hg3 (by simp; have:=b2.size; omega) (fun k hk=>(o2.lt k hk).1)
  refine ⟨b3.setCell (p:=⟨ob,0,none⟩) h.b2 v',?_,h.b1,h.b2,h.b3,keep_set q1 n3,?_,v',?_,?_⟩
  · intro x hx
    rcases List.mem_append.1 hx with hx | hx
    · exact h.sz x hx
    · simp at hx; subst hx; exact hm
  · unfold ByAt
    rw [datB_app,List.length_append]
    obtain ⟨es2,clock2,h1,F,hs,hD⟩:=hown
    exact ⟨es2,clock2,by rw [Below.heap_setCell _ _ _ _ (Ne.symm n2),q3]; exact h1,F,hs,hD⟩
  · have:=set_block (o:=0) (x:=v') q2
    simpa using this
  · rw [flatM_who,List.length_append]
    exact owns_set hown3 (own_ne2 hown3 q2 (by decide))
set_option maxRecDepth 100000 in
set_option maxHeartbeats 2000000 in
theorem come_any (w0 W : World) (bb ob mb : Nat) (T : By) (m f : Bm) (hm : m.1.size <= maxLen /\ m.2.size <= maxLen) (hl : T.length <= 1000) (h : Wk w0 W bb ob mb T) :
    Calls Tryz.prog 113 #[.agg #[.string m.1,.string m.2],.agg #[.string f.1,.string f.2],.pointer (some ⟨bb,0,none⟩),.pointer (some ⟨ob,0,none⟩)] W fun e w'=>e = .returned (.tuple #[]) /\ Wk w0 w' bb ob mb (comeT T m f):=by
  obtain ⟨i0,hi0,hz0,hz1,hz2⟩:=info_parts infoMod
  have HBa:=hid (((Below.refl W.heap.size W).alloc (Nat.le_refl _) (.cells #[.string m.1,.string m.2] 25)).alloc (by simp) (.cells #[.string f.1,.string f.2] 25))
  have HW:=hid (h.below HBa.out)
  have HC:=hid (came_any mb T m _ hm HW.out.sz HW.out.mp)
  have c0 : ((W.alloc (.cells #[.string m.1,.string m.2] 25)).alloc (.cells #[.string f.1,.string f.2] 25)).cell? ⟨bb,0,none⟩ = some (.map (some mb)):=by rw [Lib.cell_of_heap HW.out.bc]; rfl
  have HM:=hid hm
  clear h hm
  go_enter Tryz.func113,Tryz.ntmps113
  go_wp2_with fail
  refine HC.out.mono ?_
  rintro e w1 ⟨rfl,hb⟩
  have HW1:=hid (HW.out.below hb)
  have e0 : w1.heap[W.heap.size]? = some (.cells #[.string m.1,.string m.2] 25 (0,0)):=by
    rw [hb.block _ (by simp; omega)]; exact heap_old _ _ (heap_new W _)
  have e1 : w1.heap[W.heap.size + 1]? = some (.cells #[.string f.1,.string f.2] 25 (0,0)):=by
    rw [hb.block _ (by simp)]
    have:=heap_new (W.alloc (.cells #[.string m.1,.string m.2] 25)) (.cells #[.string f.1,.string f.2] 25)
    rw [show (W.alloc (.cells #[.string m.1,.string m.2] 25)).heap.size = W.heap.size + 1 by simp] at this
    exact this
  clear hb
  cases hc : cameB T m with
  | true=>
    go_wp2_with fail
    go_end0
    exact ⟨rfl,by rw [come_yes hc]; exact HW1.out⟩
  | false=>
    have HCN:=hid hc
    obtain ⟨ov,o1,o2⟩:=HW1.out.oc
    have HO1:=hid o1
    have HO2:=hid o2
    have k0 : w1.cell? ⟨bb,0,none⟩ = some (.map (some mb)):=by rw [Lib.cell_of_heap HW1.out.bc]; rfl
    have k1 : w1.cell? ⟨W.heap.size,0,none⟩ = some (.string m.1):=by rw [Lib.cell_of_heap e0]; rfl
    have k2 : w1.cell? ⟨W.heap.size,1,none⟩ = some (.string m.2):=by rw [Lib.cell_of_heap e0]; rfl
    have k3 : w1.cell? ⟨W.heap.size + 1,0,none⟩ = some (.string f.1):=by rw [Lib.cell_of_heap e1]; rfl
    have k4 : w1.cell? ⟨W.heap.size + 1,1,none⟩ = some (.string f.2):=by rw [Lib.cell_of_heap e1]; rfl
    have HE0:=hid e0
    clear o1 o2 e0 e1 hc c0
    go_wp2_with (at_mapUpdate; refine wpList_mapUpdate_own _ rfl _ _ _ 86 rfl 25 25 modKey Tryz.underlying86 rB mb T.length (datB T) rfl HW1.out.mp (by unfold maxLen; omega) (modV m) (modV f) (kL m) rfl rfl (keyOf_mod m HM.out.1 HM.out.2) (.held f) [] (rB_mod f) ?_)
    intro w2 hown hgrow
    have HOWN:=hid hown
    have HGR:=hid hgrow
    have n1:=HW1.out.mp.ne HE0.out
    have n2:=HW1.out.mp.ne HO1.out
    have j0 : w2.heap[W.heap.size]? = some (.cells #[.string m.1,.string m.2] 25 (0,0)):=(hgrow.block _ (lt_of_blk HE0.out) (by simp [n1])).trans HE0.out
    have j1 : w2.heap[ob]? = some (.cells #[ov] 23 (0,0)):=(hgrow.block _ (lt_of_blk HO1.out) (by simp [n2])).trans HO1.out
    have HOV:=hid (HW1.out.mp.far hgrow HO2.out)
    obtain ⟨oa,oc,hov⟩:=own_slN HO2.out
    subst hov
    have i1 : w2.cell? ⟨W.heap.size,0,none⟩ = some (.string m.1):=by rw [Lib.cell_of_heap j0]; rfl
    have i2 : w2.cell? ⟨W.heap.size,1,none⟩ = some (.string m.2):=by rw [Lib.cell_of_heap j0]; rfl
    have i3 : w2.cell? ⟨ob,0,none⟩ = some (.slice oa T.length oc):=by rw [Lib.cell_of_heap j1]; rfl
    have HJ1:=hid j1
    have HNE:=hid (own_ne2 HOV.out j1 (by decide))
    have hsz:=HW1.out.bl.size
    have hsz2:=hgrow.size
    clear hown hgrow j0 j1 k0 k1 k2 k3 k4 n1 n2
    go_wp2_with (at_builtin; refine wpList_append_own _ rfl _ _ 23 rfl w0.heap.size 25 i0 _ 2 32 Tryz.underlying23 hi0 hz0 hz1 hz2 rfl (by decide) _ _ _ rfl (HOV.out.alloc _) ⟨w2.heap.size,0,none⟩ 1 1 [.string m.1,.string m.2] rfl rfl ?c1 ?c2 ?c3 ?c4 ?c5 ?_)
    case c1=>exact World.news_of_block (cs:=#[.string m.1,.string m.2]) (t:=25) (fr:=(0,0)) (heap_alloc_new w2 _)
    case c2=>
      intro u hu
      simp at hu
      rcases hu with rfl | rfl <;> rfl
    case c3=>unfold maxLen; omega
    case c4=>omega
    case c5=>simp; omega
    intro v' w3 hown3 hgrow3 _
    have HF:=hid (HW1.out.more HM.out HO1.out HO2.out HOWN.out HGR.out hown3 hgrow3)
    have q2 : w3.heap[ob]? = some (.cells #[.slice oa T.length oc] 23 (0,0)):=by
      rw [hgrow3.block ob (by have:=lt_of_blk HJ1.out; simp; omega) (fun e=>HNE.out e.symm),((Below.refl w2.heap.size w2).alloc (Nat.le_refl _) _).block ob (lt_of_blk HJ1.out)]
      exact HJ1.out
    have i4 : w3.cell? ⟨ob,0,none⟩ = some (.slice oa T.length oc):=by rw [Lib.cell_of_heap q2]; rfl
    have i5 : w3.frozen? ⟨ob,0,none⟩ = false:=by simp [World.frozen?,q2]
    obtain ⟨va,vc,hv⟩:=own_slN hown3
    subst hv
    clear hown3 hgrow3 q2 i1 i2 i3
    go_wp2_with fail
    go_end0
    exact ⟨rfl,by rw [come_no HCN.out]; exact HF.out⟩
open Go.ChangeShapes Go.WideShapes Go.ChangeAt Go.ChangeMaps Go.Joins
theorem oCellsMod : Tryz.prog.cellsOf 25 = 2:=by kernel_rfl
theorem oCellsStr : Tryz.prog.cellsOf 9 = 1:=by kernel_rfl
def strOf : Value -> ByteArray
  | .string s=>s
  | _=>⟨#[]⟩
set_option maxRecDepth 100000 in
theorem open_ms {H : Type} {enc : TypeId × Value -> H} {w : World} {base fuel : Nat} {held : Bool} {v : Value} {x : DataW H × List MemPlace}
    (h : DataW.trod enc Tryz.prog w base (fun _=>true) held fuel 23 [v] = some x) : ∃ L,MsAt w v L /\ Em v L:=by
  rcases Go.Deep.open_slice_pairs Tryz.underlying23 Tryz.underlying25 oCellsMod rfl rfl oCellsStr oCellsStr h with ⟨hcs,_⟩ | ⟨a,len,cap,m,n,V0,V1,D0,D1,P0,P1,hcs,_,hl,_,hm,_,hx⟩
  · simp only [List.cons.injEq,and_true] at hcs
    subst hcs
    exact ⟨[],⟨none,0,rfl,Nat.le_refl _,fun h=>absurd rfl h⟩,fun a c e _=>Or.inl e.symm⟩
  · simp only [List.cons.injEq,and_true] at hcs
    subst hcs
    simp only [if_true] at hm
    subst hm
    have hlen : ((List.range len).map fun i=>(strOf (V0 i),strOf (V1 i))).length = len:=by simp
    refine ⟨(List.range len).map fun i=>(strOf (V0 i),strOf (V1 i)),⟨some a,m,by rw [hlen],by rw [hlen]; exact hl,fun hne=>?_⟩,fun a' c e h0=>?_⟩
    · have h0l : 0 < len:=by rw [<- hlen]; exact List.length_pos_iff.2 hne
      obtain ⟨b,off,spot⟩:=a
      have hspot : spot = none:=by simpa [Addr.add] using World.cell?_spot (hx 0 (by omega)).1
      subst hspot
      refine ⟨b,off,rfl,fun j hj=>?_⟩
      have hj2 : j < len:=by rw [<- hlen]; exact hj
      obtain ⟨g0,g1,t0,t1⟩:=hx j (by omega)
      obtain ⟨s0,e0,_,_⟩:=DataW.trod_string Tryz.underlying9 t0
      obtain ⟨s1,e1,_,_⟩:=DataW.trod_string Tryz.underlying9 t1
      simp only [List.cons.injEq,and_true] at e0 e1
      rw [e0] at g0
      rw [e1] at g1
      simp only [List.getElem_map,List.getElem_range,e0,e1]
      rw [Addr.add_lit] at g0 g1
      exact ⟨g0,g1⟩
    · have hz : len = 0:=by rw [<- hlen,h0]; rfl
      rw [hlen] at e
      subst hz
      right
      injection e with e1 e2 e3
      exact ⟨a,by rw [<- e1]⟩
set_option maxHeartbeats 4000000 in
set_option maxRecDepth 100000 in
theorem first_ents (K : Nat) (cb : Array Value) (E : Nat -> Nat) (L : List Raw) (b o c : Nat) (A : Nat -> Addr) (w : World) (eg : ∀ args w,(callFunc K args).run Tryz.prog w = .ok (.enter K args) w) (hL : L.length <= 1000000) (hs : ∀ r,r ∈ L -> slR r)
    (hc : ∀ j (h : j < L.length),w.cell? ⟨b,o + j * 5,none⟩ = some (.string L[j].1.1) /\ w.cell? ⟨b,o + j * 5 + 1,none⟩ = some (.string L[j].1.2) /\ w.cell? ⟨b,o + j * 5 + 2,none⟩ = some L[j].2.1 /\ w.cell? ⟨b,o + j * 5 + 3,none⟩ = some L[j].2.2.1 /\ w.cell? ⟨b,o + j * 5 + 4,none⟩ = some (.bool L[j].2.2.2))
    (hK : ∀ i (h : i < L.length) W,Below w.heap.size w W -> Calls Tryz.prog K (#[.int .i64 (i : Int),rawV L[i]] ++ cb) W fun e w'=>e = .returned (errA A (E i)) /\ Below W.heap.size W w') :
    Calls Tryz.prog 133 #[.slice (some ⟨b,o,none⟩) L.length c,.func (.func K) #[] cb] w fun e w'=>∃ v,e = .returned v /\ ErrAt w' A v (codeE E L.length) (fstE E L.length) /\ Below w.heap.size w w':=by
  have HK:=hid hK
  have HC:=hid hc
  have HSL:=hid hs
  clear hK hc hs
  go_enter Tryz.func133,Tryz.ntmps133
  go_wp2_with fail
  go_loopw [10] (fun i wr=>∃ k : Nat,k <= L.length /\ i = .int .i64 k /\ Hid (∀ j,j < k -> E j = 0) /\ Hid (Below w.heap.size w wr)) (fun i _=>L.length - (intOf i).toNat)
  case atStart=>exact ⟨0,Nat.zero_le _,rfl,hid (fun j hj=>absurd hj (by omega)),hid (Below.refl _ _)⟩
  case round=>
    obtain ⟨k,hk,rfl,HE,HB⟩:=hrel
    by_cases hlt : k < L.length
    · obtain ⟨y0,y1,y2,y3,y4⟩:=HC.out k hlt
      have x0:=cell_below HB.out y0
      have x1:=cell_below HB.out y1
      have x2:=cell_below HB.out y2
      have x3:=cell_below HB.out y3
      have x4:=cell_below HB.out y4
      have hsl:=HSL.out L[k] (List.getElem_mem hlt)
      have hkI : (k : Int) < (L.length : Int):=by omega
      have HLT:=hid hlt
      have HKK:=hid (fun W hW=>HK.out k hlt W hW)
      clear y0 y1 y2 y3 y4
      generalize L[k] = x at *
      obtain ⟨⟨p,q⟩,rv,pv,bk⟩:=x
      obtain ⟨⟨ra,rn,rc,hrv⟩,pa,pn,pc,hpv⟩:=hsl
      simp only at hrv hpv
      subst hrv
      subst hpv
      have HBa:=hid (HB.out.alloc HB.out.size (.cells #[.string p,.string q,.slice ra rn rc,.slice pa pn pc,.bool bk] 45))
      have HP:=hid (HKK.out _ HBa.out)
      unfold rawV at HP
      clear hlt HKK
      by_cases h0 : E k = 0
      · rw [h0,errA0] at HP
        have H0:=hid h0
        clear h0
        go_wp2_with fail
        refine HP.out.mono ?_
        rintro e w1 ⟨rfl,hb1⟩
        have HB1:=hid (HBa.out.trans (hb1.mono HBa.out.size))
        clear hb1
        go_wp2_with fail
        go_roundw
        case rel=>exact ⟨k + 1,by have:=HLT.out; omega,by go_num,hid (fun j hj=>by
          rcases Nat.lt_or_ge j k with h | h
          · exact HE.out j h
          · have : j = k:=by omega
            rw [this]; exact H0.out),HB1⟩
        case measure=>have:=HLT.out; simp [intOf]; omega
      · rw [errA_if A h0] at HP
        have HF:=hid (fstE_some HE.out h0 HLT.out)
        have H0:=hid h0
        clear h0
        go_wp2_with fail
        refine HP.out.mono ?_
        rintro e w1 ⟨rfl,hb1⟩
        have HB1:=hid (HBa.out.trans (hb1.mono HBa.out.size))
        clear hb1
        go_wp2_with fail
        go_ret
        refine ⟨_,rfl,?_,HB1.out.alloc HB1.out.size _⟩
        rw [codeE_some HF.out,HF.out]
        exact fault_at H0.out _
    · have HF:=hid (fstE_none (E:=E) (n:=L.length) (fun j hj=>HE.out j (by omega)))
      have hkI : ¬ (k : Int) < (L.length : Int):=by omega
      clear hlt
      go_wp2_with fail
      go_ret
      refine ⟨_,rfl,?_,HB.out⟩
      rw [codeE_none HF.out,HF.out]
      rfl
theorem firstE_none (K : Nat) (cb : Array Value) (E : Nat -> Nat) (a : Option Addr) (c : Nat) (A : Nat -> Addr) (w : World) :
    Calls Tryz.prog 133 #[.slice a 0 c,.func (.func K) #[] cb] w fun e w'=>∃ v,e = .returned v /\ ErrAt w' A v (codeE E 0) (fstE E 0) /\ Below w.heap.size w w':=by
  go_enter Tryz.func133,Tryz.ntmps133
  go_wp2_with fail
  go_loopw [10] (fun i wr=>i = .int .i64 0 /\ wr = w) (fun i _=>0)
  case atStart=>exact ⟨rfl,rfl⟩
  case round=>
    obtain ⟨rfl,rfl⟩:=hrel
    go_wp2_with fail
    go_ret
    exact ⟨_,rfl,rfl,Below.refl _ _⟩
theorem firstE_any (K : Nat) (cb : Array Value) (E : Nat -> Nat) (L : List Raw) (v : Value) (A : Nat -> Addr) (w : World) (eg : ∀ args w,(callFunc K args).run Tryz.prog w = .ok (.enter K args) w) (hL : L.length <= 1000000) (hv : EsAt w v L)
    (hK : ∀ i (h : i < L.length) W,Below w.heap.size w W -> Calls Tryz.prog K (#[.int .i64 (i : Int),rawV L[i]] ++ cb) W fun e w'=>e = .returned (errA A (E i)) /\ Below W.heap.size W w') :
    Calls Tryz.prog 133 #[v,.func (.func K) #[] cb] w fun e w'=>∃ u,e = .returned u /\ ErrAt w' A u (codeE E L.length) (fstE E L.length) /\ Below w.heap.size w w':=by
  obtain ⟨a,c,rfl,_,hs,h⟩:=hv
  cases L with
  | nil=>exact firstE_none K cb E a c A w
  | cons x r=>
    obtain ⟨b,o,rfl,h2⟩:=h (by simp)
    exact first_ents K cb E (x :: r) b o c A w eg hL hs h2 hK
theorem mpath_ix (s : ByteArray) (A : Nat -> Addr) (m : Int) (w : World) (hs : s.size < 4294967281) (S : Te w A m) :
    Calls Tryz.prog 101 #[.string s] w fun e w'=>e = .returned (errA A (pathErr s.data.toList)) /\ Below w.heap.size w w':=by
  have HP:=hid (readPath_any s A m w hs S)
  clear S
  go_enter Tryz.func101,Tryz.ntmps101
  go_wp2_with fail
  refine HP.out.mono ?_
  rintro e w1 ⟨⟨H,n,v,rfl,hv,_,_⟩,hb⟩
  have HV:=hid hv
  have HB:=hid hb
  clear hb hv
  go_wp2_with fail
  go_ret
  exact ⟨by rw [<- HV.out]; rfl,HB.out⟩
def noPk (l : List UInt8) : Bool:=decide (l ≠ [46]) && decide (pathErr l ≠ 0)
set_option maxHeartbeats 1000000 in
theorem noPack_any (s : ByteArray) (A : Nat -> Addr) (m : Int) (w : World) (hs : s.size < 4294967281) (S : Te w A m) :
    Calls Tryz.prog 215 #[.string s] w fun e w'=>e = .returned (.bool (noPk s.data.toList)) /\ Below w.heap.size w w':=by
  have HP:=hid (mpath_ix s A m w hs S)
  clear S
  generalize hr : noPk s.data.toList = r
  have HR:=hid hr
  clear hr
  by_cases h1 : s.data.toList = [46]
  · have hq : (s.toList == [46]) = true:=by rw [ByteArray.toList_eq]; exact beq_iff_eq.2 h1
    have HX:=hid (show noPk s.data.toList = false by unfold noPk; rw [h1]; rfl)
    clear h1
    go_enter Tryz.func215,Tryz.ntmps215
    go_wp2_with fail
    go_ret
    exact ⟨by rw [<- HR.out,HX.out]; rfl,Below.refl _ _⟩
  · have hq : (s.toList == [46]) = false:=by rw [ByteArray.toList_eq]; exact beq_eq_false_iff_ne.2 h1
    by_cases h2 : pathErr s.data.toList = 0
    · rw [h2,errA0] at HP
      have HX:=hid (show noPk s.data.toList = false by unfold noPk; rw [h2]; simp)
      clear h1 h2
      go_enter Tryz.func215,Tryz.ntmps215
      go_wp2_with fail
      refine HP.out.mono ?_
      rintro e w1 ⟨rfl,hb⟩
      have HB:=hid hb
      clear hb
      go_wp2_with fail
      go_ret
      exact ⟨by rw [<- HR.out,HX.out]; rfl,HB.out⟩
    · rw [errA_if A h2] at HP
      have HX:=hid (show noPk s.data.toList = true by unfold noPk; rw [decide_eq_true h1,decide_eq_true h2]; rfl)
      clear h1 h2
      go_enter Tryz.func215,Tryz.ntmps215
      go_wp2_with fail
      refine HP.out.mono ?_
      rintro e w1 ⟨rfl,hb⟩
      have HB:=hid hb
      clear hb
      go_wp2_with fail
      go_ret
      exact ⟨by rw [<- HR.out,HX.out]; rfl,HB.out⟩
set_option maxHeartbeats 1000000 in
theorem idxT_some (K : Nat) (P : List UInt8 -> Bool) (b0 o0 c0 : Nat) (X : List ByteArray) (w : World) (eg : ∀ args w,(callFunc K args).run Tryz.prog w = .ok (.enter K args) w) (hX : X.length <= 1000000) (hc0 : ∀ j (h : j < X.length),w.cell? ⟨b0,o0 + j,none⟩ = some (.string X[j]))
    (hK : ∀ i (h : i < X.length) W,Below w.heap.size w W -> Calls Tryz.prog K #[.string X[i]] W fun e w'=>e = .returned (.bool (P X[i].data.toList)) /\ Below W.heap.size W w') :
    Calls Tryz.prog 218 #[.slice (some ⟨b0,o0,none⟩) X.length c0,.func (.func K) #[] #[]] w fun e w'=>∃ i : Int,e = .returned (.int .i64 i) /\ decide (0 <= i) = (bl X).any P /\ Below w.heap.size w w':=by
  have HC0:=hid hc0
  have HK:=hid hK
  clear hK hc0
  go_enter Tryz.func218,Tryz.ntmps218
  go_wp2_with fail
  go_loopw [8] (fun i wr=>∃ k : Nat,k <= X.length /\ i = .int .i64 k /\ Hid ((bl X).any P = (bl (X.drop k)).any P) /\ Hid (Below w.heap.size w wr)) (fun i _=>X.length - (intOf i).toNat)
  case atStart=>exact ⟨0,Nat.zero_le _,rfl,hid rfl,hid (Below.refl _ _)⟩
  case round=>
    obtain ⟨k,hk,rfl,HO,HB⟩:=hrel
    by_cases hlt : k < X.length
    · have hx : wr.cell? ⟨b0,o0 + k,none⟩ = some (.string X[k]):=cell_below HB.out (HC0.out k hlt)
      have HP:=hid (HK.out k hlt wr HB.out)
      have HN:=hid (HO.out.trans (any_step P X k hlt))
      generalize hq : P X[k].data.toList = q at *
      clear hq HO
      cases q
      · go_wp2_with fail
        refine HP.out.mono ?_
        rintro e w1 ⟨rfl,hb1⟩
        have HB1:=hid (HB.out.trans (hb1.mono HB.out.size))
        clear hb1
        go_wp2_with fail
        go_roundw
        case rel=>exact ⟨k + 1,by omega,by go_num,hid (HN.out.trans (Bool.false_or _)),HB1⟩
        case measure=>simp [intOf]; omega
      · go_wp2_with fail
        refine HP.out.mono ?_
        rintro e w1 ⟨rfl,hb1⟩
        have HB1:=hid (HB.out.trans (hb1.mono HB.out.size))
        clear hb1
        go_wp2_with fail
        go_ret
        exact ⟨k,rfl,by rw [HN.out,Bool.true_or]; exact decide_eq_true (by omega),HB1.out⟩
    · have HE:=hid (show (bl (X.drop k)).any P = false by rw [List.drop_eq_nil_of_le (by omega)]; rfl)
      go_wp2_with fail
      go_ret
      exact ⟨-1,rfl,by rw [HO.out,HE.out]; rfl,HB.out⟩
theorem idxT_none (K : Nat) (a : Option Addr) (c : Nat) (w : World) : Calls Tryz.prog 218 #[.slice a 0 c,.func (.func K) #[] #[]] w fun e w'=>e = .returned (.int .i64 (-1)) /\ Below w.heap.size w w':=by
  go_enter Tryz.func218,Tryz.ntmps218
  go_wp2_with fail
  go_loopw [8] (fun i wr=>i = .int .i64 0 /\ wr = w) (fun i _=>0)
  case atStart=>exact ⟨rfl,rfl⟩
  case round=>
    obtain ⟨rfl,rfl⟩:=hrel
    go_wp2_with fail
    go_ret
    exact ⟨rfl,Below.refl _ _⟩
theorem idxT_any (K : Nat) (P : List UInt8 -> Bool) (X : List ByteArray) (v : Value) (w : World) (eg : ∀ args w,(callFunc K args).run Tryz.prog w = .ok (.enter K args) w) (hX : X.length <= 1000000) (hv : TxAt w v X)
    (hK : ∀ i (h : i < X.length) W,Below w.heap.size w W -> Calls Tryz.prog K #[.string X[i]] W fun e w'=>e = .returned (.bool (P X[i].data.toList)) /\ Below W.heap.size W w') :
    Calls Tryz.prog 218 #[v,.func (.func K) #[] #[]] w fun e w'=>∃ i : Int,e = .returned (.int .i64 i) /\ decide (0 <= i) = (bl X).any P /\ Below w.heap.size w w':=by
  obtain ⟨a,c,rfl,_,h⟩:=hv
  cases X with
  | nil=>exact (idxT_none K a c w).mono fun e w' ⟨h1,h2⟩=>⟨-1,h1,rfl,h2⟩
  | cons x r=>
    obtain ⟨b,o,rfl,h2⟩:=h (by simp)
    exact idxT_some K P b o c (x :: r) w eg hX h2 hK
theorem hasT_any (K : Nat) (P : List UInt8 -> Bool) (X : List ByteArray) (v : Value) (w : World) (eg : ∀ args w,(callFunc K args).run Tryz.prog w = .ok (.enter K args) w) (hX : X.length <= 1000000) (hv : TxAt w v X)
    (hK : ∀ i (h : i < X.length) W,Below w.heap.size w W -> Calls Tryz.prog K #[.string X[i]] W fun e w'=>e = .returned (.bool (P X[i].data.toList)) /\ Below W.heap.size W w') :
    Calls Tryz.prog 181 #[v,.func (.func K) #[] #[]] w fun e w'=>e = .returned (.bool ((bl X).any P)) /\ Below w.heap.size w w':=by
  have HI:=hid (idxT_any K P X v w eg hX hv hK)
  obtain ⟨a,c,rfl,_⟩:=hv
  clear hK
  go_enter Tryz.func181,Tryz.ntmps181
  go_wp2_with fail
  refine HI.out.mono ?_
  rintro e w1 ⟨i,rfl,hi,hb⟩
  have HB:=hid hb
  have HQ:=hid hi
  clear hb hi
  go_wp2_with fail
  go_ret
  exact ⟨ret_bool HQ.out,HB.out⟩
theorem eqT_any (X Y : List ByteArray) (v u : Value) (w : World) (hX : X.length <= 1000000) (hY : Y.length <= 1000000) (hv : TxAt w v X) (hu : TxAt w u Y) :
    Calls Tryz.prog 216 #[v,u] w fun e w'=>e = .returned (.bool (decide (X = Y))) /\ Below w.heap.size w w':=by
  obtain ⟨a,c,rfl,_,h⟩:=hv
  obtain ⟨a',c',rfl,_,h'⟩:=hu
  cases X with
  | nil=>
    refine (Tryz.slices_Equal_string_empty a a' c Y.length c' w (by omega)).mono fun e w' ⟨h1,h2⟩=>⟨?_,by rw [h2]; exact Below.refl _ _⟩
    rw [h1]
    congr 2
    cases Y with
    | nil=>rfl
    | cons y s=>simp
  | cons x r=>
    by_cases hl : (x :: r).length = Y.length
    · obtain ⟨b,o,rfl,h2⟩:=h (by simp)
      obtain ⟨b',o',rfl,h3⟩:=h' (by intro hy; rw [hy] at hl; simp at hl)
      refine (Tryz.slices_Equal_string b o (x :: r).length c b' o' Y.length c' (x :: r) Y w (Nat.le_refl _) (Nat.le_refl _) (by omega) (by omega) (fun j hj=>?_) (fun j hj=>?_)).mono fun e w' ⟨h1,q,h4⟩=>⟨?_,by rw [h4]; exact below_drawn_of (Below.refl _ w) q⟩
      · rw [h2 j hj]; simp [List.getD,List.getElem?_eq_getElem hj]
      · rw [h3 j hj]; simp [List.getD,List.getElem?_eq_getElem hj]
      · rw [h1,List.take_length,List.take_length]
    · refine (Tryz.slices_Equal_string_lens a a' (x :: r).length c Y.length c' w hl).mono fun e w' ⟨h1,h2⟩=>⟨?_,by rw [h2]; exact Below.refl _ _⟩
      rw [h1]
      congr 2
      exact (decide_eq_false (fun hh=>hl (by rw [hh]))).symm
def packErr (Z : List (List UInt8)) : Nat:=if 10 < Z.length then 7 else if Z.any noPk then 1 else if Z = risB Z then 0 else 8
theorem pk_full {Z : List (List UInt8)} (h : 10 < Z.length) : packErr Z = 7:=by unfold packErr; rw [if_pos h]
theorem pk_text {Z : List (List UInt8)} (h : ¬ 10 < Z.length) (h1 : Z.any noPk = true) : packErr Z = 1:=by unfold packErr; rw [if_neg h,if_pos h1]
theorem pk_ok {Z : List (List UInt8)} (h : ¬ 10 < Z.length) (h1 : Z.any noPk = false) (h2 : Z = risB Z) : packErr Z = 0:=by unfold packErr; rw [if_neg h,h1,if_neg (by simp),if_pos h2]
theorem pk_order {Z : List (List UInt8)} (h : ¬ 10 < Z.length) (h1 : Z.any noPk = false) (h2 : ¬ Z = risB Z) : packErr Z = 8:=by unfold packErr; rw [if_neg h,h1,if_neg (by simp),if_neg h2]
theorem eq_ris (X : List ByteArray) : decide (X = tx (risB (bl X))) = decide (bl X = risB (bl X)):=by
  congr 1
  apply propext
  constructor
  · intro h; have:=congrArg bl h; rwa [bl_tx] at this
  · intro h; exact bl_inj (by rw [bl_tx]; exact h)
theorem risB_len (Z : List (List UInt8)) : (risB Z).length <= Z.length:=by
  unfold risB
  exact Nat.le_trans (compact_le _) (by rw [srtB_len]; exact Nat.le_refl _)
set_option maxHeartbeats 2000000 in
theorem packs_any (X : List ByteArray) (v : Value) (A : Nat -> Addr) (m : Int) (w : World) (hX : X.length <= 1000) (hz : ∀ x,x ∈ X -> x.size < 999999) (S : Te w A m) (hv : TxAt w v X) :
    Calls Tryz.prog 178 #[v] w fun e w'=>e = .returned (errA A (packErr (bl X))) /\ Below w.heap.size w w':=by
  obtain ⟨a,c,rfl,_⟩:=id hv
  have hbl : (bl X).length = X.length:=bl_len X
  have HS:=hid S
  have g6:=S.sen.g6
  have egN : ∀ args w,(callFunc 215 args).run Tryz.prog w = .ok (.enter 215 args) w:=enters_of Tryz.func215 (by kernel_rfl) rfl
  by_cases h1 : 10 < X.length
  · have q1 : (10 : Int) < (X.length : Int):=by omega
    rw [pk_full (by rw [hbl]; exact h1)]
    clear hv S h1 egN
    go_enter Tryz.func178,Tryz.ntmps178
    go_wp2_with fail
    go_ret
    exact ⟨rfl,Below.refl _ _⟩
  · have q1 : ¬ (10 : Int) < (X.length : Int):=by omega
    have HH:=hid (hasT_any 215 noPk X _ w egN (by omega) hv (fun i hi W hW=>noPack_any X[i] A m W (by have:=hz _ (List.getElem_mem hi); omega) (S.below hW)))
    have HV:=hid hv
    have hb10 : ¬ 10 < (bl X).length:=by rw [hbl]; exact h1
    have H10:=hid hb10
    clear hv S h1 egN hb10
    cases h2 : (bl X).any noPk
    · rw [h2] at HH
      have H2:=hid h2
      clear h2
      go_enter Tryz.func178,Tryz.ntmps178
      go_wp2_with fail
      refine HH.out.mono ?_
      rintro e w1 ⟨rfl,hb⟩
      have HRI:=hid (rising_any X (by omega) _ w1 (HV.out.below hb))
      have HB:=hid hb
      clear hb
      go_wp2_with fail
      refine HRI.out.mono ?_
      rintro e w2 ⟨u,rfl,ho,hb⟩
      have HB2:=hid (HB.out.trans (hb.mono HB.out.size))
      have HEQ:=hid (eqT_any X (tx (risB (bl X))) _ u w2 (by omega) (by rw [tx_len]; have:=risB_len (bl X); omega) (HV.out.below HB2.out) (own_tx ho))
      rw [eq_ris] at HEQ
      obtain ⟨ua,uc,hu⟩:=own_slN ho
      subst hu
      have g7:=(HS.out.below HB2.out).sen.g7
      clear hb ho g6
      by_cases h3 : bl X = risB (bl X)
      · rw [decide_eq_true h3] at HEQ
        have HX:=hid (pk_ok H10.out H2.out h3)
        clear h3
        go_wp2_with fail
        refine HEQ.out.mono ?_
        rintro e w3 ⟨rfl,hb⟩
        have HB3:=hid (HB2.out.trans (hb.mono HB2.out.size))
        clear hb
        go_wp2_with fail
        go_ret
        exact ⟨by rw [HX.out]; rfl,HB3.out⟩
      · rw [decide_eq_false h3] at HEQ
        have HX:=hid (pk_order H10.out H2.out h3)
        have HG:=hid (fun W (h : Below w.heap.size w W)=>(HS.out.below h).sen.g7)
        clear h3 g7
        go_wp2_with fail
        refine HEQ.out.mono ?_
        rintro e w3 ⟨rfl,hb⟩
        have HB3:=hid (HB2.out.trans (hb.mono HB2.out.size))
        have g7:=HG.out _ HB3.out
        clear hb
        go_wp2_with fail
        go_ret
        exact ⟨by rw [HX.out]; rfl,HB3.out⟩
    · rw [h2] at HH
      have HX:=hid (pk_text H10.out h2)
      have HG:=hid (fun W (h : Below w.heap.size w W)=>(HS.out.below h).sen.g0)
      clear h2 g6
      go_enter Tryz.func178,Tryz.ntmps178
      go_wp2_with fail
      refine HH.out.mono ?_
      rintro e w1 ⟨rfl,hb⟩
      have HB:=hid hb
      have g0:=HG.out _ HB.out
      clear hb
      go_wp2_with fail
      go_ret
      exact ⟨by rw [HX.out]; rfl,HB.out⟩
end Ve
end Go.Proofs.YtlcffhadobhfkaaGreatDoor
