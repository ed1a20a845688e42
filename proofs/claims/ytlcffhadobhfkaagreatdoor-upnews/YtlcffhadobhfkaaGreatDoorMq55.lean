/-
  MvC MvD MvE
-/
import Derived.Test.YtlcffhadobhfkaaGreatDoorMq3
import Derived.Test.YtlcffhadobhfkaaGreatDoorMq2
import Derived.Test.YtlcffhadobhfkaaGreatDoorMq5
import Derived.Test.YtlcffhadobhfkaaGreatDoorMq6
import Derived.Test.YtlcffhadobhfkaaGreatDoorMq9
import Derived.Test.YtlcffhadobhfkaaGreatDoorMq11
import Derived.Test.YtlcffhadobhfkaaGreatDoorMq18
import Derived.Test.YtlcffhadobhfkaaGreatDoorMq19
import Derived.Test.YtlcffhadobhfkaaGreatDoorMq20
import Derived.Test.YtlcffhadobhfkaaGreatDoorMq23
import Derived.Test.YtlcffhadobhfkaaGreatDoorMq33
import Derived.Test.YtlcffhadobhfkaaGreatDoorMq34
import Derived.Test.YtlcffhadobhfkaaGreatDoorMq36
namespace Go.Proofs.YtlcffhadobhfkaaGreatDoor
open Go.RowKit
namespace Ve
theorem grow_of_be {W w' : World} (h : Below W.heap.size W w') (hd : W.drawn ≤ w'.drawn) : ∃ q os', w' = Go.Sort.grow (W.drewN q) os' := by
  refine ⟨w'.drawn - W.drawn,w'.heap.extract W.heap.size w'.heap.size,?_⟩
  have hh : w'.heap = W.heap ++ w'.heap.extract W.heap.size w'.heap.size:=by
    apply Array.ext_getElem?
    intro i
    by_cases hi : i < W.heap.size
    · rw [Array.getElem?_append_left hi,h.block i hi]
    · rw [Array.getElem?_append_right (by omega),Array.getElem?_extract]
      have hs:=h.size
      by_cases h2 : i < w'.heap.size
      · rw [if_pos (by omega)]
        congr 1
        omega
      · rw [if_neg (by omega)]
        exact Array.getElem?_eq_none (by omega)
  obtain ⟨a,b,c,d,e⟩:=w'
  obtain ⟨a',b',c',d',e'⟩:=W
  have h1:=h.os
  have h2:=h.tape
  have h3:=h.output
  simp only at h1 h2 h3 hh hd
  subst h1 h2 h3
  simp only [Go.Sort.grow,World.drewN,World.mk.injEq,true_and,and_true]
  exact ⟨hh,by omega⟩
set_option maxHeartbeats 2000000 in
theorem nf_any (a b : Bm) (A : Nat → Addr) (ml : Int) (w : World) (ha : a.2.size < 999999) (hb : b.2.size < 999999) (S : Te w A ml) :
    Calls Tryz.prog 119 #[.agg #[.string a.1,.string a.2],.agg #[.string b.1,.string b.2]] w fun e w'=>e = .returned (.int .i64 (nfC a b)) /\ Below w.heap.size w w':=by
  obtain ⟨p,v⟩:=a
  obtain ⟨q,u⟩:=b
  simp only at ha hb
  have HB0:=hid (((Below.refl w.heap.size w).alloc (Nat.le_refl _) (.cells #[.string p,.string v] 25)).alloc (by simp) (.cells #[.string q,.string u] 25))
  have HS:=hid S
  by_cases h : p = q
  · subst h
    have he:=str_refl p
    have HX:=hid (show nfC (p,v) (p,u) = if mAhead (p,u) (p,v) then -1 else if mAhead (p,v) (p,u) then 1 else 0 by unfold nfC; rw [if_pos rfl])
    have H1:=hid (fun W (SW : Te W A ml)=>ahead_any p u p v A ml W hb ha SW)
    have H2:=hid (fun W (SW : Te W A ml)=>ahead_any p v p u A ml W ha hb SW)
    have e1 : aheadB p.data.toList u.data.toList p.data.toList v.data.toList = mAhead (p,u) (p,v):=rfl
    have e2 : aheadB p.data.toList v.data.toList p.data.toList u.data.toList = mAhead (p,v) (p,u):=rfl
    rw [e1] at H1
    rw [e2] at H2
    generalize nfC (p,v) (p,u) = r at *
    clear S e1 e2
    have HD:=hid (fun W (hW : Below ((w.alloc (.cells #[.string p,.string v] 25)).alloc (.cells #[.string p,.string u] 25)).heap.size ((w.alloc (.cells #[.string p,.string v] 25)).alloc (.cells #[.string p,.string u] 25)) W)=>
      show W.cell? ⟨w.heap.size,0,none⟩ = some (.string p) /\ W.cell? ⟨w.heap.size,1,none⟩ = some (.string v) /\ W.cell? ⟨w.heap.size + 1,0,none⟩ = some (.string p) /\ W.cell? ⟨w.heap.size + 1,1,none⟩ = some (.string u) from ⟨cell_below hW (by simp),cell_below hW (by simp),cell_below hW (by simp),cell_below hW (by simp)⟩)
    cases h1 : mAhead (p,u) (p,v)
    · rw [h1] at H1 HX
      cases h2 : mAhead (p,v) (p,u)
      · rw [h2] at H2 HX
        clear h1 h2
        go_enter Tryz.func119,Tryz.ntmps119
        go_wp2_with fail
        refine (H1.out _ (HS.out.below HB0.out)).mono ?_
        rintro e w1 ⟨rfl,hb1⟩
        obtain ⟨d0,d1,d2,d3⟩:=HD.out w1 hb1
        have HB1:=hid (HB0.out.trans (hb1.mono HB0.out.size))
        clear hb1
        go_wp2_with fail
        refine (H2.out _ (HS.out.below HB1.out)).mono ?_
        rintro e w2 ⟨rfl,hb2⟩
        have HB2:=hid (HB1.out.trans (hb2.mono HB1.out.size))
        clear hb2
        go_wp2_with fail
        go_ret
        exact ⟨by rw [HX.out]; rfl,HB2.out⟩
      · rw [h2] at H2 HX
        clear h1 h2
        go_enter Tryz.func119,Tryz.ntmps119
        go_wp2_with fail
        refine (H1.out _ (HS.out.below HB0.out)).mono ?_
        rintro e w1 ⟨rfl,hb1⟩
        obtain ⟨d0,d1,d2,d3⟩:=HD.out w1 hb1
        have HB1:=hid (HB0.out.trans (hb1.mono HB0.out.size))
        clear hb1
        go_wp2_with fail
        refine (H2.out _ (HS.out.below HB1.out)).mono ?_
        rintro e w2 ⟨rfl,hb2⟩
        have HB2:=hid (HB1.out.trans (hb2.mono HB1.out.size))
        clear hb2
        go_wp2_with fail
        go_ret
        exact ⟨by rw [HX.out]; rfl,HB2.out⟩
    · rw [h1] at H1 HX
      clear h1
      go_enter Tryz.func119,Tryz.ntmps119
      go_wp2_with fail
      refine (H1.out _ (HS.out.below HB0.out)).mono ?_
      rintro e w1 ⟨rfl,hb1⟩
      have HB1:=hid (HB0.out.trans (hb1.mono HB0.out.size))
      clear hb1
      go_wp2_with fail
      go_ret
      exact ⟨by rw [HX.out]; rfl,HB1.out⟩
  · have he:=str_ne h
    have HX:=hid (show nfC (p,v) (q,u) = Lib.compareBytes p.data.toList q.data.toList by unfold nfC; rw [if_neg h])
    have HC:=hid (fun W=>Tryz.strings_Compare p q W)
    rw [HX.out]
    clear S h
    go_enter Tryz.func119,Tryz.ntmps119
    go_wp2_with fail
    refine (HC.out _).mono ?_
    rintro e w1 ⟨rfl,rfl⟩
    go_wp2_with fail
    go_ret
    exact ⟨rfl,HB0.out⟩
theorem nf_bw (a b : Bm) (A : Nat -> Addr) (ml : Int) (w : World) (ha : a.2.size < 999999) (hb : b.2.size < 999999) (S : Te w A ml) :
    Calls Tryz.prog 119 #[.agg #[.string a.1,.string a.2],.agg #[.string b.1,.string b.2]] w fun e w'=>e = .returned (.int .i64 (nfC a b)) /\ ∃ q os',w' = Go.Sort.grow (w.drewN q) os':=
  (Mo.calls_ge (nf_any a b A ml w ha hb S) (fun _ _ h=>⟨_,h.1⟩)).mono fun _ _ ⟨⟨h1,h2⟩,h3⟩=>⟨h1,grow_of_be h2 h3⟩
abbrev Mq:={ m : Bm // Rt m }
def encJ (m : Mq) : List Value:=mcells m.1
def cfM (a b : Mq) : Int:=nfC a.1 b.1
theorem swoM : Go.Sort.SWO (ltOf cfM) where
  irrefl x:=by
    unfold ltOf cfM
    simpa using Int.not_lt.1 (nf_irr x.2)
  trans x y z h1 h2:=by
    unfold ltOf cfM at *
    simp only [decide_eq_true_eq] at *
    exact nf_trans x.2 y.2 z.2 h1 h2
  ntrans x y z h1 h2:=by
    unfold ltOf cfM at *
    simp only [decide_eq_false_iff_not] at *
    exact nfW_not z.2 x.2 (nfW_trans z.2 y.2 x.2 (nf_not z.2 y.2 h2) (nf_not y.2 x.2 h1))
theorem encJ_len (r : Mq) : (encJ r).length = 2:=rfl
theorem sorted_belowM {w : World} {g : Nat} {α : Type} [Inhabited α] (enc : α -> List Value) (m : Nat) (dk : Array α) (os : Array Obj) (B : Nat) (hB : B <= g) (hz : B <= w.heap.size) : Below B w (sortWorldK enc 2 w g 0 m dk os):=by
  refine ⟨rfl,rfl,rfl,size_sortWorldK_c enc 2 w g 0 m dk os,fun k hk=>?_⟩
  unfold sortWorldK
  rw [Go.Sort.heap_grow_old _ _ (by rw [Go.Sort.size_putRowK]; show k < w.heap.size; omega)]
  unfold Go.Sort.putRowK Go.Sort.putRow
  show (Array.modify (Go.Sort.ahead w m).heap g _)[k]? = _
  rw [Array.getElem?_modify,if_neg (by omega)]
  rfl
theorem cmpM {w0 w : World} {g : Nat} {D : List Bm} (h : Mw w0 w g D) (A : Nat -> Addr) (ml : Int) (S : Te w0 A ml) (n : Nat) [Inhabited Mq] : CmpLays Tryz.prog 119 #[] encJ 2 cfM g 0 n w:=by
  intro m os dk hs x y
  have hb : Below w0.heap.size w0 (sortWorldK encJ 2 w g 0 m dk os):=h.bl.trans (sorted_belowM encJ m dk os w0.heap.size h.lo h.bl.size)
  have h:=nf_bw x.1 y.1 A ml (sortWorldK encJ 2 w g 0 m dk os) x.2.v y.2.v (S.below hb)
  have e : (#[.agg (encJ x).toArray,.agg (encJ y).toArray] ++ #[] : Array Value) = #[.agg #[.string x.1.1,.string x.1.2],.agg #[.string y.1.1,.string y.1.2]]:=by simp [encJ,mcells]
  rw [e]
  exact h
theorem holds_mw {w0 w : World} {g : Nat} {D : List Bm} (h : Mw w0 w g D) [Inhabited Mq] (d : Array Mq) (hd : d.toList.map (·.1) = D) : Go.Sort.HoldsK encJ 2 w g 0 d:=by
  have hl : d.size = D.length:=by rw [<- hd]; simp
  intro t ht
  rw [Go.Sort.size_flatK] at ht
  rw [Go.Sort.get_flatK _ _ _ _ ht]
  have hi : t / 2 < d.size:=by omega
  have e : d[t / 2]!.1 = D[t / 2]'(by omega):=by
    rw [getElem!_pos d (t / 2) hi]
    simp [<- hd]
  refine ⟨?_,by rw [Nat.zero_add]; exact h.fz t⟩
  show w.cell? ⟨g,0 + t,none⟩ = some ((mcells d[t / 2]!.1)[t % 2]!)
  rw [e,Nat.zero_add]
  have hm : t % 2 < 2:=Nat.mod_lt _ (by omega)
  have hdm:=Nat.div_add_mod t 2
  match hc : t % 2,hm with
  | 0,_=>have:=h.c0 (t / 2) (by omega); rw [show t / 2 * 2 = t by omega] at this; exact this
  | 1,_=>have:=h.c1 (t / 2) (by omega); rw [show t / 2 * 2 + 1 = t by omega] at this; exact this
theorem lift_mq : ∀ D : List Bm,(∀ r,r ∈ D -> Rt r) -> ∃ l : List Mq,l.map (·.1) = D
  | [],_=>⟨[],rfl⟩
  | r :: R,h=>by
    obtain ⟨l,e⟩:=lift_mq R (fun q hq=>h q (List.mem_cons_of_mem _ hq))
    exact ⟨⟨r,h r (by simp)⟩ :: l,by simp [e]⟩
theorem sort_mw (w0 w : World) (g cap : Nat) (D : List Bm) (hD : D ≠ []) (h12 : D.length <= 1000000) (A : Nat -> Addr) (ml : Int) (S : Te w0 A ml) (hr : ∀ r,r ∈ D -> Rt r) (h : Mw w0 w g D) :
    Calls Tryz.prog 118 #[.slice (some ⟨g,0,none⟩) D.length cap,.func (.func 119) #[] #[]] w fun e w'=>e = .returned (.tuple #[]) /\ ∃ D',D'.Perm D /\ srtM D' /\ Mw w0 w' g D':=by
  obtain ⟨r0,R,rfl⟩ : ∃ r R,D = r :: R:=by
    cases D with
    | nil=>exact absurd rfl hD
    | cons r R=>exact ⟨r,R,rfl⟩
  letI : Inhabited Mq:=⟨⟨r0,hr r0 (by simp)⟩⟩
  obtain ⟨d,hd⟩ : ∃ d : Array Mq,d.toList.map (·.1) = r0 :: R:=by
    obtain ⟨l,e⟩:=lift_mq (r0 :: R) hr
    exact ⟨l.toArray,by simpa using e⟩
  have hl : d.size = (r0 :: R).length:=by rw [<- hd]; simp
  have hH:=holds_mw h d hd
  have eg : ∀ args w,(callFunc 119 args).run Tryz.prog w = .ok (.enter 119 args) w:=enters_of Tryz.func119 (by kernel_rfl) rfl
  have hcon:=AnyQ.slices_SortFunc Tryz.sortMods 2 Tryz.isAgg25 Tryz.sizeOf25 encJ encJ_len (fun x v hv=>by
    simp only [encJ,mcells,List.mem_cons,List.not_mem_nil,or_false] at hv
    rcases hv with rfl | rfl <;> rfl) cfM swoM 119 #[] g 0 cap d w eg (cmpM h A ml S d.size) hH h.hi (by omega)
  rw [hl] at hcon
  refine Calls.mono hcon ?_
  rintro e w' ⟨he,d',n,os,hp,hs,rfl⟩
  obtain ⟨hsz,_,hperm⟩:=hp
  have hsz' : d'.size = (r0 :: R).length:=hsz.trans hl
  have hHd:=holdsK_sortWorldK_c encJ 2 w g 0 d d' n os hH h.hi hsz
  have hpm : d'.toList.Perm d.toList:=by
    have e1 : d'.extract 0 (r0 :: R).length = d':=by rw [<- hsz']; simp
    have e2 : d.extract 0 (r0 :: R).length = d:=by rw [<- hl]; simp
    rw [e1,e2] at hperm
    exact hperm
  have hg : ∀ j (hj : j < (d'.toList.map (·.1)).length),d'[j]! = d'[j]'(by simpa using hj):=fun j hj=>getElem!_pos d' j (by simpa using hj)
  have cell : ∀ j (hj : j < (d'.toList.map (·.1)).length) c (hc : c < 2),(sortWorldK encJ 2 w g 0 n d' os).cell? ⟨g,j * 2 + c,none⟩ = some ((mcells (d'.toList.map (·.1))[j])[c]!):=by
    intro j hj c hc
    have h1:=(hHd.cell (i:=j) (c:=c) (by simpa using hj) hc).1
    rw [Nat.zero_add,hg j hj] at h1
    rw [h1]
    simp [encJ]
  refine ⟨he,d'.toList.map (·.1),?_,?_,?_⟩
  · rw [<- hd]; exact hpm.map _
  · unfold srtM
    rw [List.pairwise_iff_getElem]
    intro i j hi hj hij
    have h1:=hs i j (Nat.zero_le _) hij (by rw [<- hsz']; simpa using hj)
    rw [hg i hi,hg j hj] at h1
    unfold ltOf cfM at h1
    simp only [decide_eq_false_iff_not] at h1
    simp only [List.getElem_map,Array.getElem_toList]
    exact nf_not (d'[i]'(by simpa using hi)).2 (d'[j]'(by simpa using hj)).2 h1
  · refine ⟨h.bl.trans ((sorted_belowM encJ n d' os w0.heap.size h.lo h.bl.size)),h.lo,Nat.lt_of_lt_of_le h.hi (size_sortWorldK_c encJ 2 w g 0 n d' os),fun o=>?_,fun j hj=>?_,fun j hj=>?_⟩
    · unfold sortWorldK
      rw [Go.Sort.frozen?_grow _ _ _ (by rw [Go.Sort.size_putRowK]; exact h.hi)]
      unfold Go.Sort.putRowK
      rw [Go.Sort.frozen?_putRow]
      exact h.fz o
    · exact cell j hj 0 (by omega)
    · exact cell j hj 1 (by omega)
set_option maxHeartbeats 1000000 in
theorem sameP_any (a b : Bm) (W : World) :
    Calls Tryz.prog 121 #[.agg #[.string a.1,.string a.2],.agg #[.string b.1,.string b.2]] W fun e w'=>e = .returned (.bool (decide (a.1 = b.1))) /\ Below W.heap.size W w':=by
  obtain ⟨p,v⟩:=a
  obtain ⟨q,u⟩:=b
  have HB0:=hid (((Below.refl W.heap.size W).alloc (Nat.le_refl _) (.cells #[.string p,.string v] 25)).alloc (by simp) (.cells #[.string q,.string u] 25))
  by_cases h : p = q
  · subst h
    have he:=str_refl p
    have HD:=hid (show decide (p = p) = true by simp)
    show Calls Tryz.prog 121 _ W fun e w'=>e = .returned (.bool (decide (p = p))) /\ _
    generalize decide (p = p) = z at *
    go_enter Tryz.func121,Tryz.ntmps121
    go_wp2_with fail
    go_ret
    exact ⟨ret_bool HD.out.symm,HB0.out⟩
  · have he:=str_ne h
    have HD:=hid (show decide (p = q) = false by simp [h])
    show Calls Tryz.prog 121 _ W fun e w'=>e = .returned (.bool (decide (p = q))) /\ _
    generalize decide (p = q) = z at *
    go_enter Tryz.func121,Tryz.ntmps121
    go_wp2_with fail
    go_ret
    exact ⟨ret_bool HD.out.symm,HB0.out⟩
theorem compactM_nil (a : Option Addr) (c : Nat) (W : World) : Calls Tryz.prog 120 #[.slice a 0 c,.func (.func 121) #[] #[]] W fun e w'=>e = .returned (.slice a 0 c) /\ Below W.heap.size W w':=by
  go_enter Tryz.func120,Tryz.ntmps120
  go_wp2_with fail
  go_ret
  exact ⟨rfl,Below.refl _ _⟩
def TwoM (w0 W : World) (g i j : Nat) (D : List Bm) (y x : Bm) : Prop:=
  W.cell? ⟨g,i,none⟩ = some (.string y.1) /\ W.cell? ⟨g,i + 1,none⟩ = some (.string y.2) /\ W.cell? ⟨g,j,none⟩ = some (.string x.1) /\ W.cell? ⟨g,j + 1,none⟩ = some (.string x.2) /\ Hid (Mw w0 W g D)
theorem Mw.two {w0 W : World} {g : Nat} {D : List Bm} (h : Mw w0 W g D) {j : Nat} {y x : Bm} (hy : D[j]? = some y) (hx : D[j + 1]? = some x) : TwoM w0 W g (j * 2) ((j + 1) * 2) D y x:=
  ⟨(h.at hy).1,(h.at hy).2,(h.at hx).1,(h.at hx).2,h⟩
set_option maxRecDepth 100000 in
set_option maxHeartbeats 8000000 in
theorem compact_mw (w0 w : World) (g cap : Nat) (D : List Bm) (hD : D ≠ []) (h12 : D.length ≤ 1000000) (hc : D.length ≤ cap) (hr : ∀ r, r ∈ D → Rt r) (hs : srtM D) (hR : Mw w0 w g D) :
    Calls Tryz.prog 120 #[.slice (some ⟨g,0,none⟩) D.length cap,.func (.func 121) #[] #[]] w fun e w'=>∃ E : List Bm,e = .returned (.slice (some ⟨g,0,none⟩) E.length cap) /\ E.length <= D.length /\ Jn D E /\ Mw w0 w' g E:=by
  have HR:=hid hR
  have HS:=hid hs
  have HRT:=hid hr
  have hpos : 0 < D.length:=List.length_pos_iff.2 hD
  clear hR hs hD hr
  by_cases h2 : D.length < 2
  · have h2i : (D.length : Int) < 2:=by omega
    have HRI:=hid (show Jn D D by
      have h:=(CpM.start hpos HRT.out)
      rw [show (1 : Nat) = D.length by omega,List.take_length] at h
      exact h.jn HRT.out)
    go_enter Tryz.func120,Tryz.ntmps120
    go_wp2_with fail
    go_ret
    exact ⟨D,rfl,Nat.le_refl _,HRI.out,HR.out⟩
  · have h2i : ¬ (D.length : Int) < 2:=by omega
    go_enter Tryz.func120,Tryz.ntmps120
    go_wp2_with fail
    go_loopw [5] (fun i wr=>∃ k : Nat,k + 1 <= D.length /\ i = .int .i64 ((k : Int) + 1) /\ Hid (CpM D (k + 1) (D.take (k + 1))) /\ Hid (Mw w0 wr g D)) (fun i _=>D.length - (intOf i).toNat)
    case atStart=>exact ⟨0,by omega,rfl,hid (CpM.start hpos HRT.out),HR⟩
    case round=>
      obtain ⟨k,hk,rfl,HCP,HRW⟩:=hrel
      by_cases hkn : k + 1 < D.length
      · have hi1 : (0 : Int) ≤ (k : Int) + 1 := by omega
        have hi2 : (k : Int) + 1 < (D.length : Int):=by omega
        have hi3 : (0 : Int) <= (k : Int):=by omega
        have hi4 : (k : Int) < (D.length : Int):=by omega
        have hi5 : (k : Int) + 1 - 1 = (k : Int):=by omega
        have hwp : IntKind.i64.wrap (k : Int) = (k : Int):=by rw [IntKind.wrap_i64]; omega
        have hwe : ((k : Int) + 1).toNat = k + 1:=by omega
        have hcap1 : (k : Int) + 1 <= (cap : Int):=by omega
        have hcap2 : (D.length : Int) <= (cap : Int):=by omega
        have HPL:=hid (fun h=>HCP.out.plain HS.out HRT.out hkn h)
        have HSA:=hid (fun h=>HCP.out.same HS.out HRT.out hkn h)
        have hy2 : D[k]? = some D[k]:=List.getElem?_eq_getElem (by omega)
        have hx2 : D[k + 1]? = some D[k + 1]:=List.getElem?_eq_getElem hkn
        generalize D[k] = y at *
        generalize D[k + 1] = x at *
        obtain ⟨ty,vy⟩:=y
        obtain ⟨tx,vx⟩:=x
        have HCM:=hid (fun W=>(show Calls Tryz.prog 121 #[.agg #[.string tx,.string vx],.agg #[.string ty,.string vy]] W
            fun e w'=>e = .returned (.bool (decide (tx = ty))) /\ Below W.heap.size W w' from sameP_any (tx,vx) (ty,vy) W))
        have HTW:=hid (fun (W : World) (h : Mw w0 W g D)=>(show W.cell? ⟨g,k * 2,none⟩ = some (.string ty) /\ W.cell? ⟨g,k * 2 + 1,none⟩ = some (.string vy) /\ W.cell? ⟨g,(k + 1) * 2,none⟩ = some (.string tx) /\ W.cell? ⟨g,(k + 1) * 2 + 1,none⟩ = some (.string vx) /\ Hid (Mw w0 W g D) from h.two hy2 hx2))
        obtain ⟨a0,a1,b0,b1,_⟩:=HTW.out _ HRW.out
        clear hy2 hx2
        by_cases hod : tx = ty
        · have HC2 := hid (HSA.out hod)
          rw [decide_eq_true hod] at HCM
          clear hod
          go_wp2_with fail
          go_region_held (fun W=>W.cell? ⟨g,k * 2,none⟩ = some (.string ty) /\ W.cell? ⟨g,k * 2 + 1,none⟩ = some (.string vy) /\ W.cell? ⟨g,(k + 1) * 2,none⟩ = some (.string tx) /\ W.cell? ⟨g,(k + 1) * 2 + 1,none⟩ = some (.string vx) /\ Hid (Mw w0 W g D)) (first | exact HTW.out _ HRa.out | exact HTW.out _ (HRW.out.below (below_drawn _ 1))) (first
            | (go_at_call 121; refine (HCM.out _).mono ?_; rintro e w' ⟨rfl,hb⟩; have HRa:=hid ((HRW.out.below (below_drawn _ 1)).below hb); clear hb))
          all_goals
            have HN:=hid (show (D.take (k + 1)).length = k + 1 by simp; omega)
            clear a0 a1 b0 b1
            go_wp2_with fail
            go_loopw [5,7] (fun a b wr2=>∃ (j : Nat) (E : List Bm),a = .int .i64 (E.length : Int) /\ b = .int .i64 ((j : Int) + 1) /\ k + 1 + (j + 1) <= D.length /\ E.length <= k + 1 + j /\ Hid (CpM D (k + 1 + j + 1) E) /\ Hid (Mw w0 wr2 g (E ++ D.drop E.length))) (fun _ b _=>D.length - (intOf b).toNat)
            case atStart=>exact ⟨0,D.take (k + 1),by rw [HN.out]; rfl,rfl,by omega,by rw [HN.out]; omega,HC2,hid (by rw [HN.out,List.take_append_drop]; exact HRa.out)⟩
            case round=>
              obtain ⟨j,E,rfl,rfl,hjD,hEj,HCE,HRV⟩:=hrel
              have HAT:=hid (show ∀ i,E.length <= i -> (E ++ D.drop E.length)[i]? = D[i]? from fun i hi=>by rw [List.getElem?_append_right hi,List.getElem?_drop]; congr 1; omega)
              by_cases hj : k + 1 + (j + 1) < D.length
              · have g1 : (0 : Int) ≤ (j : Int) + 1 := by omega
                have g2 : (j : Int) + 1 < ((D.length - (k + 1) : Nat) : Int):=by omega
                have g3 : (0 : Int) <= (j : Int):=by omega
                have g4 : (j : Int) < ((D.length - (k + 1) : Nat) : Int):=by omega
                have g5 : (j : Int) + 1 - 1 = (j : Int):=by omega
                have gwp : IntKind.i64.wrap (j : Int) = (j : Int):=by rw [IntKind.wrap_i64]; omega
                have gwe : ((j : Int) + 1).toNat = j + 1:=by omega
                have HMO:=hid (fun h=>HCE.out.more HS.out HRT.out hj h)
                have HSM:=hid (fun h=>HCE.out.same HS.out HRT.out hj h)
                have hv2 : (E ++ D.drop E.length)[k + 1 + j]? = some D[k + 1 + j]:=by rw [HAT.out _ hEj]; exact List.getElem?_eq_getElem (by omega)
                have hu2 : (E ++ D.drop E.length)[k + 1 + j + 1]? = some D[k + 1 + j + 1]:=by rw [HAT.out _ (by omega)]; exact List.getElem?_eq_getElem hj
                generalize D[k + 1 + j] = y at *
                generalize D[k + 1 + j + 1] = x at *
                obtain ⟨sy,vsy⟩:=y
                obtain ⟨sx,vsx⟩:=x
                have HCN:=hid (fun W=>(show Calls Tryz.prog 121 #[.agg #[.string sx,.string vsx],.agg #[.string sy,.string vsy]] W
                  fun e w'=>e = .returned (.bool (decide (sx = sy))) /\ Below W.heap.size W w' from sameP_any (sx,vsx) (sy,vsy) W))
                have HTV:=hid (fun (W : World) (h : Mw w0 W g (E ++ D.drop E.length))=>(show W.cell? ⟨g,(k + 1) * 2 + j * 2,none⟩ = some (.string sy) /\ W.cell? ⟨g,(k + 1) * 2 + j * 2 + 1,none⟩ = some (.string vsy) /\ W.cell? ⟨g,(k + 1) * 2 + (j + 1) * 2,none⟩ = some (.string sx) /\ W.cell? ⟨g,(k + 1) * 2 + (j + 1) * 2 + 1,none⟩ = some (.string vsx) /\ Hid (Mw w0 W g (E ++ D.drop E.length)) by
                  have h2:=h.two hv2 hu2
                  unfold TwoM at h2
                  rw [show (k + 1 + j) * 2 = (k + 1) * 2 + j * 2 by omega,show (k + 1 + j + 1) * 2 = (k + 1) * 2 + (j + 1) * 2 by omega] at h2
                  exact h2))
                obtain ⟨a0,a1,b0,b1,_⟩:=HTV.out _ HRV.out
                clear hv2 hu2
                by_cases hoe : sx = sy
                · have HC3:=hid (HSM.out hoe)
                  rw [decide_eq_true hoe] at HCN
                  clear hoe
                  go_wp2_with fail
                  go_region_held (fun W=>W.cell? ⟨g,(k + 1) * 2 + j * 2,none⟩ = some (.string sy) /\ W.cell? ⟨g,(k + 1) * 2 + j * 2 + 1,none⟩ = some (.string vsy) /\ W.cell? ⟨g,(k + 1) * 2 + (j + 1) * 2,none⟩ = some (.string sx) /\ W.cell? ⟨g,(k + 1) * 2 + (j + 1) * 2 + 1,none⟩ = some (.string vsx) /\ Hid (Mw w0 W g (E ++ D.drop E.length))) (first | exact HTV.out _ HRb.out | exact HTV.out _ (HRV.out.below (below_drawn _ 1))) (first
                  | (go_at_call 121; refine (HCN.out _).mono ?_; rintro e w' ⟨rfl,hb⟩; have HRb:=hid ((HRV.out.below (below_drawn _ 1)).below hb); clear hb))
                  all_goals
                    go_wp2_with fail
                    go_roundw
                    case rel=>exact ⟨j + 1,E,rfl,by go_num,by omega,by omega,HC3,HRb⟩
                    case measure=>simp [intOf]; omega
                · have HC3:=hid (HMO.out hoe)
                  rw [decide_eq_false hoe] at HCN
                  clear hoe
                  go_wp2_with fail
                  go_region_held (fun W=>W.cell? ⟨g,(k + 1) * 2 + j * 2,none⟩ = some (.string sy) /\ W.cell? ⟨g,(k + 1) * 2 + j * 2 + 1,none⟩ = some (.string vsy) /\ W.cell? ⟨g,(k + 1) * 2 + (j + 1) * 2,none⟩ = some (.string sx) /\ W.cell? ⟨g,(k + 1) * 2 + (j + 1) * 2 + 1,none⟩ = some (.string vsx) /\ Hid (Mw w0 W g (E ++ D.drop E.length))) (first | exact HTV.out _ HRb.out | exact HTV.out _ (HRV.out.below (below_drawn _ 1))) (first
                  | (go_at_call 121; refine (HCN.out _).mono ?_; rintro e w' ⟨rfl,hb⟩; have HRb:=hid ((HRV.out.below (below_drawn _ 1)).below hb); clear hb))
                  all_goals
                    clear a0 a1 b0 b1
                    obtain ⟨a0,a1,b0,b1,_⟩:=HTV.out _ HRb.out
                    have hfz:=HRb.out.fz
                    have e1 : (0 : Int) <= (E.length : Int):=by omega
                    have e2 : (E.length : Int) < (D.length : Int):=by omega
                    have hEl : E.length < (E ++ D.drop E.length).length:=by simp; omega
                    obtain ⟨z0,z1⟩:=HRb.out.at (j:=E.length) (r:=(E ++ D.drop E.length)[E.length]) (List.getElem?_eq_getElem hEl)
                    have HW4:=hid (show Mw w0 ((w'.setCell ⟨g,E.length * 2,none⟩ (.string sx)).setCell ⟨g,E.length * 2 + 1,none⟩ (.string vsx)) g ((E ++ [((sx,vsx) : Bm)]) ++ D.drop (E ++ [((sx,vsx) : Bm)]).length) by
                      have h:=HRb.out.setAt E.length hEl (sx,vsx)
                      have e : (E ++ D.drop E.length).set E.length (sx,vsx) = (E ++ [((sx,vsx) : Bm)]) ++ D.drop (E ++ [((sx,vsx) : Bm)]).length:=by
                        rw [List.set_append_right _ _ (Nat.le_refl _),Nat.sub_self,List.drop_eq_getElem_cons (show E.length < D.length by omega),List.set_cons_zero,List.length_append]
                        simp
                      rw [e] at h
                      exact h)
                    go_wp2_with fail
                    go_roundw
                    case rel=>exact ⟨j + 1,E ++ [(sx,vsx)],by simp,by go_num,by omega,by simp; omega,HC3,HW4⟩
                    case measure=>simp [intOf]; omega
              · have hje : k + 1 + (j + 1) = D.length:=by omega
                have g2 : ¬ (j : Int) + 1 < ((D.length - (k + 1) : Nat) : Int):=by omega
                have hRl : (E ++ D.drop E.length).length = D.length:=by simp; omega
                obtain ⟨zs,hcl⟩:=run_clear_mw HRV.out E.length (by omega)
                rw [hRl] at hcl
                have HEN:=hid (show CpM D D.length E by have:=HCE.out; rw [show k + 1 + j + 1 = D.length by omega] at this; exact this)
                have HRE:=hid (show Mw w0 (wr.setCells g (E.length * 2) zs) g E by
                  have:=HRV.out.cleared E.length (by omega) zs
                  rw [List.take_left'  rfl] at this
                  exact this)
                have c1 : (E.length : Int) <= (D.length : Int):=by omega
                have c2 : (E.length : Int) < (cap : Int):=by omega
                have c3 : (E.length : Int) <= (cap : Int):=by omega
                have c4 : (0 : Int) <= (E.length : Int):=by omega
                have c5 : E.length < cap:=by omega
                go_wp2_with fail
                go_ret
                exact ⟨E,rfl,by omega,HEN.out.jn HRT.out,HRE.out⟩
        · have HC2:=hid (HPL.out hod)
          rw [decide_eq_false hod] at HCM
          clear hod
          go_wp2_with fail
          go_region_held (fun W=>W.cell? ⟨g,k * 2,none⟩ = some (.string ty) /\ W.cell? ⟨g,k * 2 + 1,none⟩ = some (.string vy) /\ W.cell? ⟨g,(k + 1) * 2,none⟩ = some (.string tx) /\ W.cell? ⟨g,(k + 1) * 2 + 1,none⟩ = some (.string vx) /\ Hid (Mw w0 W g D)) (first | exact HTW.out _ HRa.out | exact HTW.out _ (HRW.out.below (below_drawn _ 1))) (first
            | (go_at_call 121; refine (HCM.out _).mono ?_; rintro e w' ⟨rfl,hb⟩; have HRa:=hid ((HRW.out.below (below_drawn _ 1)).below hb); clear hb))
          all_goals
            go_wp2_with fail
            go_roundw
            case rel=>exact ⟨k + 1,by omega,by go_num,HC2,HRa⟩
            case measure=>simp [intOf]; omega
      · obtain hke : k + 1 = D.length:=by omega
        have HFI:=hid (show CpM D D.length D by have:=HCP.out; rw [hke,List.take_length] at this; exact this)
        have hi2 : ¬ (k : Int) + 1 < (D.length : Int):=by omega
        go_wp2_with fail
        go_ret
        exact ⟨D,rfl,Nat.le_refl _,HFI.out.jn HRT.out,HRW.out⟩
def badM (m : Bm) : Bool:=decide (mErr m ≠ 0)
def rightL (D : List Bm) : List Bm:=D.filter fun m=>!badM m
theorem rightL_mem {D : List Bm} {m : Bm} : m ∈ rightL D ↔ m ∈ D /\ mErr m = 0:=by
  unfold rightL
  rw [List.mem_filter]
  simp [badM]
set_option maxHeartbeats 1000000 in
theorem rightK_any (m : Bm) (A : Nat -> Addr) (ml : Int) (W : World) (hp : m.1.size < 999999) (hv : m.2.size < 999999) (S : Te W A ml) :
    Calls Tryz.prog 123 (#[.agg #[.string m.1,.string m.2]] ++ #[]) W fun e w'=>e = .returned (.bool (badM m)) /\ Below W.heap.size W w':=by
  obtain ⟨p,v⟩:=m
  simp only at hp hv
  show Calls Tryz.prog 123 #[.agg #[.string p,.string v]] W _
  have HB0:=hid ((Below.refl W.heap.size W).alloc (Nat.le_refl _) (.cells #[.string p,.string v] 25))
  have HM:=hid (mcheck_any p v A ml _ (by omega) (by omega) (S.below HB0.out))
  have hme : mErr (p,v) = modErr p.data.toList v.data.toList:=rfl
  rw [<- hme] at HM
  clear S hme
  by_cases h : mErr (p,v) = 0
  · have HD:=hid (show badM (p,v) = false by unfold badM; simp [h])
    rw [h,errA0] at HM
    generalize badM (p,v) = z at *
    clear h
    go_enter Tryz.func123,Tryz.ntmps123
    go_wp2_with fail
    refine HM.out.mono ?_
    rintro e w1 ⟨rfl,hb⟩
    have HB:=hid (HB0.out.trans (hb.mono HB0.out.size))
    clear hb
    go_wp2_with fail
    go_ret
    exact ⟨ret_bool HD.out.symm,HB.out⟩
  · have HD:=hid (show badM (p,v) = true by unfold badM; simp [h])
    rw [errA_if A h] at HM
    generalize badM (p,v) = z at *
    clear h
    go_enter Tryz.func123,Tryz.ntmps123
    go_wp2_with fail
    refine HM.out.mono ?_
    rintro e w1 ⟨rfl,hb⟩
    have HB:=hid (HB0.out.trans (hb.mono HB0.out.size))
    clear hb
    go_wp2_with fail
    go_ret
    exact ⟨ret_bool HD.out.symm,HB.out⟩
theorem rightL_take {D : List Bm} {k : Nat} (hk : k < D.length) : rightL (D.take (k + 1)) = if badM D[k] then rightL (D.take k) else rightL (D.take k) ++ [D[k]]:=by
  unfold rightL
  rw [List.take_succ_eq_append_getElem hk,List.filter_append]
  cases h : badM D[k] <;> simp [h]
theorem rightL_first {D : List Bm} {k : Nat} (hk : k < D.length) (h1 : badM D[k] = true) (h2 : ∀ j (hj : j < D.length),j < k -> badM D[j] = false) : rightL (D.take (k + 1)) = D.take k:=by
  rw [rightL_take hk,if_pos h1]
  unfold rightL
  rw [List.filter_eq_self]
  intro x hx
  obtain ⟨i,hi,him,rfl⟩:=mem_take_at hx
  rw [h2 i hi him]; rfl
theorem rightL_all {D : List Bm} (h : ∀ x,x ∈ D -> badM x = false) : rightL D = D:=by
  unfold rightL
  rw [List.filter_eq_self]
  intro x hx
  rw [h x hx]; rfl
set_option maxRecDepth 100000 in
set_option maxHeartbeats 8000000 in
theorem del_mw (w0 w : World) (g cap : Nat) (D : List Bm) (A : Nat → Addr) (ml : Int) (S : Te w0 A ml) (h12 : D.length ≤ 1000000) (hc : D.length ≤ cap) (hz : ∀ r, r ∈ D → r.1.size < 999999 ∧ r.2.size < 999999) (hR : Mw w0 w g D) :
    Calls Tryz.prog 122 #[.slice (some ⟨g,0,none⟩) D.length cap,.func (.func 123) #[] #[]] w fun e w'=>e = .returned (.slice (some ⟨g,0,none⟩) (rightL D).length cap) /\ Mw w0 w' g (rightL D):=by
  have eg : ∀ args w,(callFunc 123 args).run Tryz.prog w = .ok (.enter 123 args) w:=enters_of Tryz.func123 (by kernel_rfl) rfl
  have HRK:=hid (fun (m : Bm) (hm : m ∈ D) W (hW : Below w0.heap.size w0 W)=>rightK_any m A ml W (hz m hm).1 (hz m hm).2 (S.below hW))
  have HI:=hid (idxM_any 123 #[] badM D _ w eg h12 (hR.ms hc) (fun i hi W hW=>HRK.out D[i] (List.getElem_mem hi) W (hR.bl.trans (hW.mono hR.bl.size))))
  have HR:=hid hR
  clear hR S hz
  rcases idxB_kind badM D with ⟨e1,h2⟩ | ⟨k,hk,e1,h2,h3⟩
  · rw [e1] at HI
    rw [rightL_all h2]
    clear e1 h2
    go_enter Tryz.func122,Tryz.ntmps122
    go_wp2_with fail
    refine HI.out.mono ?_
    rintro e w1 ⟨rfl,hb⟩
    have HR1:=hid (HR.out.below hb)
    clear hb
    go_wp2_with fail
    go_ret
    exact ⟨rfl,HR1.out⟩
  · rw [e1] at HI
    have HF:=hid (rightL_first hk h2 h3)
    have hkn : ¬ (k : Int) = -1:=by omega
    have hk1 : (k : Int) < (D.length : Int):=by omega
    clear e1 h2 h3
    go_enter Tryz.func122,Tryz.ntmps122
    go_wp2_with fail
    refine HI.out.mono ?_
    rintro e w1 ⟨rfl,hb⟩
    have HR1:=hid (HR.out.below hb)
    clear hb
    go_wp2_with fail
    go_loopw [5,6] (fun a b wr=>∃ (j : Nat),a = .int .i64 ((rightL (D.take j)).length : Int) /\ b = .int .i64 (j : Int) /\ j <= D.length /\ (rightL (D.take j)).length < j /\ Hid (Mw w0 wr g (rightL (D.take j) ++ D.drop (rightL (D.take j)).length))) (fun _ b _=>D.length - (intOf b).toNat)
    case atStart=>
      have hl : (D.take k).length = k:=by simp; omega
      exact ⟨k + 1,by rw [HF.out,hl],by go_num,by omega,by rw [HF.out,hl]; omega,hid (by rw [HF.out,hl,List.take_append_drop]; exact HR1.out)⟩
    case round=>
      obtain ⟨j,rfl,rfl,hjD,hEj,HRV⟩:=hrel
      have HAT:=hid (show ∀ i,(rightL (D.take j)).length <= i -> (rightL (D.take j) ++ D.drop (rightL (D.take j)).length)[i]? = D[i]? from fun i hi=>by rw [List.getElem?_append_right hi,List.getElem?_drop]; congr 1; omega)
      by_cases hj : j < D.length
      · have g1 : (j : Int) < (D.length : Int):=by omega
        have HT:=hid (rightL_take hj)
        obtain ⟨y0,y1⟩:=HRV.out.at (j:=j) (r:=D[j]) (by rw [HAT.out j (by omega)]; exact List.getElem?_eq_getElem hj)
        have HKX:=hid (fun W (hW : Below w0.heap.size w0 W)=>(show Calls Tryz.prog 123 #[.agg #[.string D[j].1,.string D[j].2]] W fun e w'=>e = .returned (.bool (badM D[j])) /\ Below W.heap.size W w' from HRK.out D[j] (List.getElem_mem hj) W hW))
        generalize D[j] = x at *
        generalize hE : rightL (D.take j) = E at *
        obtain ⟨x1,x2⟩:=x
        have HBA:=hid ((Below.refl wr.heap.size wr).alloc (Nat.le_refl _) (.cells #[.string x1,.string x2] 25))
        have HRA:=hid (HRV.out.below HBA.out)
        have HP:=hid (HKX.out _ HRA.out.bl)
        cases hbad : badM (x1,x2)
        · rw [hbad] at HP HT
          have HT2:=hid (show rightL (D.take (j + 1)) = E ++ [(x1,x2)] from HT.out)
          clear hbad
          go_wp2_with fail
          refine HP.out.mono ?_
          rintro e w2 ⟨rfl,hb⟩
          have HR2:=hid (HRA.out.below hb)
          have d0 : w2.cell? ⟨wr.heap.size,0,none⟩ = some (.string x1):=cell_below hb (by simp)
          have d1 : w2.cell? ⟨wr.heap.size,1,none⟩ = some (.string x2):=cell_below hb (by simp)
          have hfz:=HR2.out.fz
          have e1 : (0 : Int) <= (E.length : Int):=by omega
          have e2 : (E.length : Int) < (D.length : Int):=by omega
          have hEl : E.length < (E ++ D.drop E.length).length:=by simp; omega
          obtain ⟨z0,z1⟩:=HR2.out.at (j:=E.length) (r:=(E ++ D.drop E.length)[E.length]) (List.getElem?_eq_getElem hEl)
          have HW4:=hid (show Mw w0 ((w2.setCell ⟨g,E.length * 2,none⟩ (.string x1)).setCell ⟨g,E.length * 2 + 1,none⟩ (.string x2)) g ((E ++ [((x1,x2) : Bm)]) ++ D.drop (E ++ [((x1,x2) : Bm)]).length) by
            have h:=HR2.out.setAt E.length hEl (x1,x2)
            have e : (E ++ D.drop E.length).set E.length (x1,x2) = (E ++ [((x1,x2) : Bm)]) ++ D.drop (E ++ [((x1,x2) : Bm)]).length:=by
              rw [List.set_append_right _ _ (Nat.le_refl _),Nat.sub_self,List.drop_eq_getElem_cons (show E.length < D.length by omega),List.set_cons_zero,List.length_append]
              simp
            rw [e] at h
            exact h)
          clear hb y0 y1
          go_wp2_with fail
          go_roundw
          case rel=>
            repeat apply Exists.intro
            refine ⟨?r,rfl⟩
            exact ⟨j + 1,by rw [HT2.out]; first | (simp; done) | (rw [List.length_append]; go_num),by go_num,by omega,by rw [HT2.out]; simp; omega,hid (by rw [HT2.out]; exact HW4.out)⟩
          case measure=>simp [intOf]; omega
        · rw [hbad] at HP HT
          have HT2:=hid (show rightL (D.take (j + 1)) = E from HT.out)
          clear hbad
          go_wp2_with fail
          refine HP.out.mono ?_
          rintro e w2 ⟨rfl,hb⟩
          have HR2:=hid (HRA.out.below hb)
          clear hb y0 y1
          go_wp2_with fail
          go_roundw
          case rel=>
            repeat apply Exists.intro
            refine ⟨?r2,rfl⟩
            exact ⟨j + 1,by rw [HT2.out],by go_num,by omega,by rw [HT2.out]; omega,hid (by rw [HT2.out]; exact HR2.out)⟩
          case measure=>simp [intOf]; omega
      · obtain rfl : j = D.length:=by omega
        have g2 : ¬ (D.length : Int) < (D.length : Int):=by omega
        rw [List.take_length] at hEj HRV HAT ⊢
        generalize hE : rightL D = E at *
        have hRl : (E ++ D.drop E.length).length = D.length:=by simp; omega
        obtain ⟨zs,hcl⟩:=run_clear_mw HRV.out E.length (by omega)
        rw [hRl] at hcl
        have HRE:=hid (show Mw w0 (wr.setCells g (E.length * 2) zs) g E by
          have:=HRV.out.cleared E.length (by omega) zs
          rw [List.take_left' rfl] at this
          exact this)
        have c1 : (E.length : Int) <= (D.length : Int):=by omega
        have c2 : (E.length : Int) < (cap : Int):=by omega
        have c3 : (E.length : Int) <= (cap : Int):=by omega
        have c4 : (0 : Int) <= (E.length : Int):=by omega
        have c5 : E.length < cap:=by omega
        have c6 : (D.length : Int) <= (cap : Int):=by omega
        go_wp2_with fail
        go_ret
        exact ⟨rfl,HRE.out⟩
end Ve
end Go.Proofs.YtlcffhadobhfkaaGreatDoor
