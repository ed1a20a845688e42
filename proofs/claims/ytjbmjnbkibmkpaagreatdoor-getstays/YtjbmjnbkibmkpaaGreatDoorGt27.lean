
import Derived.Test.YtjbmjnbkibmkpaaGreatDoorGt6
import Derived.Test.YtjbmjnbkibmkpaaGreatDoorGt26
import Derived.Test.YtjbmjnbkibmkpaaGreatDoorGt14
import Derived.Test.YtjbmjnbkibmkpaaGreatDoorGt22
import Derived.Test.YtjbmjnbkibmkpaaGreatDoorGt23
import Derived.Test.YtjbmjnbkibmkpaaGreatDoorGt3
import Derived.Test.YtjbmjnbkibmkpaaGreatDoorGt25
import Derived.Test.YtjbmjnbkibmkpaaGreatDoorGt4
import Derived.Test.YtjbmjnbkibmkpaaGreatDoorGt5
import Derived.Test.YtjbmjnbkibmkpaaGreatDoorGt9
import Derived.Test.YtjbmjnbkibmkpaaGreatDoorGt19
import Derived.Test.YtjbmjnbkibmkpaaGreatDoorGt20
import Derived.Test.YtjbmjnbkibmkpaaGreatDoorGt15
import Derived.Test.YtjbmjnbkibmkpaaGreatDoorGt24
import Derived.Test.YtjbmjnbkibmkpaaGreatDoorGt11
set_option maxHeartbeats 8000000
namespace Go.Proofs.YtjbmjnbkibmkpaaGreatDoor
open Go.RowKit
namespace Ve
set_option maxRecDepth 100000 in
theorem qwhere_some (K : Nat) (cb : Array Value) (P : Raw -> Bool) (L : List Raw) (b o c : Nat) (w : World) (eg : ∀ args w,(callFunc K args).run Tryz.prog w = .ok (.enter K args) w) (hL : L.length <= 100000) (hs : ∀ r,r ∈ L -> slR r)
  (hc : ∀ j (h : j < L.length),w.cell? ⟨b,o + j * 5,none⟩ = some (.string L[j].1.1) /\ w.cell? ⟨b,o + j * 5 + 1,none⟩ = some (.string L[j].1.2) /\ w.cell? ⟨b,o + j * 5 + 2,none⟩ = some L[j].2.1 /\ w.cell? ⟨b,o + j * 5 + 3,none⟩ = some L[j].2.2.1 /\ w.cell? ⟨b,o + j * 5 + 4,none⟩ = some (.bool L[j].2.2.2))
  (hK : ∀ i (h : i < L.length) W,Below w.heap.size w W -> Calls Tryz.prog K (#[.string L[i].1.2] ++ cb) W fun e w'=>e = .returned (.bool (P L[i])) /\ Below W.heap.size W w') :
  Calls Tryz.prog 140 #[.slice (some ⟨b,o,none⟩) L.length c,.func (.func K) #[] cb] w fun e w'=>∃ v,e = .returned v /\ w'.ownsRow w.heap.size 54 5 v (L.filter P).length (flatR (L.filter P)) /\ Below w.heap.size w w':=by
 obtain ⟨i0,hi0,hz0,hz1,hz2⟩:=info_parts infoEnt
 have HK:=hid hK
 have HC:=hid hc
 have HSL:=hid hs
 clear hK hc hs
 go_enter Tryz.func140,Tryz.ntmps140
 go_wp2_with fail
 go_loopw [5,10] (fun ov i wr=>∃ k : Nat,k <= L.length /\ i = .int .i64 k /\ Hid (wr.ownsRow w.heap.size 54 5 ov ((L.take k).filter P).length (flatR ((L.take k).filter P))) /\ Hid (Below w.heap.size w wr)) (fun _ i _=>L.length - (intOf i).toNat)
 case atStart=>exact ⟨0,Nat.zero_le _,rfl,hid (World.ownsRow_nil _ _ _ _),hid (Below.refl _ _)⟩
 case round=>
  obtain ⟨k,hk,rfl,HO,HB⟩:=hrel
  by_cases hlt : k < L.length
  ·obtain ⟨y0,y1,y2,y3,y4⟩:=HC.out k hlt
   have x0:=cell_below HB.out y0
   have x1:=cell_below HB.out y1
   have x2:=cell_below HB.out y2
   have x3:=cell_below HB.out y3
   have x4:=cell_below HB.out y4
   have hsl:=HSL.out L[k] (List.getElem_mem hlt)
   have hkI : (k : Int) < (L.length : Int):=by omega
   have HLT:=hid hlt
   have HY:=hid (fun h=>filter_yes hlt h (P:=P))
   have HN:=hid (fun h=>filter_no hlt h (P:=P))
   have HKK:=hid (fun W hW=>HK.out k hlt W hW)
   have HLN:=hid (show ((L.take k).filter P).length <= 100000 from Nat.le_trans (List.length_filter_le _ _) (by rw [List.length_take]; omega))
   clear y0 y1 y2 y3 y4
   generalize L[k] = x at *
   obtain ⟨⟨p,q⟩,rv,pv,bk⟩:=x
   obtain ⟨⟨ra,rn,rc,hrv⟩,pa,pn,pc,hpv⟩:=hsl
   simp only at hrv hpv
   subst hrv
   subst hpv
   have HBa:=hid (HB.out.alloc HB.out.size (.cells #[.string p,.string q,.slice ra rn rc,.slice pa pn pc,.bool bk] 54))
   have HP:=hid (HKK.out _ HBa.out)
   have HOa:=hid (HO.out.alloc (.cells #[.string p,.string q,.slice ra rn rc,.slice pa pn pc,.bool bk] 54))
   clear hlt HKK
   cases hp : P ((p,q),.slice ra rn rc,.slice pa pn pc,bk)
   ·rw [hp] at HP
    have HN2:=hid (HN.out hp)
    clear hp
    go_wp2_with fail
    refine HP.out.mono ?_
    rintro e w1 ⟨rfl,hb⟩
    have HB1:=hid (HBa.out.trans (hb.mono HBa.out.size))
    have HO1:=hid (owns_below HOa.out hb)
    clear hb
    go_wp2_with fail
    go_roundw
    case rel=>exact ⟨k + 1,by have:=HLT.out; omega,by go_num,by rw [HN2.out]; exact HO1,HB1⟩
    case measure=>have:=HLT.out; simp [intOf]; omega
   ·rw [hp] at HP
    have HY2:=hid (HY.out hp)
    clear hp
    go_wp2_with fail
    refine HP.out.mono ?_
    rintro e w1 ⟨rfl,hb⟩
    have HB1:=hid (HBa.out.trans (hb.mono HBa.out.size))
    have HO1:=hid (owns_below HOa.out hb)
    have HE1:=hid (show w1.heap[wr.heap.size]? = some (.cells #[.string p,.string q,.slice ra rn rc,.slice pa pn pc,.bool bk] 54 (0,0)) by rw [hb.block _ (by simp)]; exact heap_alloc_new wr _)
    have z0 : w1.cell? ⟨wr.heap.size,0,none⟩ = some (.string p):=by rw [Lib.cell_of_heap HE1.out]; rfl
    have z1 : w1.cell? ⟨wr.heap.size,1,none⟩ = some (.string q):=by rw [Lib.cell_of_heap HE1.out]; rfl
    have z2 : w1.cell? ⟨wr.heap.size,2,none⟩ = some (.slice ra rn rc):=by rw [Lib.cell_of_heap HE1.out]; rfl
    have z3 : w1.cell? ⟨wr.heap.size,3,none⟩ = some (.slice pa pn pc):=by rw [Lib.cell_of_heap HE1.out]; rfl
    have z4 : w1.cell? ⟨wr.heap.size,4,none⟩ = some (.bool bk):=by rw [Lib.cell_of_heap HE1.out]; rfl
    clear hb x0 x1 x2 x3 x4
    go_wp2_with (at_builtin; refine wpList_append_own _ rfl _ _ 22 rfl w.heap.size 54 i0 _ 5 88 Tryz.underlying22 hi0 hz0 hz1 hz2 rfl (by decide) _ _ _ rfl (HO1.out.alloc _) ⟨w1.heap.size,0,none⟩ 1 1 [.string p,.string q,.slice ra rn rc,.slice pa pn pc,.bool bk] rfl rfl ?c1 ?c2 ?c3 ?c4 ?c5 ?_)
    case c1=>exact World.news_of_block (cs:=#[.string p,.string q,.slice ra rn rc,.slice pa pn pc,.bool bk]) (t:=54) (fr:=(0,0)) (heap_alloc_new w1 _)
    case c2=>
     intro u hu
     simp at hu
     rcases hu with rfl | rfl | rfl | rfl | rfl <;> rfl
    case c3=>have:=HLN.out; unfold maxLen; omega
    case c4=>have:=HLN.out; omega
    case c5=>have:=HB1.out.size; simp; omega
    intro v' w3 hown hgrow _
    have HR3:=hid (rel_app5 HB1.out.size HB1.out HO1.out (Below.refl _ _) hgrow)
    have HO3:=hid hown
    clear hown hgrow z0 z1 z2 z3 z4
    go_wp2_with fail
    go_roundw
    case rel=>exact ⟨k + 1,by have:=HLT.out; omega,by go_num,hid (own_nextR (x:=((p,q),.slice ra rn rc,.slice pa pn pc,bk)) HO3.out HY2.out),HR3⟩
    case measure=>have:=HLT.out; simp [intOf]; omega
  ·have HTR:=hid (show L.take k = L from List.take_of_length_le (by omega))
   rw [HTR.out] at HO
   have hkI : ¬ (k : Int) < (L.length : Int):=by omega
   clear hlt
   go_wp2_with fail
   go_ret
   exact ⟨_,rfl,HO.out,HB.out⟩
theorem qwhere_none (K : Nat) (cb : Array Value) (a : Option Addr) (c : Nat) (w : World) :
  Calls Tryz.prog 140 #[.slice a 0 c,.func (.func K) #[] cb] w fun e w'=>e = .returned (.slice none 0 0) /\ Below w.heap.size w w':=by
 go_enter Tryz.func140,Tryz.ntmps140
 go_wp2_with fail
 go_loopw [5,10] (fun ov i wr=>ov = .slice none 0 0 /\ i = .int .i64 0 /\ wr = w) (fun _ i _=>0)
 case atStart=>exact ⟨rfl,rfl,rfl⟩
 case round=>
  obtain ⟨rfl,rfl,rfl⟩:=hrel
  go_wp2_with fail
  go_ret
  exact ⟨rfl,Below.refl _ _⟩
theorem qwhere_any (K : Nat) (cb : Array Value) (P : Raw -> Bool) (L : List Raw) (v : Value) (w : World) (eg : ∀ args w,(callFunc K args).run Tryz.prog w = .ok (.enter K args) w) (hL : L.length <= 100000) (hv : EsAt w v L)
  (hK : ∀ i (h : i < L.length) W,Below w.heap.size w W -> Calls Tryz.prog K (#[.string L[i].1.2] ++ cb) W fun e w'=>e = .returned (.bool (P L[i])) /\ Below W.heap.size W w') :
  Calls Tryz.prog 140 #[v,.func (.func K) #[] cb] w fun e w'=>∃ v',e = .returned v' /\ EsAt w' v' (L.filter P) /\ Below w.heap.size w w':=by
 obtain ⟨a,c,rfl,_,hs,h⟩:=hv
 have hsf : ∀ r,r ∈ L.filter P -> slR r:=fun r hr=>hs r (List.mem_filter.1 hr).1
 cases L with
 | nil=>exact (qwhere_none K cb a c w).mono fun e w' ⟨h1,h2⟩=>⟨_,h1,⟨none,0,rfl,Nat.le_refl _,fun r hr=>absurd hr (by simp),fun h=>absurd rfl h⟩,h2⟩
 | cons x r=>
  obtain ⟨b,o,rfl,h2⟩:=h (by simp)
  exact (qwhere_some K cb P (x :: r) b o c w eg hL hs h2 hK).mono fun e w' ⟨v',h1,h2,h3⟩=>⟨v',h1,own_es hsf h2,h3⟩
end Ve
end Go.Proofs.YtjbmjnbkibmkpaaGreatDoor


namespace Go.Proofs.YtjbmjnbkibmkpaaGreatDoor
open Go.RowKit
namespace Ve
set_option maxRecDepth 100000 in
theorem pick_q (t q now : ByteArray) (a : Option Addr) (n c : Nat) (A : Nat -> Addr) (m : Int) (w : World) (hq : q.size <= 100) (S : Te w A m) (h : qErr q ≠ 0) :
  Calls Tryz.prog 101 #[.slice a n c,.string t,.string q,.string now] w fun e w'=>e = .returned (.tuple #[.string ⟨#[]⟩,errA A (qErr q)]) /\ Below w.heap.size w w':=by
 have HC:=hid (check_c q A m w hq S)
 obtain ⟨ea,he⟩:=errA_ne A h
 have HE:=hid he
 rw [he] at HC
 clear S h he
 go_enter Tryz.func101,Tryz.ntmps101
 go_wp2_with fail
 refine HC.out.mono ?_
 rintro e w1 ⟨rfl,hb⟩
 have HB:=hid hb
 clear hb
 go_wp2_with fail
 go_ret2
 exact ⟨by rw [HE.out]; rfl,HB.out⟩
theorem chk_ok {q : ByteArray} {A : Nat -> Addr} (h : qErr q = 0) : errA A (qErr q) = .nilIface:=by rw [h]; rfl
set_option maxRecDepth 100000 in
theorem pick_idx (Q : List Raw) (L : List Ent) (t q now : ByteArray) (v : Value) (A : Nat -> Addr) (m : Int) (w : World) (hL : L.length <= 200) (sh : ∀ e,e ∈ L -> ShE e) (hq : q.size <= 100) (S : Te w A m) (I : Ixs w v Q L) (h : qErr q = 0) (hc : (chk Q L).1 ≠ 0) :
  Calls Tryz.prog 101 #[v,.string t,.string q,.string now] w fun e w'=>∃ x,e = .returned (.tuple #[.string ⟨#[]⟩,x]) /\ ErrAt w' A x (chk Q L).1 (chk Q L).2 /\ Below w.heap.size w w':=by
 have HC:=hid (check_c q A m w hq S)
 rw [chk_ok h] at HC
 have HI:=hid (fun W (hb : Below w.heap.size w W)=>icheck_any Q L v A m W (by omega) sh (S.below hb) (I.below hb))
 have HNZ:=hid hc
 obtain ⟨a,c,rfl,-⟩:=I.es
 clear S h I hc
 go_enter Tryz.func101,Tryz.ntmps101
 go_wp2_with fail
 refine HC.out.mono ?_
 rintro e w1 ⟨rfl,hb⟩
 have HB:=hid hb
 clear hb
 go_wp2_with fail
 refine (HI.out _ HB.out).mono ?_
 rintro e w2 ⟨x,rfl,hx,hb⟩
 have HB2:=hid (HB.out.trans (hb.mono HB.out.size))
 have HX:=hid hx
 rcases hx.kind with ⟨h0,-⟩ | ⟨-,T,ea,rfl⟩
 ·exact absurd h0 HNZ.out
 clear hx hb
 go_wp2_with fail
 go_ret2
 exact ⟨_,rfl,HX.out,HB2.out⟩
set_option maxRecDepth 100000 in
theorem pick_no (Q : List Raw) (L : List Ent) (t now : ByteArray) (v : Value) (A : Nat -> Addr) (m : Int) (w : World) (hL : L.length <= 200) (sh : ∀ e,e ∈ L -> ShE e) (S : Te w A m) (I : Ixs w v Q L) (hc : (chk Q L).1 = 0) :
  Calls Tryz.prog 101 #[v,.string t,.string bNone,.string now] w fun e w'=>e = .returned (.tuple #[.string bNone,.nilIface]) /\ Below w.heap.size w w':=by
 have HC:=hid (check_c bNone A m w (by decide) S)
 rw [chk_ok (qErr_word rfl)] at HC
 have HI:=hid (fun W (hb : Below w.heap.size w W)=>icheck_any Q L v A m W (by omega) sh (S.below hb) (I.below hb))
 have HNZ:=hid hc
 have k1 : (bNone.toList == [110,111,110,101]) = true:=by rw [ByteArray.toList_eq]; rfl
 have HBN:=hid (show bNone = ⟨#[110,111,110,101]⟩ from rfl)
 generalize bNone = q at *
 obtain ⟨a,c,rfl,-⟩:=I.es
 clear S I hc
 go_enter Tryz.func101,Tryz.ntmps101
 go_wp2_with fail
 refine HC.out.mono ?_
 rintro e w1 ⟨rfl,hb⟩
 have HB:=hid hb
 clear hb
 go_wp2_with fail
 refine (HI.out _ HB.out).mono ?_
 rintro e w2 ⟨x,rfl,hx,hb⟩
 have HB2:=hid (HB.out.trans (hb.mono HB.out.size))
 have hx0 : x = .nilIface:=by
  rcases hx.kind with ⟨-,h⟩ | ⟨h0,-⟩
  ·exact h
  ·exact absurd HNZ.out h0
 subst hx0
 clear hx hb
 go_wp2_with fail
 go_ret2
 exact ⟨by rw [HBN.out]; rfl,HB2.out⟩
def tkY (q now : ByteArray) (Y : List ByteArray) : ByteArray:=if begB q sGt then headT Y else if q = bUpgrade then maxB (lastT Y) now else lastT Y
theorem tkY_head {q now : ByteArray} {Y : List ByteArray} (h : begB q sGt = true) : tkY q now Y = headT Y:=if_pos h
theorem tkY_up {q now : ByteArray} {Y : List ByteArray} (h : begB q sGt = false) (h2 : q = bUpgrade) : tkY q now Y = maxB (lastT Y) now:=by unfold tkY; rw [if_neg (by rw [h]; simp),if_pos h2]
theorem tkY_last {q now : ByteArray} {Y : List ByteArray} (h : begB q sGt = false) (h2 : ¬ q = bUpgrade) : tkY q now Y = lastT Y:=by unfold tkY; rw [if_neg (by rw [h]; simp),if_neg h2]
set_option maxRecDepth 100000 in
theorem pick_go (Q : List Raw) (L : List Ent) (t q now : ByteArray) (v : Value) (A : Nat -> Addr) (m : Int) (w : World) (hL : L.length <= 200) (sh : ∀ e,e ∈ L -> ShE e) (hz : shortQ Q) (hq : q.size <= 100) (hnow : now.size <= 100) (S : Te w A m) (htab : Lib.TabIs Tryz.prog w powName .u64 Lib.pow10Tab) (I : Ixs w v Q L) (hk : look Q L q) :
  Calls Tryz.prog 101 #[v,.string t,.string q,.string now] w fun e w'=>∃ Y,Kept (verL (bestR (ofP t (fitR q now Q)))) (verL (bestR (ofP t (fitR q now Q)))).length Y /\
   ((Y = [] /\ e = .returned (.tuple #[.string ⟨#[]⟩,errA A 5])) \/ (0 < Y.length /\ e = .returned (.tuple #[.string (tkY q now Y),.nilIface]))) /\ Below w.heap.size w w':=by
 obtain ⟨hqe,hce,hqn⟩:=hk
 have HC:=hid (check_c q A m w hq S)
 rw [chk_ok hqe] at HC
 have HI:=hid (fun W (hb : Below w.heap.size w W)=>icheck_any Q L v A m W (by omega) sh (S.below hb) (I.below hb))
 have HNZ:=hid hce
 have HGD:=hid (good_of I hce)
 have HEN:=hid (fun W (hb : Below w.heap.size w W)=>I.es.below hb)
 have HSZ:=hid hz
 have hqL : Q.length <= 200:=by rw [I.ln]; exact hL
 have k1 : (q.toList == [110,111,110,101]) = false:=by rw [show ([110,111,110,101] : List UInt8) = bNone.data.toList from rfl,<- eqW]; exact decide_eq_false hqn
 have HFT:=hid (fun W (hb : Below w.heap.size w W)=>qfits_any q now A m W hq hnow hqn (S.below hb) (tab_below htab hb))
 have HWH:=hid (fun K cb W (hb : Below w.heap.size w W) eg hK=>qwhere_any K cb (fun r=>okQ q now r.1.2) Q v W eg (by omega) (I.es.below hb) hK)
 have HBE:=hid (fun u W (hb : Below w.heap.size w W) (he : EsAt W u (fitR q now Q))=>ibest_any (fitR q now Q) t u (A 0) (A 1) m W (Nat.le_trans (List.length_filter_le _ _) (by omega)) (fun r hr=>hz r (List.mem_filter.1 hr).1) (S.below hb).vs (tab_below htab hb) he)
 have HMX:=hid (fun x W (hb : Below w.heap.size w W) (hx : x.size < 999999)=>max_any x now (A 0) (A 1) m W hx (by omega) (S.below hb).vs)
 have HHP:=hid (fun W=>Tryz.strings_HasPrefix q ⟨#[62]⟩ W)
 have HS:=hid (fun W (hb : Below w.heap.size w W)=>S.below hb)
 have HBG:=hid (show begB q sGt = Lib.hasPrefix q.data.toList ([62] : List UInt8) from rfl)
 have HYS:=hid (fun Y (hY : Kept (verL (bestR (ofP t (fitR q now Q)))) (verL (bestR (ofP t (fitR q now Q)))).length Y) y (hy : y ∈ Y)=>show y.size < 999999 by
  obtain ⟨r,hr,rfl⟩:=kept_has (HGD.out.filter (fun r=>okQ q now r.1.2)) (R:=bestR (ofP t (fitR q now Q))) (fun r hr=>ofP_sub r (bestR_sub hr)) hY hy
  have:=(hz r (List.mem_filter.1 (ofP_sub r (bestR_sub hr))).1).2
  omega)
 obtain ⟨a,c,rfl,-⟩:=id I.es
 clear S I hce hqe htab hz sh
 go_enter Tryz.func101,Tryz.ntmps101
 go_wp2_with fail
 refine HC.out.mono ?_
 rintro e w1 ⟨rfl,hb⟩
 have HB:=hid hb
 clear hb
 go_wp2_with fail
 refine (HI.out _ HB.out).mono ?_
 rintro e w2 ⟨x,rfl,hx,hb⟩
 have HB2:=hid (HB.out.trans (hb.mono HB.out.size))
 have hx0 : x = .nilIface:=by
  rcases hx.kind with ⟨-,h⟩ | ⟨h0,-⟩
  ·exact h
  ·exact absurd HNZ.out h0
 subst hx0
 clear hx hb HB HC HI HNZ
 go_wp2_with fail
 refine (HFT.out _ HB2.out).mono ?_
 rintro e w3 ⟨f,rfl,⟨K,cb,rfl,eg,hK⟩,hb⟩
 have HB3:=hid (HB2.out.trans (hb.mono HB2.out.size))
 have HW3:=hid (HWH.out K cb w3 HB3.out eg (fun i hi W hW=>hK W Q[i].1.2 hW (by have:=(HSZ.out Q[i] (List.getElem_mem hi)).2; omega) (HGD.out.ver Q[i] (List.getElem_mem hi))))
 clear hb eg hK HFT HWH HB2 HEN
 go_wp2_with fail
 refine HW3.out.mono ?_
 rintro e w4 ⟨u,rfl,hu,hb⟩
 have HB4:=hid (HB3.out.trans (hb.mono HB3.out.size))
 have HB5:=hid (HBE.out u w4 HB4.out hu)
 obtain ⟨ua,uc,rfl,-⟩:=hu
 clear hb HW3 HBE HB3
 generalize (Q.filter fun r=>okQ q now r.1.2).length = un at *
 go_wp2_with fail
 refine HB5.out.mono ?_
 rintro e w5 ⟨y,rfl,Y,ho,hY,hb⟩
 have HB6:=hid (HB4.out.trans (hb.mono HB4.out.size))
 have HKY:=hid hY
 have HYZ:=hid (HYS.out Y hY)
 obtain ⟨ya,yc,hyv,_,hcell⟩:=own_tx ho
 subst hyv
 have HCC:=hid hcell
 have hmx:=own_max ho
 clear ho hb hY hcell HYS HB5
 by_cases hX : 0 < Y.length
 ·obtain ⟨b,o,rfl,hcc⟩:=HCC.out (by intro h; rw [h] at hX; simp at hX)
  have hne : ((Y.length : Int) == 0) = false:=by rw [beq_eq_false_iff_ne]; omega
  have hpos : (0 : Int) < (Y.length : Int):=by omega
  have HPOS:=hid hX
  cases hg : begB q sGt
  ·rw [<- HBG.out,hg] at HHP
   have hlast:=hcc (Y.length - 1) (by omega)
   have HLT:=hid (lastT_get hX)
   have HLZ:=hid (HYZ.out _ (List.getElem_mem (show Y.length - 1 < Y.length by omega)))
   rw [<- HLT.out] at hlast HLZ
   have hx1 : (Y.length : Int) - 1 = ((Y.length - 1 : Nat) : Int):=by omega
   have hx2 : ((Y.length - 1 : Nat) : Int) < (Y.length : Int):=by omega
   have hw64 : wrap64 ((Y.length - 1 : Nat) : Int) = ((Y.length - 1 : Nat) : Int):=IntWalk.wrap64_in _ (by unfold maxLen at hmx; omega)
   have htn : ((Y.length - 1 : Nat) : Int).toNat = Y.length - 1:=Int.toNat_natCast _
   by_cases hu : q = bUpgrade
   ·have k2 : (q.toList == [117,112,103,114,97,100,101]) = true:=by rw [hu,ByteArray.toList_eq]; rfl
    have HTK:=hid (tkY_up (now:=now) (Y:=Y) hg hu)
    clear hcc HLT hX hu hg
    generalize lastT Y = ly at *
    go_wp2_with fail
    refine (HHP.out _).mono ?_
    rintro e w6 ⟨rfl,rfl⟩
    go_wp2_with fail
    refine (HMX.out ly _ HB6.out HLZ.out).mono ?_
    rintro e w7 ⟨rfl,hb⟩
    have HB7:=hid (HB6.out.trans (hb.mono HB6.out.size))
    clear hb
    go_wp2_with fail
    go_ret2
    exact ⟨Y,HKY.out,Or.inr ⟨HPOS.out,by rw [HTK.out]; rfl⟩,HB7.out⟩
   ·have k2 : (q.toList == [117,112,103,114,97,100,101]) = false:=by rw [show ([117,112,103,114,97,100,101] : List UInt8) = bUpgrade.data.toList from rfl,<- eqW]; exact decide_eq_false hu
    have HTK:=hid (tkY_last (now:=now) (Y:=Y) hg hu)
    clear hcc HLT hX hu hg
    generalize lastT Y = ly at *
    go_wp2_with fail
    refine (HHP.out _).mono ?_
    rintro e w6 ⟨rfl,rfl⟩
    go_wp2_with fail
    go_ret2
    exact ⟨Y,HKY.out,Or.inr ⟨HPOS.out,by rw [HTK.out]; rfl⟩,HB6.out⟩
  ·rw [<- HBG.out,hg] at HHP
   have hfirst:=hcc 0 hX
   rw [Nat.add_zero] at hfirst
   have HLT:=hid (headT_get hX)
   rw [<- HLT.out] at hfirst
   have HTK:=hid (tkY_head (now:=now) (Y:=Y) hg)
   clear hcc HLT hX hg
   generalize headT Y = hy at *
   go_wp2_with fail
   refine (HHP.out _).mono ?_
   rintro e w6 ⟨rfl,rfl⟩
   go_wp2_with fail
   go_ret2
   exact ⟨Y,HKY.out,Or.inr ⟨HPOS.out,by rw [HTK.out]; rfl⟩,HB6.out⟩
 ·have hx0 : Y = []:=List.eq_nil_of_length_eq_zero (by omega)
  subst hx0
  have g4:=(HS.out _ HB6.out).sen.g4
  clear hX hmx HCC HYZ
  go_wp2_with fail
  go_region
  all_goals (try go_wp2)
  all_goals
   refine bodyPost_ret (v:=.tuple #[.string ⟨#[]⟩,.iface 311 (.pointer (some (A 4)))]) (by simp [results,Tryz.results101,go_sem]) rfl ?_
   exact ⟨[],HKY.out,Or.inl ⟨rfl,rfl⟩,HB6.out.drew⟩
def TabT (w : World) : Prop:=Lib.TabIs Tryz.prog w powName .u64 Lib.pow10Tab
theorem up_noleast : leastQ bUpgrade = false:=rfl
theorem pick_c : PickC TabT:=fun Q L t q now v A m w hL sh hz ht hq hnow S hT I=>by
 obtain ⟨a,c,hv,-⟩:=id I.es
 by_cases hqe : qErr q ≠ 0
 ·subst hv
  refine (pick_q t q now a _ c A m w hq S hqe).mono fun e w' ⟨h1,h2⟩=>⟨[],errA A (qErr q),fun h=>absurd h.1 hqe,?_,?_,h2⟩
  ·rw [pkV_q hqe]; exact h1
  ·rw [pkF_q hqe]; rfl
 have hq0 : qErr q = 0:=by omega
 by_cases hce : (chk Q L).1 ≠ 0
 ·refine (pick_idx Q L t q now v A m w hL sh hq S I hq0 hce).mono fun e w' ⟨x,h1,h2,h3⟩=>⟨[],x,fun h=>absurd h.2.1 hce,?_,?_,h3⟩
  ·rw [pkV_c hqe hce]; exact h1
  ·rw [pkF_c hqe hce]; exact h2
 have hc0 : (chk Q L).1 = 0:=by omega
 by_cases hn : q = bNone
 ·subst hn
  refine (pick_no Q L t now v A m w hL sh S I hc0).mono fun e w' ⟨h1,h2⟩=>⟨[],.nilIface,fun h=>absurd rfl h.2.2,?_,?_,h2⟩
  ·rw [pkV_n hqe hce rfl]; exact h1
  ·rw [pkF_n hqe hce rfl]; rfl
 have g:=good_of I hc0
 obtain ⟨X,hK⟩:=kept_ex (L:=verL (ofP t Q)) (verL_ok g ofP_sub)
 refine (pick_go Q L t q now v A m w hL sh hz hq hnow S hT I ⟨hq0,hc0,hn⟩).mono ?_
 rintro e w' ⟨Y,hY,h1,h2⟩
 rcases h1 with ⟨hY0,rfl⟩ | ⟨hYp,rfl⟩
 ·subst hY0
  have hb:=pkB_none (q:=q) (now:=now) g hK hY
  refine ⟨X,errA A 5,fun _=>hK,?_,?_,h2⟩
  ·rw [pkV_m hqe hce hn,if_pos hb]; rfl
  ·rw [pkF_m hqe hce hn,if_pos hb]; rfl
 ·have hb:=pkB_some (q:=q) (now:=now) g hK hY hYp
  refine ⟨X,.nilIface,fun _=>hK,?_,?_,h2⟩
  ·rw [pkV_m hqe hce hn,if_neg hb]
   have e1:=pkB_is (q:=q) (now:=now) g hK hY
   unfold tkY
   rw [least_beg]
   by_cases hu : q = bUpgrade
   ·rw [if_pos hu,if_pos hu,e1,hu,up_noleast]; rfl
   ·rw [if_neg hu,if_neg hu,e1]
  ·rw [pkF_m hqe hce hn,if_neg hb]; rfl
end Ve
end Go.Proofs.YtjbmjnbkibmkpaaGreatDoor


namespace Go.Proofs.YtjbmjnbkibmkpaaGreatDoor
open Go.RowKit Go.Maps
namespace Ve
theorem ver_head {v : ByteArray} (h : verErr v.data.toList = 0) : ∃ r,v.data.toList = 118 :: r:=by
 unfold verErr at h
 have hm : marked v.data.toList = true:=by
  cases e : marked v.data.toList with
  | true=>rfl
  | false=>rw [if_pos (Or.inl e)] at h; cases h
 cases hl : v.data.toList with
 | nil=>rw [hl] at hm; cases hm
 | cons b r=>
  rw [hl] at hm
  unfold marked at hm
  simp at hm
  exact ⟨r,by rw [hm]⟩
theorem begB_list {q h : ByteArray} {l : List UInt8} (e : q.data.toList = l) : begB q h = h.data.toList.isPrefixOf l:=by unfold begB Lib.hasPrefix; rw [e]
theorem sg_v {v : ByteArray} (h : verErr v.data.toList = 0) : sgn v = (bE,v):=by
 obtain ⟨r,hr⟩:=ver_head h
 exact sgn_4 (by rw [begB_list hr]; rfl) (by rw [begB_list hr]; rfl) (by rw [begB_list hr]; rfl) (by rw [begB_list hr]; rfl)
theorem wd_no {q : ByteArray} {c : UInt8} {r : List UInt8} (e : q.data.toList = c :: r) (hc : c = 60 \/ c = 62 \/ c = 118) : isWd q = false:=by
 have go : ∀ (b : ByteArray) (d : UInt8) (s : List UInt8),b.data.toList = d :: s -> (d ≠ 60 /\ d ≠ 62 /\ d ≠ 118) -> decide (q = b) = false:=fun b d s hb hd=>decide_eq_false fun h=>by
  subst h
  rw [e] at hb
  injection hb with h1 h2
  subst h1
  rcases hc with h | h | h
  ·exact hd.1 h
  ·exact hd.2.1 h
  ·exact hd.2.2 h
 unfold isWd
 rw [go bLatest 108 _ rfl (by decide),go bUpgrade 117 _ rfl (by decide),go bPatch 112 _ rfl (by decide),go bNone 110 _ rfl (by decide)]
 rfl
structure VerQ (q sg v : ByteArray) : Prop where
 wd : isWd q = false
 sg : sgn q = (sg,v)
 er : qErr q = 0
 no : ¬ q = bNone
 up : ¬ q = bUpgrade
theorem verQ_of {q sg v : ByteArray} {c : UInt8} {r : List UInt8} (e : q.data.toList = c :: r) (hc : c = 60 \/ c = 62 \/ c = 118) (hs : sgn q = (sg,v)) (h : verErr v.data.toList = 0) : VerQ q sg v:=by
 have hw:=wd_no e hc
 have h2:=congrArg Prod.snd hs
 simp only at h2
 refine ⟨hw,hs,?_,fun h=>?_,fun h=>?_⟩
 ·rw [qErr_ver hw (Or.inr (by rw [h2,h]; decide)),h2]; exact h
 ·have : isWd bNone = true:=by unfold isWd; simp
  rw [h,this] at hw; cases hw
 ·have : isWd bUpgrade = true:=by unfold isWd; simp
  rw [h,this] at hw; cases hw
theorem vq_v {v : ByteArray} (h : verErr v.data.toList = 0) : VerQ v bE v:=by
 obtain ⟨r,hr⟩:=ver_head h
 exact verQ_of hr (Or.inr (Or.inr rfl)) (sg_v h) h
theorem VerQ.s1 {q sg v : ByteArray} (h : VerQ q sg v) : (sgn q).1 = sg:=by rw [h.sg]
theorem VerQ.ok {q sg v now x : ByteArray} (h : VerQ q sg v) : okQ q now x = suitB q x:=okQ_suit h.wd
theorem ok_v {v now x : ByteArray} (h : VerQ v bE v) (hv : verErr v.data.toList = 0) : okQ v now x = decide (x = v):=by rw [h.ok,suit_ver h.s1 hv]
theorem likG_in {Q : List Raw} {t : ByteArray} {b : Bool} {X : List ByteArray} : (X = [] /\ likG Q t b X = bE) \/ likG Q t b X ∈ X:=by
 by_cases h0 : X.length = 0
 ·have hX : X = []:=List.eq_nil_of_length_eq_zero h0
  subst hX
  refine Or.inl ⟨rfl,?_⟩
  unfold likG
  split <;> rfl
 ·refine Or.inr ?_
  unfold likG
  split
  ·obtain ⟨j,hj,_,e,_⟩:=(likNL_is (Q:=Q) (t:=t) (X:=X) X.length (Nat.le_refl _)).p (by omega)
   rw [e]; exact List.getElem_mem hj
  ·obtain ⟨j,hj,_,e,_⟩:=(likN_is (Q:=Q) (t:=t) (X:=X) X.length (Nat.le_refl _)).p (by omega)
   rw [e]; exact List.getElem_mem hj
theorem ver_neQ {x : ByteArray} (h : verErr x.data.toList = 0) : ¬ x = bE:=fun e=>by
 obtain ⟨r,hr⟩:=ver_head h
 rw [e] at hr; cases hr
theorem pk_look {Q : List Raw} {L : List Ent} {t q now : ByteArray} {X : List ByteArray} (hl : look Q L q) (hv : ∀ x,x ∈ X -> verErr x.data.toList = 0) :
  ((∀ x,x ∈ X -> okQ q now x = false) /\ pkF Q L t q now X = (5,none) /\ pkV Q L t q now X = bE) \/
  (∃ x,x ∈ X /\ okQ q now x = true /\ pkF Q L t q now X = (0,none) /\ pkV Q L t q now X = if q = bUpgrade then maxB x now else x):=by
 obtain ⟨h1,h2,h3⟩:=hl
 have g1 : ¬ qErr q ≠ 0:=by rw [h1]; simp
 have g2 : ¬ (chk Q L).1 ≠ 0:=by rw [h2]; simp
 rw [pkF_m g1 g2 h3,pkV_m g1 g2 h3]
 unfold pkB
 rcases likG_in (Q:=Q) (t:=t) (b:=leastQ q) (X:=someQ q now X) with ⟨e1,e2⟩ | h
 ·refine Or.inl ⟨fun x hx=>?_,by rw [if_pos e2],by rw [if_pos e2]⟩
  cases e : okQ q now x with
  | false=>rfl
  | true=>
   have : x ∈ someQ q now X:=List.mem_filter.2 ⟨hx,e⟩
   rw [e1] at this; cases this
 ·obtain ⟨m1,m2⟩:=List.mem_filter.1 h
  have hne:=ver_neQ (hv _ m1)
  exact Or.inr ⟨_,m1,m2,by rw [if_neg hne],by rw [if_neg hne]⟩
end Ve
end Go.Proofs.YtjbmjnbkibmkpaaGreatDoor


namespace Go.Proofs.YtjbmjnbkibmkpaaGreatDoor
open Go.RowKit Go.Maps
namespace Ve
theorem ofP_ver {t : ByteArray} {Q : List Raw} : ∀ x,x ∈ verL (ofP t Q) -> verErr x.data.toList = 0:=fun x hx=>by
 obtain ⟨r,hr,rfl⟩:=List.mem_map.1 hx
 have:=(List.mem_filter.1 hr).2
 unfold isP at this
 rw [Bool.and_eq_true] at this
 exact of_decide_eq_true this.2
noncomputable def kX (Q : List Raw) (t : ByteArray) : List ByteArray:=Classical.choose (kept_ex (L:=verL (ofP t Q)) ofP_ver)
theorem kX_kept (Q : List Raw) (t : ByteArray) : Kept (verL (ofP t Q)) (verL (ofP t Q)).length (kX Q t):=Classical.choose_spec (kept_ex (L:=verL (ofP t Q)) ofP_ver)
theorem blG_mem {X : List ByteArray} {x : ByteArray} : x.data.toList ∈ bl X ↔ x ∈ X:=by
 unfold bl
 rw [List.mem_map]
 constructor
 ·rintro ⟨y,hy,h⟩
  have : y = x:=by cases x; cases y; simp only at h; rw [Array.toList_inj] at h; rw [h]
  rw [<- this]; exact hy
 ·intro h; exact ⟨x,h,rfl⟩
theorem kX_mem {Q : List Raw} {t x : ByteArray} : x ∈ kX Q t ↔ x ∈ verL (ofP t Q):=by
 have h:=(kX_kept Q t).2 x.data.toList
 rw [List.take_length,blG_mem,blG_mem] at h
 rw [h]
 exact ⟨fun h=>h.1,fun h=>⟨h,ofP_ver x h⟩⟩
theorem kX_ver {Q : List Raw} {t : ByteArray} : ∀ x,x ∈ kX Q t -> verErr x.data.toList = 0:=fun x hx=>ofP_ver x (kX_mem.1 hx)
noncomputable def pkc (Q : List Raw) (L : List Ent) (t q now : ByteArray) : ByteArray × Nat:=(pkV (opQ Q t) (opL L t) t q now (kX (opQ Q t) t),(pkF (opQ Q t) (opL L t) t q now (kX (opQ Q t) t)).1)
theorem opL_len (L : List Ent) (t : ByteArray) : (opL L t).length <= L.length:=by unfold opL; rw [List.length_map]; exact List.length_filter_le _ _
theorem opL_sh {L : List Ent} (sh : ∀ e,e ∈ L -> ShE e) (t : ByteArray) : ∀ e,e ∈ opL L t -> ShE e:=fun e he=>by
 obtain ⟨x,hx,rfl⟩:=List.mem_map.1 he
 have:=sh x (List.mem_filter.1 hx).1
 exact ⟨this.p,this.v,Nat.zero_le _,fun _ h=>absurd h (by simp [bareE]),Nat.zero_le _,fun _ h=>absurd h (by simp [bareE])⟩
theorem opQ_short {Q : List Raw} (h : shortQ Q) (t : ByteArray) : shortQ (opQ Q t):=fun r hr=>by
 obtain ⟨x,hx,rfl⟩:=List.mem_map.1 hr
 exact h x (List.mem_filter.1 hx).1
theorem pkc_c {Q : List Raw} {L : List Ent} (hn : L.length <= 200) (sh : ∀ e,e ∈ L -> ShE e) (hz : shortQ Q) (A : Nat -> Addr) (m : Int) : PkC TabT (pkc Q L) Q L A m:=fun t q now u W ht hq hnow S hT I=>by
 refine (pick_c (opQ Q t) (opL L t) t q now u A m W (Nat.le_trans (opL_len L t) hn) (opL_sh sh t) (opQ_short hz t) ht hq hnow S hT I).mono ?_
 rintro e w' ⟨X,x,hK,rfl,he,hb⟩
 obtain ⟨h1,h2⟩:=pk_any (t:=t) (now:=now) (X:=X) (X':=kX (opQ Q t) t) (fun hl=>kept_one (hK hl) (kX_kept _ _))
 rw [h1] at he
 refine ⟨x,by rw [h2]; rfl,?_,hb⟩
 rcases he.kind with ⟨h3,h4⟩ | ⟨h3,h4⟩
 ·exact Or.inl ⟨h3,h4⟩
 ·exact Or.inr ⟨h3,h4⟩
theorem maxB_lt {x now : ByteArray} (hx : x.size < 999999) (hn : now.size < 999999) : (maxB x now).size < 999999:=by
 unfold maxB
 repeat' split
 all_goals first | exact hx | exact hn | decide
theorem op_ver_size {Q : List Raw} (hz : shortQ Q) {t x : ByteArray} (h : x ∈ verL (ofP t (opQ Q t))) : x.size <= 80:=by
 obtain ⟨r,hr,rfl⟩:=List.mem_map.1 h
 exact (opQ_short hz t r (List.mem_filter.1 hr).1).2
theorem pkc_z {Q : List Raw} {L : List Ent} (hz : shortQ Q) : PkZ (pkc Q L):=fun t q now ht hq hnow=>by
 show (pkV (opQ Q t) (opL L t) t q now (kX (opQ Q t) t)).size < 999999
 by_cases h1 : qErr q ≠ 0
 ·rw [pkV_q h1]; decide
 by_cases h2 : (chk (opQ Q t) (opL L t)).1 ≠ 0
 ·rw [pkV_c h1 h2]; decide
 by_cases h3 : q = bNone
 ·rw [pkV_n h1 h2 h3]; decide
 rcases pk_look (t:=t) (now:=now) (X:=kX (opQ Q t) t) ⟨by simpa using h1,by simpa using h2,h3⟩ kX_ver with ⟨_,_,h4⟩ | ⟨x,hx,_,_,h4⟩
 ·rw [h4]; decide
 ·rw [h4]
  have:=op_ver_size hz (kX_mem.1 hx)
  split
  ·exact maxB_lt (by omega) (by omega)
  ·omega
theorem pkc_ver {Q : List Raw} {L : List Ent} {t q now : ByteArray} (hv : verErr q.data.toList = 0) (h : (pkc Q L t q now).2 = 0) : (pkc Q L t q now).1 = q:=by
 have vq:=vq_v hv
 have g1 : ¬ qErr q ≠ 0:=by rw [vq.er]; simp
 have g2 : ¬ (chk (opQ Q t) (opL L t)).1 ≠ 0:=fun h2=>by
  have h' : (pkF (opQ Q t) (opL L t) t q now (kX (opQ Q t) t)).1 = 0:=h
  rw [pkF_c g1 h2] at h'
  exact h2 h'
 show pkV (opQ Q t) (opL L t) t q now (kX (opQ Q t) t) = q
 rcases pk_look (t:=t) (now:=now) (X:=kX (opQ Q t) t) ⟨vq.er,by simpa using g2,vq.no⟩ kX_ver with ⟨_,h3,_⟩ | ⟨x,hx,h3,_,h4⟩
 ·have h' : (pkF (opQ Q t) (opL L t) t q now (kX (opQ Q t) t)).1 = 0:=h
  rw [h3] at h'; cases h'
 ·rw [h4,if_neg vq.up]
  rw [ok_v vq hv] at h3
  exact of_decide_eq_true h3
theorem pkc_none {Q : List Raw} {L : List Ent} {t now : ByteArray} (h : (pkc Q L t bNone now).2 = 0) : (pkc Q L t bNone now).1 = bNone:=by
 have g1 : ¬ qErr bNone ≠ 0:=by
  have : qErr bNone = 0:=by unfold qErr; rw [if_pos (by unfold isWd; simp)]
  rw [this]; simp
 have g2 : ¬ (chk (opQ Q t) (opL L t)).1 ≠ 0:=fun h2=>by
  have h' : (pkF (opQ Q t) (opL L t) t bNone now (kX (opQ Q t) t)).1 = 0:=h
  rw [pkF_c g1 h2] at h'
  exact h2 h'
 show pkV (opQ Q t) (opL L t) t bNone now (kX (opQ Q t) t) = bNone
 rw [pkV_n g1 g2 rfl]
theorem op_chk {Q : List Raw} {L : List Ent} (h : (chk Q L).1 = 0) (t : ByteArray) : (chk (opQ Q t) (opL L t)).1 = 0:=by
 have hl : (opL L t).length <= 100:=Nat.le_trans (opL_len L t) (chk_each0 h).1
 have hri : ((opL L t).map fun e=>e.1).Pairwise fun a b=>mAhead a b = true:=by
  unfold opL
  rw [List.map_map]
  show ((L.filter fun e=>decide (e.1.1 = t)).map fun e=>e.1).Pairwise _
  exact (univ_rises h).sublist (List.Sublist.map _ List.filter_sublist)
 have hrt : ∀ e,e ∈ opL L t -> mErr e.1 = 0:=fun e he=>by
  obtain ⟨x,hx,rfl⟩:=List.mem_map.1 he
  exact univ_right h _ (List.mem_map.2 ⟨x,(List.mem_filter.1 hx).1,rfl⟩)
 have hb : ∀ e,e ∈ opL L t -> e.2.1 = [] /\ e.2.2.1 = []:=fun e he=>by
  obtain ⟨x,_,rfl⟩:=List.mem_map.1 he
  exact ⟨rfl,rfl⟩
 have hR : ∀ e,e ∈ opL L t -> entR e = 0:=fun e he=>by
  obtain ⟨h1,h2⟩:=hb e he
  rw [entR_pack (by rw [h1]; simp) (by rw [h1]; rfl),h2]
  exact pk_ok (by simp [bl]) rfl (by simp [bl,risB,srtB,Lib.compact,Lib.compactUpTo])
 have hE : ∀ i,i < (opL L t).length -> entE (opL L t) i = 0:=fun i hi=>by
  cases i with
  | zero=>
   rw [entE_0 hi,entW_none (hrt _ (List.getElem_mem hi))]
   exact hR _ (List.getElem_mem hi)
  | succ k=>
   rw [entE_1 hi,entW_some (hrt _ (List.getElem_mem hi)) ?_]
   ·exact hR _ (List.getElem_mem hi)
   ·have:=List.pairwise_iff_getElem.1 hri k (k + 1) (by simpa using (by omega : k < (opL L t).length)) (by simpa using hi) (by omega)
    simpa using this
 rw [chk_reqs (by omega) (fstE_none hE)]
 show codeE (reqE2 (opQ Q t) (opL L t)) (opL L t).length = 0
 refine codeE_none (fstE_none fun j hj=>?_)
 rw [reqE2_at hj,(hb _ (List.getElem_mem hj)).1]
 rfl
theorem pkc_self {w : World} {v : Value} {Q : List Raw} {L : List Ent} (I : Ixs w v Q L) (h : (chk Q L).1 = 0) {m : Bm} (hm : m ∈ univ L) (now : ByteArray) : pkc Q L m.1 m.2 now = (m.2,0) /\ hvQ Q m.1 = true:=by
 have hv : verErr m.2.data.toList = 0:=by
  have:=univ_right h m hm
  exact (mErr_zero this).2
 have vq:=vq_v hv
 obtain ⟨e,he,rfl⟩:=List.mem_map.1 hm
 obtain ⟨j,hj,rfl⟩:=List.getElem_of_mem he
 have hjQ : j < Q.length:=by rw [I.ln]; exact hj
 have hr:=(I.ok j hjQ hj).m
 have hin : bareR Q[j] ∈ opQ Q L[j].1.1:=List.mem_map.2 ⟨Q[j],List.mem_filter.2 ⟨List.getElem_mem hjQ,decide_eq_true (by rw [hr])⟩,rfl⟩
 have hX : L[j].1.2 ∈ kX (opQ Q L[j].1.1) L[j].1.1:=kX_mem.2 (List.mem_map.2 ⟨bareR Q[j],List.mem_filter.2 ⟨hin,by
  show (decide (Q[j].1.1 = L[j].1.1) && decide (verErr Q[j].1.2.data.toList = 0)) = true
  rw [hr,decide_eq_true rfl,decide_eq_true hv]; rfl⟩,by show Q[j].1.2 = _; rw [hr]⟩)
 refine ⟨?_,decide_eq_true (List.length_pos_of_mem hin)⟩
 rcases pk_look (t:=L[j].1.1) (now:=now) (X:=kX (opQ Q L[j].1.1) L[j].1.1) ⟨vq.er,op_chk h _,vq.no⟩ kX_ver with ⟨h1,_,_⟩ | ⟨x,hx,h3,h5,h4⟩
 ·have:=h1 _ hX
  rw [ok_v vq hv,decide_eq_true rfl] at this
  cases this
 ·rw [ok_v vq hv] at h3
  have:=of_decide_eq_true h3
  subst this
  unfold pkc
  rw [h4,h5,if_neg vq.up]
end Ve
end Go.Proofs.YtjbmjnbkibmkpaaGreatDoor


namespace Go.Proofs.YtjbmjnbkibmkpaaGreatDoor
open Go.RowKit
namespace Ve
theorem mem_cutA (c x : UInt8) : ∀ l : List UInt8,x ∈ l -> x = c \/ ∃ p,p ∈ cutAt c l /\ x ∈ p
 | [],h=>by cases h
 | b :: l,h=>by
  obtain ⟨y,r,e⟩ : ∃ y r,cutAt c l = y :: r:=by
   cases e : cutAt c l with
   | nil=>exact absurd e (cutAt_ne c l)
   | cons y r=>exact ⟨y,r,rfl⟩
  unfold cutAt
  by_cases hb : b = c
  ·rw [if_pos hb]
   rcases List.mem_cons.1 h with h | h
   ·exact Or.inl (h.trans hb)
   ·rcases mem_cutA c x l h with h | ⟨p,hp,hx⟩
    ·exact Or.inl h
    ·exact Or.inr ⟨p,List.mem_cons_of_mem _ hp,hx⟩
  ·rw [if_neg hb,e]
   rcases List.mem_cons.1 h with h | h
   ·exact Or.inr ⟨b :: y,by simp [ahead],by simp [h]⟩
   ·rcases mem_cutA c x l h with h | ⟨p,hp,hx⟩
    ·exact Or.inl h
    ·rw [e] at hp
     rcases List.mem_cons.1 hp with hp | hp
     ·exact Or.inr ⟨b :: y,by simp [ahead],by rw [<- hp]; exact List.mem_cons_of_mem _ hx⟩
     ·exact Or.inr ⟨p,by simp [ahead,hp],hx⟩
theorem mem_oneA {c x : UInt8} {l : List UInt8} (h : x ∈ l) : x = c \/ x ∈ (one c l).1 \/ ((one c l).2.2 = true /\ x ∈ (one c l).2.1):=by
 cases e : (one c l).2.2
 ·rw [one_none e]; exact Or.inr (Or.inl h)
 ·have h2:=h
  rw [one_back e] at h2
  rcases List.mem_append.1 h2 with h3 | h3
  ·exact Or.inr (Or.inl h3)
  ·rcases List.mem_cons.1 h3 with h4 | h4
   ·exact Or.inl h4
   ·exact Or.inr (Or.inr ⟨rfl,h4⟩)
theorem path_noA {l : List UInt8} {c : UInt8} (h : pathErr l = 0) (hc : el c = false) (h47 : c ≠ 47) : c ∉ l:=by
 intro hx
 have hb : badE l = false:=by
  cases e : badE l
  ·rfl
  ·unfold pathErr at h; rw [e] at h; simp at h
 rcases mem_cutA 47 c l hx with h | ⟨p,hp,hx⟩
 ·exact h47 h
 ·have h1:=List.any_eq_false.1 hb p hp
  have ok : elemOk p = true:=by simpa using h1
  unfold elemOk at ok
  simp only [Bool.and_eq_true] at ok
  have h2:=List.all_eq_true.1 ok.2.2 c hx
  rw [hc] at h2; cases h2
theorem ver_partsA {l : List UInt8} (h : verErr l = 0) : marked l = true /\ numsErr (coreOf l) = 0 /\ pre (preOf l) = 0:=by
 unfold verErr at h
 by_cases hc : marked l = false \/ (coreOf l).length ≠ 3
 ·rw [if_pos hc] at h; omega
 rw [if_neg hc] at h
 have hm : marked l = true:=by
  cases e : marked l
  ·exact absurd (Or.inl e) hc
  ·rfl
 refine ⟨hm,?_⟩
 cases e : hasPre l
 ·rw [e] at h
  exact ⟨h,by unfold preOf; rw [e]; rfl⟩
 ·rw [e] at h
  have h' : worse (numsErr (coreOf l)) (pre (preOf l)) = 0:=h
  unfold worse at h'
  by_cases q : numsErr (coreOf l) = 1 \/ pre (preOf l) = 0
  ·rw [if_pos q] at h'
   refine ⟨h',?_⟩
   rcases q with q | q
   ·omega
   ·exact q
  ·rw [if_neg q] at h'; exact absurd (Or.inr h') q
theorem ver_noA {l : List UInt8} {c : UInt8} (h : verErr l = 0) (hp : par c = false) (hd : dig c = false) (h1 : c ≠ 118) (h2 : c ≠ 46) (h3 : c ≠ 45) : c ∉ l:=by
 intro hx
 obtain ⟨hm,hn,hpr⟩:=ver_partsA h
 have hr : c ∈ restOf l:=by
  rw [rest_drop hm]
  cases l with
  | nil=>cases hx
  | cons b r=>
   have hb : b = 118:=by simpa [marked] using hm
   rcases List.mem_cons.1 hx with e | e
   ·exact absurd (e.trans hb) h1
   ·simpa using e
 rcases mem_oneA (c:=45) hr with e | e | ⟨e0,e⟩
 ·exact h3 e
 ·rcases mem_cutA 46 c _ e with e | ⟨p,hp1,hx1⟩
  ·exact h2 e
  ·have h4:=(num0 (ncode0 hn p hp1)).2.2.2
   have h5:=List.all_eq_true.1 h4 c hx1
   rw [hd] at h5; cases h5
 ·rcases mem_cutA 46 c _ e with e | ⟨p,hp1,hx1⟩
  ·exact h2 e
  ·have hpo : preOf l = cutAt 46 (one 45 (restOf l)).2.1:=by unfold preOf; rw [if_pos (show hasPre l = true from e0)]
   rw [<- hpo] at hp1
   have h4:=pre_parts hpr p hp1
   unfold part at h4
   split at h4
   ·cases h4
   ·rename_i hn1
    have h6 : allPar p = true:=by
     cases e : allPar p
     ·exact absurd (Or.inr (Or.inr e)) hn1
     ·rfl
    have h5:=List.all_eq_true.1 h6 c hx1
    rw [hp] at h5; cases h5
theorem mod_rightA {p v : List UInt8} (h : modErr p v = 0) : pathErr p = 0 /\ verErr v = 0:=by
 unfold modErr at h
 by_cases h0 : pathErr p = 0
 ·rw [if_pos h0] at h
  by_cases h1 : verErr v = 0
  ·exact ⟨h0,h1⟩
  ·rw [if_neg h1] at h; exact absurd h h1
 ·rw [if_neg h0] at h; exact absurd h h0
theorem mod_noA {p v : List UInt8} (h : modErr p v = 0) : (64 : UInt8) ∉ p /\ (64 : UInt8) ∉ v:=
 ⟨path_noA (mod_rightA h).1 (by decide) (by decide),ver_noA (mod_rightA h).2 (by decide) (by decide) (by decide) (by decide) (by decide)⟩
theorem text_oneA {p v : List UInt8} (h : modErr p v = 0) : one 64 (p ++ 64 :: v) = (p,v,true):=
 one_at (by have:=(mod_noA h).1; simpa using this)
theorem text_countA {p v : List UInt8} (h : modErr p v = 0) : (p ++ 64 :: v).count 64 = 1:=by
 rw [List.count_append,List.count_cons_self,List.count_eq_zero.2 (mod_noA h).1,List.count_eq_zero.2 (mod_noA h).2]
theorem modText_isA {p v : List UInt8} (h : modErr p v = 0) : modText p v = p ++ 64 :: v:=by unfold modText; rw [if_pos h]
end Ve
end Go.Proofs.YtjbmjnbkibmkpaaGreatDoor


namespace Go.Proofs.YtjbmjnbkibmkpaaGreatDoor
open Go.RowKit Go.Maps
namespace Ve
end Ve
end Go.Proofs.YtjbmjnbkibmkpaaGreatDoor


namespace Go.Proofs.YtjbmjnbkibmkpaaGreatDoor
open Go.RowKit Go.Maps
namespace Ve
theorem toL_tw {Q : List Raw} {L : List Ent} {roots caps : List Bm} (h : (tF Q L roots caps).1 = 0) : Tw (Bd (reqQ Q L) caps) (univ L) roots (toL Q L roots caps):=by
 obtain ⟨h1,h2⟩:=tF_ok h
 obtain ⟨k0,k1⟩:=bF_chk h1
 exact tw_sel ⟨univ_rises k0,univ_right k0⟩ (by rw [bdL_len,univ_len]) (fun i h h'=>bdL_at h h') roots
theorem ms_one1 {W : World} {b : Nat} {x : Bm} {fr : Nat × Nat} (h : W.heap[b]? = some (.cells #[.string x.1,.string x.2] 47 fr)) : MsAt W (.slice (some ⟨b,0,none⟩) 1 1) [x]:=by
 refine ⟨_,1,rfl,Nat.le_refl _,fun _=>⟨b,0,rfl,fun j hj=>?_⟩⟩
 have : j = 0:=by simp at hj; exact hj
 subst this
 exact ⟨by rw [Lib.cell_of_heap h]; rfl,by rw [Lib.cell_of_heap h]; rfl⟩
end Ve
end Go.Proofs.YtjbmjnbkibmkpaaGreatDoor


namespace Go.Proofs.YtjbmjnbkibmkpaaGreatDoor
open Go.RowKit Go.Maps
namespace Ve
theorem cut_dots : ∀ l : List UInt8,(∃ i,i < l.length /\ dots.isPrefixOf (l.drop i) = true) -> ∃ e,e ∈ cutAt 47 l /\ ∃ j,j < e.length /\ dots.isPrefixOf (e.drop j) = true
 | [],h=>by obtain ⟨i,hi,_⟩:=h; simp at hi
 | b :: r,h=>by
  obtain ⟨i,hi,hp⟩:=h
  cases i with
  | zero=>
   rw [List.drop_zero] at hp
   match r,hp with
   | c :: d :: r',hp=>
    have h3 : b = 46 /\ c = 46 /\ d = 46:=by
     unfold dots at hp
     simp [List.isPrefixOf] at hp
     exact ⟨hp.1.symm,hp.2.1.symm,hp.2.2.symm⟩
    obtain ⟨rfl,rfl,rfl⟩:=h3
    have e3 : cutAt 47 (46 :: 46 :: 46 :: r') = ahead 46 (ahead 46 (ahead 46 (cutAt 47 r'))):=rfl
    rw [e3]
    cases hc : cutAt 47 r' with
    | nil=>exact absurd hc (cutAt_ne 47 r')
    | cons x t=>exact ⟨46 :: 46 :: 46 :: x,by simp [ahead],0,by simp,by unfold dots; simp [List.isPrefixOf]⟩
   | [],hp=>unfold dots at hp; simp [List.isPrefixOf] at hp
   | [c],hp=>unfold dots at hp; simp [List.isPrefixOf] at hp
  | succ i=>
   obtain ⟨e,he,j,hj,hd⟩:=cut_dots r ⟨i,by simpa using hi,by simpa using hp⟩
   by_cases hb : b = 47
   ·have : cutAt 47 (b :: r) = [] :: cutAt 47 r:=by rw [cutAt,if_pos hb]
    rw [this]
    exact ⟨e,List.mem_cons_of_mem _ he,j,hj,hd⟩
   ·have : cutAt 47 (b :: r) = ahead b (cutAt 47 r):=by rw [cutAt,if_neg hb]
    rw [this]
    cases hc : cutAt 47 r with
    | nil=>exact absurd hc (cutAt_ne 47 r)
    | cons x t=>
     rw [hc] at he
     rcases List.mem_cons.1 he with rfl | he
     ·exact ⟨b :: e,by simp [ahead],j + 1,by simpa using hj,by simpa using hd⟩
     ·exact ⟨e,by simp [ahead,he],j,hj,hd⟩
theorem path_wild {p : ByteArray} (h : pathErr p.data.toList = 0) : wildB p = false:=by
 cases e : wildB p
 ·rfl
 ·obtain ⟨x,hx,j,hj,hd⟩:=cut_dots _ ((tok_wild _).1 e)
  have hb : badE p.data.toList = false:=by
   cases hb : badE p.data.toList
   ·rfl
   ·unfold pathErr at h; rw [hb,if_pos rfl] at h; cases h
  unfold badE elems at hb
  have hok : elemOk x = true:=by
   cases ho : elemOk x
   ·have : ((cutAt 47 p.data.toList).any fun e=>!elemOk e) = true:=List.any_eq_true.2 ⟨x,hx,by simp [ho]⟩
    rw [hb] at this; cases this
   ·rfl
  unfold elemOk at hok
  rw [Bool.and_eq_true,Bool.and_eq_true] at hok
  have hw:=wild_is (bt x)
  have hw2 : wildB (bt x) = true:=(tok_wild _).2 ⟨j,by rw [bt_list]; exact hj,by rw [bt_list]; exact hd⟩
  rw [hw2,bt_list] at hw
  have:=hok.2.1
  rw [show ([46,46,46] : List UInt8) = dots from rfl,<- hw] at this
  cases this
theorem tok_plain : ∀ l : List UInt8,(tok l).any Option.isNone = false -> tok l = l.map some
 | [],_=>rfl
 | c :: r,h=>by
  cases hp : dots.isPrefixOf (c :: r)
  ·rw [tok_one hp] at h ⊢
   rw [List.any_cons] at h
   simp only [Option.isNone_some,Bool.false_or] at h
   rw [tok_plain r h]; rfl
  ·rw [tok_any hp] at h
   simp at h
theorem path_pt {p : ByteArray} (h : pathErr p.data.toList = 0) : ptE p = 0:=by
 have hx : xsOf p.data.toList = p.data.toList:=by
  unfold xsOf
  rw [tok_plain _ (path_wild h),List.map_map]
  exact (List.map_congr_left fun _ _=>rfl).trans (List.map_id _)
 unfold ptE likeE
 rw [hx,h]
 rfl
theorem ver_q {q : ByteArray} (h : verErr q.data.toList = 0) : qErr q = 0:=(vq_v h).er
theorem arg_text {m : Bm} {s : ByteArray} (hm : mErr m = 0) (hs : s.data.toList = modText m.1.data.toList m.2.data.toList) : argK s = m /\ argZ s = 0:=by
 have hm' : modErr m.1.data.toList m.2.data.toList = 0:=hm
 rw [modText_isA hm'] at hs
 obtain ⟨p,v⟩:=m
 have hk : argK s = (p,v):=by
  unfold argK
  rw [hs,text_oneA hm']
  simp only [if_true]
 refine ⟨hk,?_⟩
 obtain ⟨h1,h2⟩:=mErr_zero hm
 rw [argZ_q (by rw [hs,text_countA hm']; omega) (by rw [hk]; simp [path_pt h1]),hk]
 exact ver_q h2
theorem toL_keep {Q : List Raw} {L : List Ent} {S C : List Bm} (hc : (chk Q L).1 = 0) (hu : ∀ m,m ∈ S -> m ∈ univ L) (hri : rising S) (h : (tF Q L S C).1 = 0) (hok : ∀ m,m ∈ S -> ¬ Bd (reqQ Q L) C m) : toL Q L S C = S:=by
 have tw:=toL_tw h
 have uo : ∀ m,m ∈ univ L -> mErr m = 0:=univ_right hc
 have hself : ∀ m,mErr m = 0 -> lessB (vb m) (vb m) = false:=fun m hm=>by
  cases e : lessB (vb m) (vb m)
  ·rfl
  ·have:=(lessB_of e).2.2
   rw [(ordV_zero (mErr_zero hm).2 (mErr_zero hm).2).2 rfl] at this
   omega
 have hmem : ∀ x,x ∈ toL Q L S C ↔ x ∈ S:=fun x=>by
  rw [tw.mem]
  constructor
  ·rintro ⟨r,hr,l⟩
   have h1:=l.top r (hu r hr) rfl (hself r (uo r (hu r hr))) (hok r hr)
   have h2:=l.le
   have hx : verErr (vb x) = 0:=(mErr_zero (uo x l.mem)).2
   have hr' : verErr (vb r) = 0:=(mErr_zero (uo r (hu r hr))).2
   have : vb x = vb r:=by
    rcases ordV_three hx hr' with h3 | h3 | h3
    ·have : lessB (vb x) (vb r) = true:=by unfold lessB; simp [hx,hr',h3]
     rw [h1] at this; cases this
    ·exact h3
    ·have : lessB (vb r) (vb x) = true:=by unfold lessB; simp [hx,hr',h3]
     rw [h2] at this; cases this
   have e2 : x.2 = r.2:=by
    have : x.2.data.toList = r.2.data.toList:=this
    exact kS_inj (by unfold kS; rw [this])
   have : x = r:=Prod.ext l.path e2
   rw [this]; exact hr
  ·intro hx
   exact ⟨x,hx,hu x hx,rfl,hself x (uo x (hu x hx)),hok x hx,fun y hy hp hl _=>hl⟩
 have hri2 : rising (toL Q L S C):=by
  refine tw.ri.imp_of_mem fun {a b} ha hb hab=>?_
  rcases mAhead_lt hab with h1 | ⟨h1,h2⟩
  ·exact h1
  ·have:=rising_same hri ((hmem a).1 ha) ((hmem b).1 hb) h1
   subst this
   rw [hself a (uo a (hu a ((hmem a).1 ha)))] at h2
   cases h2
 exact rising_ext hri2 hri hmem
theorem not_bd_nil {Q : List Raw} {L : List Ent} (m : Bm) : ¬ Bd (reqQ Q L) [] m:=fun ⟨k,_,hc⟩=>by
 rw [capB_none (fun _ h=>absurd h (by simp))] at hc
 cases hc
theorem not_bd_self {w : World} {v : Value} {Q : List Raw} {L : List Ent} {N : List Bm} (I : Ixs w v Q L) (hc : (chk Q L).1 = 0) (hu : ∀ m,m ∈ N -> m ∈ univ L) (hb : bX Q L N = N) : ∀ m,m ∈ N -> ¬ Bd (reqQ Q L) N m:=fun m hm ⟨k,hk,hcap⟩=>by
 have hg:=chkG_in I hc hu
 have hkr : k ∈ rX Q L N:=(rX_mem I hg).2 (hk.mono (fun x hx=>by simp at hx; rw [hx]; exact hm))
 have hk0:=rX_right k hkr
 obtain ⟨e,he,hep,hle⟩:=(bX_jn Q L N).top k hkr hk0
 rw [hb] at he
 have hri : rising N:=by rw [<- hb]; exact (bX_jn Q L N).ri
 unfold capB at hcap
 cases ha : atP N k.1 with
 | none=>rw [ha] at hcap; cases hcap
 | some c=>
  rw [ha] at hcap
  have hcN : c ∈ N:=List.mem_of_find?_eq_some ha
  have hcp : c.1 = k.1:=by have:=List.find?_some ha; simpa using this
  have : c = e:=rising_same hri hcN he (by rw [hcp,hep])
  subst this
  simp only [Bool.or_eq_true,decide_eq_true_eq] at hcap
  rcases hcap with h1 | h1
  ·have h2:=(mErr_zero (univ_right hc c (hu c hcN))).2
   rw [show c.2.data.toList = noneL from h1] at h2
   exact absurd h2 (by decide)
  ·have h2:=(lessB_of h1).2.2
   rw [ordV_swap] at hle
   omega
theorem bX_mem_eq {w : World} {v : Value} {Q : List Raw} {L : List Ent} {A B : List Bm} (I : Ixs w v Q L) (hc : (chk Q L).1 = 0) (hA : ∀ m,m ∈ A -> m ∈ univ L) (h : ∀ m,m ∈ A ↔ m ∈ B) : bX Q L A = bX Q L B:=by
 have hB : ∀ m,m ∈ B -> m ∈ univ L:=fun m hm=>hA m ((h m).2 hm)
 have gA:=chkG_in I hc hA
 have gB:=chkG_in I hc hB
 refine (bX_jn Q L A).one (bX_jn Q L B) fun m _=>?_
 rw [rX_mem I gA,rX_mem I gB]
 exact ⟨fun hm=>hm.mono fun x hx=>(h x).1 hx,fun hm=>hm.mono fun x hx=>(h x).2 hx⟩
theorem capsOf_sel {caps : List Bm} (hr : rising caps) (h : ∀ c,c ∈ caps -> pathErr c.1.data.toList = 0 /\ (vb c = noneL \/ verErr (vb c) = 0)) : (chkP caps).1 = 0:=by
 have hp:=List.pairwise_iff_getElem.1 hr
 have : chkP caps = (0,none):=caps_good fun j hj=>by
  rw [capE_at hj]
  obtain ⟨h1,h2⟩:=h _ (List.getElem_mem hj)
  cases j with
  | zero=>exact capW_first h1 h2
  | succ k=>
   have e : prevOf caps (k + 1) = some (caps[k]'(by omega)):=by
    unfold prevOf
    rw [if_neg (by omega)]
    exact List.getElem?_eq_getElem (by omega)
   rw [e]
   exact capW_right h1 h2 (by
    have h3:=hp k (k + 1) (by omega) hj (by omega)
    rw [noLess_lt]
    have h3 : lt (caps[k]'(by omega)).1 caps[k + 1].1 = true:=h3
    rw [h3]; rfl)
 rw [this]
theorem tF_sel {w : World} {v : Value} {Q : List Raw} {L : List Ent} {S C : List Bm} (I : Ixs w v Q L) (hc : (chk Q L).1 = 0) (hu : ∀ m,m ∈ S -> m ∈ univ L) (hC : (chkP C).1 = 0) : (tF Q L S C).1 = 0:=by
 have hb : (bF Q L C).1 = 0:=by unfold bF; rw [if_pos hc]; exact hC
 unfold tF
 rw [if_pos hb]
 exact chkG_in I hc hu
end Ve
end Go.Proofs.YtjbmjnbkibmkpaaGreatDoor
