/-
  IxB KpO IxC VerM OrdS IxQ
-/
import Derived.Test.YtlcffhadobhfkaaGreatDoorMq5
import Derived.Test.YtlcffhadobhfkaaGreatDoorMq6
import Derived.Test.YtlcffhadobhfkaaGreatDoorMq3
import Derived.Test.YtlcffhadobhfkaaGreatDoorMq9
import Derived.Test.YtlcffhadobhfkaaGreatDoorMq11
import Derived.Test.YtlcffhadobhfkaaGreatDoorMq19
import Derived.Test.YtlcffhadobhfkaaGreatDoorMq20
import Derived.Test.YtlcffhadobhfkaaGreatDoorMq2
import Derived.Test.YtlcffhadobhfkaaGreatDoorMq17
import Derived.Test.YtlcffhadobhfkaaGreatDoorMq73
import Derived.Test.YtlcffhadobhfkaaGreatDoorMq18
import Derived.Test.YtlcffhadobhfkaaGreatDoorMq7
import Derived.Test.YtlcffhadobhfkaaGreatDoorMq10
import Derived.Test.YtlcffhadobhfkaaGreatDoorMq12
import Derived.Test.YtlcffhadobhfkaaGreatDoorMq23
import Derived.Test.YtlcffhadobhfkaaGreatDoorMq37
namespace Go.Proofs.YtlcffhadobhfkaaGreatDoor
open Go.RowKit
namespace Ve
set_option maxHeartbeats 4000000 in
set_option maxRecDepth 100000 in
theorem where_some (K : Nat) (cb : Array Value) (P : Raw → Bool) (L : List Raw) (b o c : Nat) (w : World) (eg : ∀ args w, (callFunc K args).run Tryz.prog w = .ok (.enter K args) w) (hL : L.length ≤ 100000) (hs : ∀ r, r ∈ L → slR r)
    (hc : ∀ j (h : j < L.length),w.cell? ⟨b,o + j * 5,none⟩ = some (.string L[j].1.1) /\ w.cell? ⟨b,o + j * 5 + 1,none⟩ = some (.string L[j].1.2) /\ w.cell? ⟨b,o + j * 5 + 2,none⟩ = some L[j].2.1 /\ w.cell? ⟨b,o + j * 5 + 3,none⟩ = some L[j].2.2.1 /\ w.cell? ⟨b,o + j * 5 + 4,none⟩ = some (.bool L[j].2.2.2))
    (hK : ∀ i (h : i < L.length) W,Below w.heap.size w W -> Calls Tryz.prog K (#[rawV L[i]] ++ cb) W fun e w'=>e = .returned (.bool (P L[i])) /\ Below W.heap.size W w') :
    Calls Tryz.prog 244 #[.slice (some ⟨b,o,none⟩) L.length c,.func (.func K) #[] cb] w fun e w'=>∃ v,e = .returned v /\ w'.ownsRow w.heap.size 45 5 v (L.filter P).length (flatR (L.filter P)) /\ Below w.heap.size w w':=by
  obtain ⟨i0,hi0,hz0,hz1,hz2⟩:=info_parts infoEnt
  have HK:=hid hK
  have HC:=hid hc
  have HSL:=hid hs
  clear hK hc hs
  go_enter Tryz.func244,Tryz.ntmps244
  go_wp2_with fail
  go_loopw [5,10] (fun ov i wr=>∃ k : Nat,k <= L.length /\ i = .int .i64 k /\ Hid (wr.ownsRow w.heap.size 45 5 ov ((L.take k).filter P).length (flatR ((L.take k).filter P))) /\ Hid (Below w.heap.size w wr)) (fun _ i _=>L.length - (intOf i).toNat)
  case atStart=>exact ⟨0,Nat.zero_le _,rfl,hid (World.ownsRow_nil _ _ _ _),hid (Below.refl _ _)⟩
  case round=>
    obtain ⟨k,hk,rfl,HO,HB⟩:=hrel
    by_cases hlt : k < L.length
    · obtain ⟨y0,y1,y2,y3,y4⟩:=HC.out k hlt
      have x0:=cell_below HB.out y0
      have x1:=cell_below HB.out y1
      have x2:=cell_below HB.out y2
      have x3:=cell_below HB.out y3
      have x4:=cell_below HB.out y4
      have hsl:=HSL.out L[k] (List.getElem_mem hlt)
      have hkI : (k : Int) < (L.length : Int):=by omega
      have HLT:=hid hlt
      have HY:=hid (fun h=>filter_yes hlt h (P:=P))
      have HN:=hid (fun h=>filter_no hlt h (P:=P))
      have HKK:=hid (fun W hW=>HK.out k hlt W hW)
      have HLN:=hid (show ((L.take k).filter P).length <= 100000 from Nat.le_trans (List.length_filter_le _ _) (by rw [List.length_take]; omega))
      clear y0 y1 y2 y3 y4
      generalize L[k] = x at *
      obtain ⟨⟨p,q⟩,rv,pv,bk⟩:=x
      obtain ⟨⟨ra,rn,rc,hrv⟩,pa,pn,pc,hpv⟩:=hsl
      simp only at hrv hpv
      subst hrv
      subst hpv
      have HBa:=hid (HB.out.alloc HB.out.size (.cells #[.string p,.string q,.slice ra rn rc,.slice pa pn pc,.bool bk] 45))
      have HP:=hid (HKK.out _ HBa.out)
      have HOa:=hid (HO.out.alloc (.cells #[.string p,.string q,.slice ra rn rc,.slice pa pn pc,.bool bk] 45))
      unfold rawV at HP
      clear hlt HKK
      cases hp : P ((p,q),.slice ra rn rc,.slice pa pn pc,bk)
      · rw [hp] at HP
        have HN2:=hid (HN.out hp)
        clear hp
        go_wp2_with fail
        refine HP.out.mono ?_
        rintro e w1 ⟨rfl,hb⟩
        have HB1:=hid (HBa.out.trans (hb.mono HBa.out.size))
        have HO1:=hid (owns_below HOa.out hb)
        clear hb
        go_wp2_with fail
        go_roundw
        case rel=>exact ⟨k + 1,by have:=HLT.out; omega,by go_num,by rw [HN2.out]; exact HO1,HB1⟩
        case measure=>have:=HLT.out; simp [intOf]; omega
      · rw [hp] at HP
        have HY2:=hid (HY.out hp)
        clear hp
        go_wp2_with fail
        refine HP.out.mono ?_
        rintro e w1 ⟨rfl,hb⟩
        have HB1:=hid (HBa.out.trans (hb.mono HBa.out.size))
        have HO1:=hid (owns_below HOa.out hb)
        have HE1:=hid (show w1.heap[wr.heap.size]? = some (.cells #[.string p,.string q,.slice ra rn rc,.slice pa pn pc,.bool bk] 45 (0,0)) by rw [hb.block _ (by simp)]; exact heap_alloc_new wr _)
        have z0 : w1.cell? ⟨wr.heap.size,0,none⟩ = some (.string p):=by rw [Lib.cell_of_heap HE1.out]; rfl
        have z1 : w1.cell? ⟨wr.heap.size,1,none⟩ = some (.string q):=by rw [Lib.cell_of_heap HE1.out]; rfl
        have z2 : w1.cell? ⟨wr.heap.size,2,none⟩ = some (.slice ra rn rc):=by rw [Lib.cell_of_heap HE1.out]; rfl
        have z3 : w1.cell? ⟨wr.heap.size,3,none⟩ = some (.slice pa pn pc):=by rw [Lib.cell_of_heap HE1.out]; rfl
        have z4 : w1.cell? ⟨wr.heap.size,4,none⟩ = some (.bool bk):=by rw [Lib.cell_of_heap HE1.out]; rfl
        clear hb x0 x1 x2 x3 x4
        go_wp2_with (at_builtin; refine wpList_append_own _ rfl _ _ 22 rfl w.heap.size 45 i0 _ 5 88 Tryz.underlying22 hi0 hz0 hz1 hz2 rfl (by decide) _ _ _ rfl (HO1.out.alloc _) ⟨w1.heap.size,0,none⟩ 1 1 [.string p,.string q,.slice ra rn rc,.slice pa pn pc,.bool bk] rfl rfl ?c1 ?c2 ?c3 ?c4 ?c5 ?_)
        case c1=>exact World.news_of_block (cs:=#[.string p,.string q,.slice ra rn rc,.slice pa pn pc,.bool bk]) (t:=45) (fr:=(0,0)) (heap_alloc_new w1 _)
        case c2=>
          intro u hu
          simp at hu
          rcases hu with rfl | rfl | rfl | rfl | rfl <;> rfl
        case c3=>have:=HLN.out; unfold maxLen; omega
        case c4=>have:=HLN.out; omega
        case c5=>have:=HB1.out.size; simp; omega
        intro v' w3 hown hgrow _
        have HR3:=hid (rel_app5 HB1.out.size HB1.out HO1.out (Below.refl _ _) hgrow)
        have HO3:=hid hown
        clear hown hgrow z0 z1 z2 z3 z4
        go_wp2_with fail
        go_roundw
        case rel=>exact ⟨k + 1,by have:=HLT.out; omega,by go_num,hid (own_nextR (x:=((p,q),.slice ra rn rc,.slice pa pn pc,bk)) HO3.out HY2.out),HR3⟩
        case measure=>have:=HLT.out; simp [intOf]; omega
    · have HTR:=hid (show L.take k = L from List.take_of_length_le (by omega))
      rw [HTR.out] at HO
      have hkI : ¬ (k : Int) < (L.length : Int):=by omega
      clear hlt
      go_wp2_with fail
      go_ret
      exact ⟨_,rfl,HO.out,HB.out⟩
theorem where_none (K : Nat) (cb : Array Value) (a : Option Addr) (c : Nat) (w : World) :
    Calls Tryz.prog 244 #[.slice a 0 c,.func (.func K) #[] cb] w fun e w'=>e = .returned (.slice none 0 0) /\ Below w.heap.size w w':=by
  go_enter Tryz.func244,Tryz.ntmps244
  go_wp2_with fail
  go_loopw [5,10] (fun ov i wr=>ov = .slice none 0 0 /\ i = .int .i64 0 /\ wr = w) (fun _ i _=>0)
  case atStart=>exact ⟨rfl,rfl,rfl⟩
  case round=>
    obtain ⟨rfl,rfl,rfl⟩:=hrel
    go_wp2_with fail
    go_ret
    exact ⟨rfl,Below.refl _ _⟩
theorem where_any (K : Nat) (cb : Array Value) (P : Raw -> Bool) (L : List Raw) (v : Value) (w : World) (eg : ∀ args w,(callFunc K args).run Tryz.prog w = .ok (.enter K args) w) (hL : L.length <= 100000) (hv : EsAt w v L)
    (hK : ∀ i (h : i < L.length) W,Below w.heap.size w W -> Calls Tryz.prog K (#[rawV L[i]] ++ cb) W fun e w'=>e = .returned (.bool (P L[i])) /\ Below W.heap.size W w') :
    Calls Tryz.prog 244 #[v,.func (.func K) #[] cb] w fun e w'=>∃ v',e = .returned v' /\ EsAt w' v' (L.filter P) /\ Below w.heap.size w w':=by
  obtain ⟨a,c,rfl,_,hs,h⟩:=hv
  have hsf : ∀ r,r ∈ L.filter P -> slR r:=fun r hr=>hs r (List.mem_filter.1 hr).1
  cases L with
  | nil=>exact (where_none K cb a c w).mono fun e w' ⟨h1,h2⟩=>⟨_,h1,⟨none,0,rfl,Nat.le_refl _,fun r hr=>absurd hr (by simp),fun h=>absurd rfl h⟩,h2⟩
  | cons x r=>
    obtain ⟨b,o,rfl,h2⟩:=h (by simp)
    exact (where_some K cb P (x :: r) b o c w eg hL hs h2 hK).mono fun e w' ⟨v',h1,h2,h3⟩=>⟨v',h1,own_es hsf h2,h3⟩
open Go.Maps
theorem pw_ext {α : Type} {r : α → α → Prop} (irr : ∀ a, ¬ r a a) (asy : ∀ a b, r a b → ¬ r b a) : ∀ {E F : List α}, E.Pairwise r → F.Pairwise r → (∀ m, m ∈ E ↔ m ∈ F) → E = F
  | [],[],_,_,_=>rfl
  | [],f :: F,_,_,h=>by have:=(h f).2 (by simp); cases this
  | e :: E,[],_,_,h=>by have:=(h e).1 (by simp); cases this
  | e :: E, f :: F, hE, hF, h => by
    obtain ⟨hE1,hE2⟩:=List.pairwise_cons.1 hE
    obtain ⟨hF1,hF2⟩:=List.pairwise_cons.1 hF
    have hef : e = f:=by
      rcases List.mem_cons.1 ((h e).1 (by simp)) with a | a
      · exact a
      · rcases List.mem_cons.1 ((h f).2 (by simp)) with b | b
        · exact b.symm
        · exact absurd (hE1 f b) (asy _ _ (hF1 e a))
    subst hef
    have : E = F:=pw_ext irr asy hE2 hF2 fun m=>by
      constructor
      · intro hm
        rcases List.mem_cons.1 ((h m).1 (List.mem_cons_of_mem _ hm)) with a | a
        · subst a; exact absurd (hE1 m hm) (irr _)
        · exact a
      · intro hm
        rcases List.mem_cons.1 ((h m).2 (List.mem_cons_of_mem _ hm)) with a | a
        · subst a; exact absurd (hF1 m hm) (irr _)
        · exact a
    rw [this]
theorem kept_one {L : List ByteArray} {n : Nat} {X Y : List ByteArray} (hX : Kept L n X) (hY : Kept L n Y) : X = Y:=by
  have h : bl X = bl Y:=pw_ext (r:=fun s t=>ordV s t < 0) (fun a h=>ordV_irr h h) (fun a b h=>ordV_irr h) hX.1 hY.1 fun t=>by rw [hX.2,hY.2]
  exact (List.map_inj_right (fun x y e=>str_ext e)).1 h
set_option maxHeartbeats 1000000 in
theorem vcheck_is (s : ByteArray) (aT aB : Addr) (m : Int) (w : World) (hs : s.size < 4294967281) (S : Vs w aT aB m) :
    Calls Tryz.prog 143 #[.string s] w fun e w'=>e = .returned (errV aT aB (verErr s.data.toList)) /\ Below w.heap.size w w':=by
  have HC:=hid (vsplit_any s aT aB m w hs S)
  clear S
  go_enter Tryz.func143,Tryz.ntmps143
  go_wp2_with fail
  refine HC.out.mono ?_
  rintro e w1 ⟨h1,hb⟩
  have HB:=hid hb
  clear hb
  rcases h1 with ⟨h0,rfl⟩ | ⟨h0,v,X,rfl,_,hst⟩
  · obtain ⟨a,ha⟩:=errV_ne aT aB h0
    have HE:=hid ha
    rw [ha]
    clear h0 ha
    go_wp2_with fail
    go_ret
    exact ⟨by rw [HE.out]; rfl,HB.out.alloc HB.out.size _⟩
  · obtain ⟨p,n,c,rfl⟩:=hst.slice
    have HE:=hid (show errV aT aB (verErr s.data.toList) = .nilIface by rw [h0]; rfl)
    clear h0 hst
    go_wp2_with fail
    go_ret
    exact ⟨by rw [HE.out]; rfl,HB.out.alloc HB.out.size _⟩
def preB (s : ByteArray) : Bool:=decide (verErr s.data.toList = 0) && decide (0 < (preOf s.data.toList).length)
theorem StrsAt.len {w : World} {v : Value} {X : List ByteArray} (h : StrsAt w v X) : ∃ p c,v = .slice p X.length c:=by
  rcases h with ⟨h0,rfl⟩ | ⟨_,b,rfl,_⟩
  · exact ⟨none,0,by rw [h0]; rfl⟩
  · exact ⟨_,_,rfl⟩
set_option maxHeartbeats 1000000 in
theorem hasPre_any (s : ByteArray) (aT aB : Addr) (m : Int) (w : World) (hs : s.size < 4294967281) (S : Vs w aT aB m) :
    Calls Tryz.prog 247 #[.string s] w fun e w'=>e = .returned (.bool (preB s)) /\ Below w.heap.size w w':=by
  have HC:=hid (vsplit_any s aT aB m w hs S)
  clear S
  go_enter Tryz.func247,Tryz.ntmps247
  go_wp2_with fail
  refine HC.out.mono ?_
  rintro e w1 ⟨h1,hb⟩
  have HB:=hid hb
  clear hb
  rcases h1 with ⟨h0,rfl⟩ | ⟨h0,v,X,rfl,hX,hst⟩
  · have HE:=hid (show preB s = false by unfold preB; rw [decide_eq_false h0]; rfl)
    obtain ⟨a,ha⟩:=errV_ne aT aB h0
    rw [ha]
    clear h0 ha
    go_wp2_with fail
    go_ret
    exact ⟨by rw [HE.out]; rfl,HB.out.alloc HB.out.size _⟩
  · obtain ⟨p,c,rfl⟩:=hst.len
    have HE:=hid (show preB s = decide (0 < X.length) by
      unfold preB; rw [decide_eq_true h0,<- hX,bl_len]; rfl)
    clear h0 hst hX
    go_wp2_with fail
    go_ret
    refine ⟨?_,HB.out.alloc HB.out.size _⟩
    rw [HE.out]
    simp
def isP (t : ByteArray) (r : Raw) : Bool:=decide (r.1.1 = t) && decide (verErr r.1.2.data.toList = 0)
set_option maxHeartbeats 2000000 in
theorem ofPathK_any (t : ByteArray) (r : Raw) (hs : slR r) (hz : r.1.2.size < 999999) (aT aB : Addr) (m : Int) (b : Nat) (W : World) (S : Vs W aT aB m) (h0 : W.cell? ⟨b,0,none⟩ = some (.string t)) :
    Calls Tryz.prog 248 (#[rawV r] ++ #[.pointer (some ⟨b,0,none⟩)]) W fun e w'=>e = .returned (.bool (isP t r)) /\ Below W.heap.size W w':=by
  obtain ⟨⟨p,v⟩,rv,pv,bk⟩:=r
  obtain ⟨⟨ra,rn,rc,hrv⟩,pa,pn,pc,hpv⟩:=hs
  simp only at hrv hpv hz
  subst hrv
  subst hpv
  show Calls Tryz.prog 248 #[.agg #[.string p,.string v,.slice ra rn rc,.slice pa pn pc,.bool bk],.pointer (some ⟨b,0,none⟩)] W _
  have HI:=hid (show isP t ((p,v),.slice ra rn rc,.slice pa pn pc,bk) = (decide (p = t) && decide (verErr v.data.toList = 0)) from rfl)
  have HB0:=hid ((Below.refl W.heap.size W).alloc (Nat.le_refl _) (.cells #[.string p,.string v,.slice ra rn rc,.slice pa pn pc,.bool bk] 45))
  have c0:=cell_below HB0.out h0
  have hbb : ¬ b = W.heap.size:=by have:=lt_of_cell h0; simp at this; omega
  have hbb2 : ¬ W.heap.size = b:=fun h=>hbb h.symm
  have HS:=hid (S.below HB0.out)
  have HV:=hid (fun W' (SW : Vs W' aT aB m)=>vcheck_is v aT aB m W' (by omega) SW)
  generalize isP t ((p,v),.slice ra rn rc,.slice pa pn pc,bk) = z at *
  clear S
  by_cases h : p = t
  · rw [decide_eq_true h,Bool.true_and] at HI
    have hq : (p.toList == t.toList) = true:=by rw [h]; exact str_refl t
    by_cases h1 : verErr v.data.toList = 0
    · rw [decide_eq_true h1] at HI
      have hz1:=HI.out
      subst hz1
      have HE:=hid (show errV aT aB (verErr v.data.toList) = .nilIface by rw [h1]; rfl)
      rw [HE.out] at HV
      clear h h1 HI
      go_enter Tryz.func248,Tryz.ntmps248
      go_wp2_with fail
      refine (HV.out _ HS.out).mono ?_
      rintro e w1 ⟨rfl,hb⟩
      have HB:=hid (HB0.out.trans (hb.mono HB0.out.size))
      clear hb
      go_wp2_with fail
      go_ret
      exact ⟨rfl,HB.out⟩
    · rw [decide_eq_false h1] at HI
      have hz1:=HI.out
      subst hz1
      obtain ⟨a,ha⟩:=errV_ne aT aB h1
      rw [ha] at HV
      clear h h1 HI ha
      go_enter Tryz.func248,Tryz.ntmps248
      go_wp2_with fail
      refine (HV.out _ HS.out).mono ?_
      rintro e w1 ⟨rfl,hb⟩
      have HB:=hid (HB0.out.trans (hb.mono HB0.out.size))
      clear hb
      go_wp2_with fail
      go_ret
      exact ⟨rfl,HB.out⟩
  · rw [decide_eq_false h,Bool.false_and] at HI
    have hz1:=HI.out
    subst hz1
    have hq:=str_ne h
    clear h HI
    go_enter Tryz.func248,Tryz.ntmps248
    go_wp2_with fail
    go_ret
    exact ⟨rfl,HB0.out⟩
def shortR (L : List Raw) : Prop:=∀ r,r ∈ L -> r.1.1.size < 999999 /\ r.1.2.size < 999999
theorem shortR.filter {L : List Raw} (h : shortR L) (P : Raw -> Bool) : shortR (L.filter P):=fun r hr=>h r (List.mem_filter.1 hr).1
set_option maxHeartbeats 1000000 in
theorem ofPath_any (L : List Raw) (t : ByteArray) (v : Value) (aT aB : Addr) (m : Int) (w : World) (hL : L.length <= 100000) (hz : shortR L) (S : Vs w aT aB m) (hv : EsAt w v L) :
    Calls Tryz.prog 213 #[v,.string t] w fun e w'=>∃ v',e = .returned v' /\ EsAt w' v' (L.filter (isP t)) /\ Below w.heap.size w w':=by
  obtain ⟨a,c,hv1,_,hs,_⟩:=id hv
  have HB0:=hid ((Below.refl w.heap.size w).alloc (Nat.le_refl _) (.cells #[.string t] 9))
  have eg : ∀ args w,(callFunc 248 args).run Tryz.prog w = .ok (.enter 248 args) w:=enters_of Tryz.func248 (by kernel_rfl) rfl
  have HF:=hid (where_any 248 #[.pointer (some ⟨w.heap.size,0,none⟩)] (isP t) L v (w.alloc (.cells #[.string t] 9)) eg hL (hv.below HB0.out) (fun i hi W hW=>
    ofPathK_any t L[i] (hs L[i] (List.getElem_mem hi)) (hz L[i] (List.getElem_mem hi)).2 aT aB m w.heap.size W ((S.below HB0.out).below hW) (cell_below hW (by simp))))
  subst hv1
  clear hv hs eg S
  go_enter Tryz.func213,Tryz.ntmps213
  go_wp2_with fail
  refine HF.out.mono ?_
  rintro e w1 ⟨v',rfl,he,hb⟩
  obtain ⟨a1,c1,e1,_⟩:=id he
  have HE:=hid he
  have HB:=hid (HB0.out.trans (hb.mono HB0.out.size))
  subst e1
  clear hb he
  go_wp2_with fail
  go_ret
  exact ⟨_,rfl,HE.out,HB.out⟩
def isS (r : Raw) : Bool:=!r.2.2.2
def isD (r : Raw) : Bool:=!preB r.1.2
set_option maxHeartbeats 1000000 in
theorem bestA_any (r : Raw) (hs : slR r) (W : World) : Calls Tryz.prog 245 (#[rawV r] ++ #[]) W fun e w'=>e = .returned (.bool (isS r)) /\ Below W.heap.size W w':=by
  obtain ⟨⟨p,v⟩,rv,pv,bk⟩:=r
  obtain ⟨⟨ra,rn,rc,hrv⟩,pa,pn,pc,hpv⟩:=hs
  simp only at hrv hpv
  subst hrv
  subst hpv
  show Calls Tryz.prog 245 #[.agg #[.string p,.string v,.slice ra rn rc,.slice pa pn pc,.bool bk]] W fun e w'=>e = .returned (.bool (!bk)) /\ Below W.heap.size W w'
  have HB0:=hid ((Below.refl W.heap.size W).alloc (Nat.le_refl _) (.cells #[.string p,.string v,.slice ra rn rc,.slice pa pn pc,.bool bk] 45))
  go_enter Tryz.func245,Tryz.ntmps245
  go_wp2_with fail
  go_ret
  exact ⟨rfl,HB0.out⟩
set_option maxHeartbeats 1000000 in
theorem bestB_any (r : Raw) (hs : slR r) (hz : r.1.2.size < 999999) (aT aB : Addr) (m : Int) (W : World) (S : Vs W aT aB m) : Calls Tryz.prog 246 (#[rawV r] ++ #[]) W fun e w'=>e = .returned (.bool (isD r)) /\ Below W.heap.size W w':=by
  obtain ⟨⟨p,v⟩,rv,pv,bk⟩:=r
  obtain ⟨⟨ra,rn,rc,hrv⟩,pa,pn,pc,hpv⟩:=hs
  simp only at hrv hpv hz
  subst hrv
  subst hpv
  show Calls Tryz.prog 246 #[.agg #[.string p,.string v,.slice ra rn rc,.slice pa pn pc,.bool bk]] W fun e w'=>e = .returned (.bool (!preB v)) /\ Below W.heap.size W w'
  have HB0:=hid ((Below.refl W.heap.size W).alloc (Nat.le_refl _) (.cells #[.string p,.string v,.slice ra rn rc,.slice pa pn pc,.bool bk] 45))
  have HH:=hid (hasPre_any v aT aB m _ (by omega) (S.below HB0.out))
  generalize preB v = z at *
  clear S
  go_enter Tryz.func246,Tryz.ntmps246
  go_wp2_with fail
  refine HH.out.mono ?_
  rintro e w1 ⟨rfl,hb⟩
  have HB:=hid (HB0.out.trans (hb.mono HB0.out.size))
  clear hb
  go_wp2_with fail
  go_ret
  exact ⟨rfl,HB.out⟩
def bestR (L : List Raw) : List Raw:=if 0 < ((L.filter isS).filter isD).length then (L.filter isS).filter isD else if 0 < (L.filter isS).length then L.filter isS else L
set_option maxHeartbeats 1000000 in
theorem best_any (L : List Raw) (v : Value) (aT aB : Addr) (m : Int) (w : World) (hL : L.length <= 100000) (hz : shortR L) (S : Vs w aT aB m) (hv : EsAt w v L) :
    Calls Tryz.prog 212 #[v] w fun e w'=>∃ v',e = .returned v' /\ EsAt w' v' (bestR L) /\ Below w.heap.size w w':=by
  obtain ⟨a,c,hv1,_,hs,_⟩:=id hv
  have egA : ∀ args w,(callFunc 245 args).run Tryz.prog w = .ok (.enter 245 args) w:=enters_of Tryz.func245 (by kernel_rfl) rfl
  have egB : ∀ args w,(callFunc 246 args).run Tryz.prog w = .ok (.enter 246 args) w:=enters_of Tryz.func246 (by kernel_rfl) rfl
  have HF:=hid (where_any 245 #[] isS L v w egA hL hv (fun i hi W hW=>bestA_any L[i] (hs L[i] (List.getElem_mem hi)) W))
  have HG:=hid (fun W (SW : Vs W aT aB m) v' (hv' : EsAt W v' (L.filter isS))=>where_any 246 #[] isD (L.filter isS) v' W egB (Nat.le_trans (List.length_filter_le _ _) hL) hv' (fun i hi W' hW=>bestB_any (L.filter isS)[i] (hs _ (List.mem_filter.1 (List.getElem_mem hi)).1) (hz.filter isS _ (List.getElem_mem hi)).2 aT aB m W' (SW.below hW)))
  have HV:=hid hv
  have HS:=hid S
  subst hv1
  clear hv hs egA egB S
  go_enter Tryz.func212,Tryz.ntmps212
  go_wp2_with fail
  refine HF.out.mono ?_
  rintro e w1 ⟨v1,rfl,h1,hb⟩
  obtain ⟨a1,c1,e1,_⟩:=id h1
  have HE1:=hid h1
  have HB1:=hid hb
  subst e1
  clear hb h1
  go_wp2_with fail
  refine (HG.out w1 (HS.out.below HB1.out) _ HE1.out).mono ?_
  rintro e w2 ⟨v2,rfl,h2,hb⟩
  obtain ⟨a2,c2,e2,_⟩:=id h2
  have HE2:=hid h2
  have HB2:=hid (HB1.out.trans (hb.mono HB1.out.size))
  have HE3:=hid (HE1.out.below hb)
  subst e2
  clear hb h2
  have HR:=hid (show bestR L = if 0 < ((L.filter isS).filter isD).length then (L.filter isS).filter isD else if 0 < (L.filter isS).length then L.filter isS else L from rfl)
  clear HF HG HE1
  generalize (L.filter isS).filter isD = D at *
  generalize L.filter isS = Q at *
  by_cases p1 : 0 < D.length
  · have q1 : (0 : Int) < (D.length : Int):=by omega
    rw [if_pos p1] at HR
    clear p1
    go_wp2_with fail
    go_ret
    exact ⟨_,rfl,by rw [HR.out]; exact HE2.out,HB2.out⟩
  · have q1 : ¬ (0 : Int) < (D.length : Int):=by omega
    rw [if_neg p1] at HR
    by_cases p2 : 0 < Q.length
    · have q2 : (0 : Int) < (Q.length : Int):=by omega
      rw [if_pos p2] at HR
      clear p1 p2
      go_wp2_with fail
      go_ret
      exact ⟨_,rfl,by rw [HR.out]; exact HE3.out,HB2.out⟩
    · have q2 : ¬ (0 : Int) < (Q.length : Int):=by omega
      rw [if_neg p2] at HR
      clear p1 p2
      go_wp2_with fail
      go_ret
      exact ⟨_,rfl,by rw [HR.out]; exact HV.out.below HB2.out,HB2.out⟩
set_option maxHeartbeats 400000 in
theorem text_pbad (a b c : Int) (v : Value) (q : Nat) (aT aB : Addr) (w : World) (ha : inBB a = true) (hb : inBB b = true) (hc : inBB c = true) (hq : q = 1 \/ q = 2)
    (hpre : ∀ W,Below w.heap.size w W -> Calls Tryz.prog 167 #[v] W fun e w'=>e = .returned (errV aT aB q) /\ Below W.heap.size W w') :
    Calls Tryz.prog 275 #[.agg #[.int .i64 a,.int .i64 b,.int .i64 c,v]] w fun e w'=>e = .returned (.string ⟨#[]⟩) /\ Below w.heap.size w w':=by
  have HA:=hid (fun W=>inB_any a W)
  have HB:=hid (fun W=>inB_any b W)
  have HC:=hid (fun W=>inB_any c W)
  rw [ha] at HA
  rw [hb] at HB
  rw [hc] at HC
  have HP:=hid hpre
  have HB0:=hid ((Below.refl w.heap.size w).alloc (Nat.le_refl _) (.cells #[.int .i64 a,.int .i64 b,.int .i64 c,v] 144))
  clear ha hb hc hpre
  go_enter Tryz.func275,Tryz.ntmps275
  go_wp2_with fail
  refine (HA.out _).mono ?_
  rintro e w' ⟨rfl,rfl⟩
  go_wp2_with fail
  refine (HB.out _).mono ?_
  rintro e w' ⟨rfl,rfl⟩
  go_wp2_with fail
  refine (HC.out _).mono ?_
  rintro e w' ⟨rfl,rfl⟩
  go_wp2_with fail
  refine (HP.out _ HB0.out).mono ?_
  rintro e w1 ⟨rfl,hb1⟩
  have HB1:=hid (HB0.out.trans (hb1.mono (by simp)))
  clear hb1
  rcases hq with rfl | rfl
  · rw [errV1]
    go_wp2_with fail
    go_ret
    exact ⟨rfl,HB1.out⟩
  · rw [errV2]
    go_wp2_with fail
    go_ret
    exact ⟨rfl,HB1.out⟩
theorem text_any (a b c : Int) (X : List ByteArray) (v : Value) (aT aB : Addr) (m : Int) (w : World) (S : Vs w aT aB m) (htab : Lib.TabIs Tryz.prog w powName .u64 Lib.pow10Tab) (hX : X.length ≤ 1000) (hXz : ∀ x, x ∈ X → x.size ≤ maxLen)
    (hlen : (preText (bl X)).length <= 1000000)
    (hv : (X = [] /\ v = .slice none 0 0) \/ (X ≠ [] /\ ∃ bk cp,v = .slice (some ⟨bk,0,none⟩) X.length cp /\ X.length <= cp /\ bk < w.heap.size /\ ∀ j (h : j < X.length),w.cell? ⟨bk,0 + j,none⟩ = some (.string X[j]))) :
    Calls Tryz.prog 275 #[.agg #[.int .i64 a,.int .i64 b,.int .i64 c,v]] w fun e w'=>∃ T : ByteArray,e = .returned (.string T) /\ T.data.toList = textOf a b c (bl X) /\ Below w.heap.size w w':=by
  have hpre : ∀ W,Below w.heap.size w W -> Calls Tryz.prog 167 #[v] W fun e w'=>e = .returned (errV aT aB (pre (bl X))) /\ Below W.heap.size W w':=by
    intro W hW
    rcases hv with ⟨h1,h2⟩ | ⟨h1,bk,cp,h2,h3,h4,h5⟩
    · subst h1; subst h2
      exact pre_nil none 0 aT aB W
    · subst h2
      exact pre_some bk 0 cp X aT aB m W (S.below hW) (by omega) hXz (fun j h=>cell_below hW (h5 j h))
  cases hn : (inBB a && inBB b && inBB c)
  · refine (text_nums a b c v w hn).mono fun e w' ⟨h1,h2⟩=>⟨_,h1,?_,h2⟩
    rw [textOf_pre,hn]; rfl
  · simp only [Bool.and_eq_true] at hn
    obtain ⟨⟨ha,hb⟩,hc⟩:=hn
    rcases pre_err (bl X) with h0 | h0
    · rw [h0] at hpre
      have hT : textOf a b c (bl X) = core3 a b c ++ preText (bl X):=by rw [textOf_pre,ha,hb,hc,h0]; rfl
      rw [hT]
      rcases hv with ⟨h1,h2⟩ | ⟨h1,bk,cp,h2,h3,h4,h5⟩
      · subst h1; subst h2
        refine (text_none a b c w ha hb hc htab hpre).mono fun e w' ⟨T,e1,e2,e3⟩=>⟨T,e1,?_,e3⟩
        rw [e2]; simp [bl,preText]
      · subst h2
        have hj : preText (bl X) = [45] ++ Lib.join (bl X) [46]:=by
          cases X with
          | nil=>exact absurd rfl h1
          | cons x r=>rfl
        refine (text_some a b c bk cp X w hX h3 h1 h4 h5 (by rw [hj] at hlen; simp at hlen; omega) ha hb hc htab hpre).mono fun e w' ⟨T,e1,e2,e3⟩=>⟨T,e1,?_,e3⟩
        rw [e2,hj,List.append_assoc]
    · refine (text_pbad a b c v (pre (bl X)) aT aB w ha hb hc h0 hpre).mono fun e w' ⟨h1,h2⟩=>⟨_,h1,?_,h2⟩
      rw [textOf_pre]
      rcases h0 with h | h <;> rw [h] <;> simp
def ba (t : List UInt8) : ByteArray:=⟨t.toArray⟩
theorem ba_list (t : List UInt8) : (ba t).data.toList = t:=by simp [ba]
def CompactIs : Prop:=∀ (w0 W : World) (g cap : Nat) (D : List Rc),D ≠ [] -> D.length <= 1000 -> D.length <= cap -> cap <= maxLen -> srt D -> Rw w0 W g D ->
  Calls Tryz.prog 273 #[.slice (some ⟨g,0,none⟩) D.length cap,.func (.func 274) #[] #[]] W fun e w'=>∃ E : List Rc,e = .returned (.slice (some ⟨g,0,none⟩) E.length cap) /\ E.length <= D.length /\ rises (E.map (·.1)) /\ (∀ t,t ∈ E.map (·.1) ↔ t ∈ D.map (·.1)) /\ Rw w0 w' g E
theorem text_rc (r : Rc) (g : Nat) (aT aB : Addr) (m : Int) (w : World) (S : Vs w aT aB m) (htab : Lib.TabIs Tryz.prog w powName .u64 Lib.pow10Tab) (h : RcAt w g r) :
    Calls Tryz.prog 275 #[.agg #[.int .i64 (nAt r.1 0),.int .i64 (nAt r.1 1),.int .i64 (nAt r.1 2),r.2]] w fun e w'=>e = .returned (.string (ba r.1)) /\ Below w.heap.size w w':=by
  have hb:=text_back r.1 h.1
  have h0:=h.1
  obtain ⟨hl,hz⟩:=pre_small h
  have h5 : (strs (preOf r.1)).length <= 1000:=by
    rw [strs_len]
    have:=pre_len (l:=r.1)
    have:=h.2.1
    omega
  have hp : (preText (bl (strs (preOf r.1)))).length <= 1000000:=by
    have h2:=hb
    rw [bl_strs]
    rw [textOf_pre] at h2
    split at h2
    · have h3:=congrArg List.length h2
      rw [List.length_append] at h3
      have:=h.2.1
      omega
    · exfalso
      rw [<- h2] at h0
      revert h0
      decide
  refine (text_any _ _ _ (strs (preOf r.1)) r.2 aT aB m w S htab h5 hz hp ?_).mono fun e w' ⟨T,e1,e2,e3⟩=>⟨?_,e3⟩
  · rcases h.2.2.1 with h | ⟨h1,b,h2,h3,h4⟩
    · exact Or.inl h
    · exact Or.inr ⟨h1,b,_,h2,Nat.le_refl _,h3,h4⟩
  · rw [e1]
    congr 2
    apply str_ext
    rw [e2,bl_strs,hb,ba_list]
theorem infoParts : (Tryz.prog.info? 144).map (fun i=>(i.zero,i.size,i.bytes)) = some (some (.agg #[.int .i64 0,.int .i64 0,.int .i64 0,.slice none 0 0]),4,48):=by kernel_rfl
def goods (L : List ByteArray) : List (List UInt8):=(bl L).filter fun t=>decide (verErr t = 0)
theorem goods_snoc (L : List ByteArray) (k : Nat) (hk : k < L.length) : goods (L.take (k + 1)) = if verErr L[k].data.toList = 0 then goods (L.take k) ++ [L[k].data.toList] else goods (L.take k):=by
  unfold goods
  rw [bl_take_snoc L k hk,List.filter_append]
  by_cases h : verErr L[k].data.toList = 0
  · rw [if_pos h]; simp [h]
  · rw [if_neg h]; simp [h]
theorem kept_of {L : List ByteArray} {D E : List Rc} (hr : rises (E.map (·.1))) (hm : ∀ t,t ∈ E.map (·.1) ↔ t ∈ D.map (·.1)) (hD : ∀ t,t ∈ D.map (·.1) ↔ t ∈ goods L) : Kept L L.length (E.map fun r=>ba r.1):=by
  have e : bl (E.map fun r=>ba r.1) = E.map (·.1):=by
    unfold bl
    rw [List.map_map]
    refine List.map_congr_left fun r _=>?_
    exact ba_list r.1
  refine ⟨by rw [e]; exact hr,fun t=>?_⟩
  rw [e,hm,hD,List.take_length]
  unfold goods
  rw [List.mem_filter,decide_eq_true_iff]
set_option maxRecDepth 100000 in
set_option maxHeartbeats 8000000 in
theorem vsort_some (HCI : CompactIs) (HS0 : ∀ W : World, Calls Tryz.prog 272 #[.slice none 0 0, .func (.func 126) #[] #[]] W fun e w' => e = .returned (.tuple #[]) ∧ Below W.heap.size W w')
    (HC0 : ∀ W : World,Calls Tryz.prog 273 #[.slice none 0 0,.func (.func 274) #[] #[]] W fun e w'=>e = .returned (.slice none 0 0) /\ Below W.heap.size W w') (b0 o0 cap : Nat) (L : List ByteArray) (aT aB : Addr) (m : Int) (w : World) (S : Vs w aT aB m) (htab : Lib.TabIs Tryz.prog w powName .u64 Lib.pow10Tab) (hL : ∀ j (h : j < L.length),w.cell? ⟨b0,o0 + j,none⟩ = some (.string L[j])) (h12 : L.length <= 1000) (hz : ∀ x,x ∈ L -> x.size <= 80) :
    Calls Tryz.prog 243 #[.slice (some ⟨b0,o0,none⟩) L.length cap] w fun e w'=>∃ v X,e = .returned v /\ w'.ownsRow w.heap.size 9 1 v X.length (X.map Value.string) /\ Kept L L.length X /\ Below w.heap.size w w':=by
  obtain ⟨i0,hi,hz0,hz1,hz2⟩:=info_parts infoStr
  obtain ⟨i1,hi1,hy0,hy1,hy2⟩:=info_parts infoParts
  have HL:=hid hL
  have HZ:=hid hz
  have HS:=hid S
  have HTB:=hid htab
  have HCF:=hid HCI
  have HSN:=hid HS0
  have HCN:=hid HC0
  clear hL hz S htab HCI HS0 HC0
  go_enter Tryz.func243,Tryz.ntmps243
  go_wp2_with fail
  go_loopw [3,13] (fun v i wr=>∃ (k : Nat) (D : List Rc),k <= L.length /\ D.length <= k /\ i = .int .i64 k /\ Hid (D.map (·.1) = goods (L.take k)) /\ Hid (Fd w wr v D)) (fun _ i _=>L.length - (intOf i).toNat)
  case atStart=>exact ⟨0,[],Nat.zero_le _,Nat.le_refl _,rfl,hid rfl,hid ⟨World.ownsRow_nil _ _ _ _,fun _=>rfl,Below.refl _ _,fun r hr=>by cases hr⟩⟩
  case round=>
    obtain ⟨k,D,hk,hDk,rfl,HG,HF⟩:=hrel
    by_cases hkL : k < L.length
    · have hcell:=cell_below HF.out.bl (HL.out k hkL)
      have hq80 : L[k].size <= 80:=HZ.out _ (List.getElem_mem hkL)
      have HGS:=hid (goods_snoc L k hkL)
      generalize L[k] = q at *
      have hkl : (k : Int) < (L.length : Int):=by omega
      have hk0 : (0 : Int) <= (k : Int):=by omega
      by_cases hv : verErr q.data.toList = 0
      · have HSP:=hid (vsplit_is q aT aB m wr (by omega) (HS.out.below HF.out.bl) hv (strs (preOf q.data.toList)) (bl_strs _))
        rw [if_pos hv] at HGS
        have HV:=hid hv
        clear hv
        go_wp2_with fail
        refine HSP.out.mono ?_
        rintro e w1 ⟨pv,rfl,hst,hb1⟩
        obtain ⟨pa,na,ca,rfl⟩:=hst.slice
        have HF1:=hid (HF.out.below hb1)
        have HBP:=hid ((Below.refl w1.heap.size w1).alloc (Nat.le_refl _) (.cells #[.int .i64 (nAt q.data.toList 0),.int .i64 (nAt q.data.toList 1),.int .i64 (nAt q.data.toList 2),.slice pa na ca] 144))
        have HF2:=hid (HF1.out.below HBP.out)
        have HRR:=hid (show verErr q.data.toList = 0 /\ q.data.toList.length <= 80 /\ StrsAt (w1.alloc (.cells #[.int .i64 (nAt q.data.toList 0),.int .i64 (nAt q.data.toList 1),.int .i64 (nAt q.data.toList 2),.slice pa na ca] 144)) (.slice pa na ca) (strs (preOf q.data.toList)) from ⟨HV.out,by rw [len_eq]; exact hq80,hst.below HBP.out⟩)
        have hwz:=HF1.out.bl.size
        clear hst hb1 hcell
        go_wp2_with (at_builtin; refine wpList_append_own _ rfl _ _ 272 rfl w.heap.size 144 i1 (.agg #[.int .i64 0,.int .i64 0,.int .i64 0,.slice none 0 0]) 4 48 Tryz.underlying272 hi1 hy0 hy1 hy2 rfl (by decide) _ _ _ rfl (HF2.out.own.alloc _) ⟨w1.heap.size + 1,0,none⟩ 1 1 (rcells (q.data.toList,.slice pa na ca)) rfl rfl ?c1 ?c2 ?c3 ?c4 ?c5 ?_)
        case c1=>
          intro t u ht
          match t,ht with
          | 0,ht=>simp [rcells] at ht; subst ht; simp [Addr.add]
          | 1,ht=>simp [rcells] at ht; subst ht; simp [Addr.add]
          | 2,ht=>simp [rcells] at ht; subst ht; simp [Addr.add]
          | 3,ht=>simp [rcells] at ht; subst ht; simp [Addr.add]
          | t + 4,ht=>simp [rcells] at ht
        case c2=>intro u hu; simp [rcells] at hu; rcases hu with rfl | rfl | rfl | rfl <;> rfl
        case c3=>unfold maxLen; omega
        case c4=>omega
        case c5=>simp; omega
        intro v' w3 hown' hgrow _
        have HF3:=hid (HF2.out.more (r:=(q.data.toList,.slice pa na ca)) HRR.out hown' hgrow)
        have HG3:=hid (show (D ++ [((q.data.toList,.slice pa na ca) : Rc)]).map (·.1) = goods (L.take (k + 1)) by rw [HGS.out,List.map_append,HG.out]; rfl)
        clear hown' hgrow
        go_wp2_with fail
        go_roundw
        case rel=>exact ⟨k + 1,D ++ [(q.data.toList,.slice pa na ca)],by omega,by simp; omega,by go_num,HG3,HF3⟩
        case measure=>simp [intOf]; omega
      · have HSP:=hid (vsplit_not q aT aB m wr (by omega) (HS.out.below HF.out.bl) hv)
        rw [if_neg hv] at HGS
        clear hv
        go_wp2_with fail
        refine HSP.out.mono ?_
        rintro e w1 ⟨a9,rfl,hb1⟩
        have HF1:=hid (HF.out.below hb1)
        have HF2:=hid (HF1.out.below ((Below.refl w1.heap.size w1).alloc (Nat.le_refl _) (.cells #[.int .i64 0,.int .i64 0,.int .i64 0,.slice none 0 0] 144)))
        clear hb1 hcell
        go_wp2_with fail
        go_roundw
        case rel=>exact ⟨k + 1,D,by omega,by omega,by go_num,hid (HG.out.trans HGS.out.symm),HF2⟩
        case measure=>simp [intOf]; omega
    · obtain rfl : k = L.length:=by omega
      have HG2:=hid (show D.map (·.1) = goods L by rw [HG.out,List.take_length])
      by_cases hD : D = []
      · subst hD
        obtain rfl:=HF.out.nl rfl
        go_wp2_with fail
        refine (HSN.out _).mono ?_
        rintro e w1 ⟨rfl,hb1⟩
        go_wp2_with fail
        refine (HCN.out _).mono ?_
        rintro e w2 ⟨rfl,hb2⟩
        have HB2:=hid (HF.out.bl.trans ((hb1.trans (hb2.mono hb1.size)).mono HF.out.bl.size))
        have HK0:=hid (kept_of (L:=L) (D:=[]) (E:=[]) List.Pairwise.nil (fun t=>Iff.rfl) (fun t=>by rw [HG2.out]))
        clear hb1 hb2
        go_wp2_with fail
        go_loop [8,35] (fun v i=>v = .slice none 0 0 /\ i = .int .i64 0) (fun _ _=>0)
        case atStart=>exact ⟨rfl,rfl⟩
        case round=>
          obtain ⟨rfl,rfl⟩:=hrel
          go_wp2_with fail
          go_ret
          exact ⟨_,rfl,[],World.ownsRow_nil _ _ _ _,HK0.out,HB2.out⟩
      · obtain ⟨g,cp,rfl,hRw⟩:=HF.out.rw hD
        obtain ⟨_,_,_,_,_,hcp1,hcp2,_,_⟩:=own_cells HF.out.own hD
        have HR0:=hid hRw
        clear hRw
        go_wp2_with fail
        refine (sort_rw w wr g cp D hD (by omega) HR0.out).mono ?_
        rintro e w1 ⟨rfl,D1,hp1,hs1,hR1⟩
        have hl1 : D1.length = D.length:=hp1.length_eq
        have HD1:=hid (show ∀ t,t ∈ D1.map (·.1) ↔ t ∈ goods L from fun t=>by rw [<- HG2.out]; exact (hp1.map _).mem_iff)
        have HCC:=hid (HCF.out w w1 g cp D1 (fun e=>hD (by rw [e] at hl1; exact List.length_eq_zero_iff.1 hl1.symm)) (by omega) (by omega) (by omega) hs1 hR1)
        rw [hl1] at HCC
        clear hs1 hR1 hp1
        go_wp2_with fail
        refine HCC.out.mono ?_
        rintro e w2 ⟨E,rfl,hEl,hr,hm,hR2⟩
        have HR2:=hid hR2
        have HKE:=hid (kept_of hr hm HD1.out)
        clear hr hm hR2
        have HSB:=hid (fun W (h : Below w2.heap.size w2 W)=>HS.out.below (HR2.out.bl.trans (h.mono HR2.out.bl.size)))
        have HTB2:=hid (fun W (h : Below w2.heap.size w2 W)=>tab_below HTB.out (HR2.out.bl.trans (h.mono HR2.out.bl.size)))
        go_wp2_with fail
        go_loopw [8,35] (fun v i wr'=>∃ k : Nat,k <= E.length /\ i = .int .i64 k /\ Hid (wr'.ownsRow w2.heap.size 9 1 v k (((E.take k).map fun r=>ba r.1).map Value.string)) /\ Hid (Below w2.heap.size w2 wr')) (fun _ i _=>E.length - (intOf i).toNat)
        case atStart=>exact ⟨0,Nat.zero_le _,rfl,hid (World.ownsRow_nil _ _ _ _),hid (Below.refl _ _)⟩
        case round=>
          obtain ⟨k,hkE,rfl,HO,HB⟩:=hrel
          by_cases hkl : k < E.length
          · have HRK:=hid (HR2.out.below HB.out)
            obtain ⟨y0,y1,y2,y3⟩:=HRK.out.at (j:=k) (r:=E[k]) (List.getElem?_eq_getElem hkl)
            have HRC:=hid (HRK.out.rc E[k] (List.getElem_mem hkl))
            have HTK:=hid (show ((E.take (k + 1)).map fun r=>ba r.1).map Value.string = ((E.take k).map fun r=>ba r.1).map Value.string ++ [.string (ba E[k].1)] by rw [List.take_succ_eq_append_getElem hkl,List.map_append,List.map_append]; rfl)
            obtain ⟨pa,na,ca,hpv⟩:=HRC.out.2.2.1.slice
            have HTX:=hid (fun W (h : Below wr.heap.size wr W)=>text_rc E[k] g aT aB m W (HSB.out W (HB.out.trans (h.mono HB.out.size))) (HTB2.out W (HB.out.trans (h.mono HB.out.size))) (HRC.out.below h))
            generalize E[k] = r at *
            rw [hpv] at y3 HTX
            generalize nAt r.1 0 = x0 at *
            generalize nAt r.1 1 = x1 at *
            generalize nAt r.1 2 = x2 at *
            generalize ba r.1 = tx at *
            have hk0 : (0 : Int) <= (k : Int):=by omega
            have hk1 : (k : Int) < (E.length : Int):=by omega
            have HBA:=hid ((Below.refl wr.heap.size wr).alloc (Nat.le_refl _) (.cells #[.int .i64 x0,.int .i64 x1,.int .i64 x2,.slice pa na ca] 144))
            have hwz:=HB.out.size
            have hE12 : E.length <= 1000:=by omega
            go_wp2_with fail
            refine (HTX.out _ HBA.out).mono ?_
            rintro e w3 ⟨rfl,hb3⟩
            have HB3:=hid (HBA.out.trans (hb3.mono HBA.out.size))
            have HO3:=hid (owns_below HO.out HB3.out)
            have HB4:=hid (HB.out.trans (HB3.out.mono HB.out.size))
            have hw3:=HB4.out.size
            clear hb3 y0 y1 y2 y3
            go_wp2_with (at_builtin; refine wpList_append_own _ rfl _ _ 43 rfl w2.heap.size 9 i0 (.string ByteArray.empty) 1 16 Tryz.underlying43 hi hz0 hz1 hz2 rfl (by decide) _ _ _ rfl (HO3.out.alloc _) ⟨w3.heap.size,0,none⟩ 1 1 [.string tx] rfl rfl ?c1 ?c2 ?c3 ?c4 ?c5 ?_)
            case c1=>
              intro t u ht
              match t,ht with
              | 0,ht=>simp at ht; subst ht; simp [Addr.add]
            case c2=>intro u hu; simp at hu; subst hu; rfl
            case c3=>unfold maxLen; omega
            case c4=>omega
            case c5=>simp; omega
            intro v' w4 hown' hgrow _
            have HR:=hid (rel_app hw3 HB4.out HO3.out (Below.refl _ _) hgrow)
            have HO4:=hid hown'
            clear hown' hgrow
            go_wp2_with fail
            go_roundw
            case rel=>exact ⟨k + 1,by omega,by go_num,hid (by rw [HTK.out]; simpa using HO4.out),HR⟩
            case measure=>simp [intOf]; omega
          · obtain rfl : k = E.length:=by omega
            have HO2:=hid (show wr.ownsRow w.heap.size 9 1 u8 (E.map fun r=>ba r.1).length ((E.map fun r=>ba r.1).map Value.string) by
              have h:=owns_mono HO.out (HR2.out.bl.size)
              rw [List.take_length] at h
              rw [List.length_map]; exact h)
            have HBF:=hid (HR2.out.bl.trans (HB.out.mono HR2.out.bl.size))
            go_wp2_with fail
            go_ret
            exact ⟨u8,(E.map fun r=>ba r.1),rfl,HO2.out,HKE.out,HBF.out⟩
theorem ixs_sz {w : World} {v : Value} {Q : List Raw} {L : List Ent} (I : Ixs w v Q L) (h : okI L = true) : ∀ r,r ∈ Q -> r.1.1.size <= 80 /\ r.1.2.size <= 80:=fun r hr=>by
  obtain ⟨j,hj,rfl⟩:=List.getElem_of_mem hr
  have hj2 : j < L.length:=by rw [<- I.ln]; exact hj
  have hm:=(I.ok j hj hj2).m
  obtain ⟨a,b,_⟩:=(okI_iff h).2 L[j] (List.getElem_mem hj2)
  rw [hm]
  exact ⟨by omega,by omega⟩
end Ve
end Go.Proofs.YtlcffhadobhfkaaGreatDoor
