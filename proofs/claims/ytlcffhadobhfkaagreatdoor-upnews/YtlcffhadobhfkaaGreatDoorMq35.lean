/-
  FoA OrdW IxV IxPa IxW IxP MvI BxP UpP
-/
import Derived.Test.YtlcffhadobhfkaaGreatDoorMq3
import Derived.Test.YtlcffhadobhfkaaGreatDoorMq5
import Derived.Test.YtlcffhadobhfkaaGreatDoorMq11
import Derived.Test.YtlcffhadobhfkaaGreatDoorMq9
import Derived.Test.YtlcffhadobhfkaaGreatDoorMq2
import Derived.Test.YtlcffhadobhfkaaGreatDoorMq19
import Derived.Test.YtlcffhadobhfkaaGreatDoorMq20
import Derived.Test.YtlcffhadobhfkaaGreatDoorMq23
import Derived.Test.YtlcffhadobhfkaaGreatDoorMq37
import Derived.Test.YtlcffhadobhfkaaGreatDoorMq6
import Derived.Test.YtlcffhadobhfkaaGreatDoorMq73
import Derived.Test.YtlcffhadobhfkaaGreatDoorMq7
import Derived.Test.YtlcffhadobhfkaaGreatDoorMq14
import Derived.Test.YtlcffhadobhfkaaGreatDoorMq74
import Derived.Test.YtlcffhadobhfkaaGreatDoorMq18
import Derived.Test.YtlcffhadobhfkaaGreatDoorMq16
import Derived.Test.YtlcffhadobhfkaaGreatDoorMq34
import Derived.Test.YtlcffhadobhfkaaGreatDoorMq17
import Derived.Test.YtlcffhadobhfkaaGreatDoorMq36
import Derived.Test.YtlcffhadobhfkaaGreatDoorMq22
import Derived.Test.YtlcffhadobhfkaaGreatDoorMq45
import Derived.Test.YtlcffhadobhfkaaGreatDoorMq32
import Derived.Test.YtlcffhadobhfkaaGreatDoorMq56
namespace Go.Proofs.YtlcffhadobhfkaaGreatDoor
open Go.RowKit Go.Maps
namespace Ve
theorem findOf_noneJ (a : Option Addr) (c : Nat) (m : Bm) (w : World) : Calls Tryz.prog 25 #[.slice a 0 c,.agg #[.string m.1,.string m.2]] w fun e w'=>e = .returned (.int .i64 (-1)) /\ Below w.heap.size w w':=by
  have HB0:=hid ((Below.refl w.heap.size w).alloc (Nat.le_refl _) (.cells #[.string m.1,.string m.2] 25))
  go_enter Tryz.func25,Tryz.ntmps25
  go_wp2_with fail
  go_loopw [5] (fun i wr=>i = .int .i64 0 /\ Hid (Below w.heap.size w wr)) (fun i _=>0)
  case atStart=>exact ⟨rfl,HB0⟩
  case round=>
    obtain ⟨rfl,HB⟩:=hrel
    go_wp2_with fail
    go_ret
    exact ⟨rfl,HB.out⟩
theorem findOf_allJ (Q : List Raw) (m : Bm) (v : Value) (w : World) (hL : Q.length <= 1000000) (hv : EsAt w v Q) :
    Calls Tryz.prog 25 #[v,.agg #[.string m.1,.string m.2]] w fun e w'=>e = .returned (.int .i64 (idxOf (isM m) Q)) /\ Below w.heap.size w w':=by
  by_cases hQ : Q = []
  · subst hQ
    obtain ⟨a,c,rfl,_⟩:=hv
    exact findOf_noneJ a c m w
  · exact findOf_any Q m v w hL (List.length_pos_iff.2 hQ) hv
theorem ins_nil (W : World) : Calls Tryz.prog 294 #[.slice none 0 0,.int .i64 0,.int .i64 0,.func (.func 126) #[] #[]] W fun e w'=>e = .returned (.tuple #[]) /\ w' = W:=by
  go_enter Tryz.func294,Tryz.ntmps294
  go_wp2_with fail
  go_loop [8] (fun i=>i = .int .i64 1) (fun _=>0)
  case atStart=>rfl
  case round=>
    obtain rfl:=hrel
    go_wp2_with fail
    go_end0
    exact ⟨rfl,rfl⟩
set_option maxRecDepth 100000 in
set_option maxHeartbeats 2000000 in
theorem pdq_nil (n : Int) (W : World) : Calls Tryz.prog 287 #[.slice none 0 0,.int .i64 0,.int .i64 0,.int .i64 n,.func (.func 126) #[] #[]] W fun e w'=>e = .returned (.tuple #[]) /\ w' = W:=by
  have HI:=hid (ins_nil W)
  go_enter Tryz.func287,Tryz.ntmps287
  go_wp2_with fail
  go_loop [1,2,3,10,11] (fun a b _ _ _=>a = .int .i64 0 /\ b = .int .i64 0) (fun _ _ _ _ _=>0)
  case atStart=>exact ⟨rfl,rfl⟩
  case round=>
    obtain ⟨rfl,rfl⟩:=hrel
    go_wp2_with fail
    refine HI.out.mono ?_
    rintro e w' ⟨rfl,rfl⟩
    go_wp2_with fail
    first | (go_end0; exact ⟨rfl,rfl⟩) | (go_ret; exact ⟨rfl,rfl⟩) | (refine bodyPost_ret (v:=.tuple #[]) (by simp [results,Tryz.results287]) rfl ⟨rfl,rfl⟩)
set_option maxHeartbeats 1000000 in
theorem sortf_nil (W : World) : Calls Tryz.prog 272 #[.slice none 0 0,.func (.func 126) #[] #[]] W fun e w'=>e = .returned (.tuple #[]) /\ Below W.heap.size W w':=by
  have HLN:=hid (show Calls Tryz.prog 158 #[.int .u64 0] W fun e w'=>e = .returned (.int .i64 (Lib.bitLen 0 : Nat)) /\ w' = W from by
    have h:=Any.bits_Len (SlLaysF0.n15.bits (P:=Tryz.prog) (ρ:=Tryz.sortParts_ren) { Tryz.sortParts with }) 0 W (by omega) (by omega)
    exact h)
  have HP:=hid (fun n=>pdq_nil n W)
  go_enter Tryz.func272,Tryz.ntmps272
  go_wp2_with fail
  refine HLN.out.mono ?_
  rintro e w' ⟨rfl,rfl⟩
  go_wp2_with fail
  refine (HP.out _).mono ?_
  rintro e w' ⟨rfl,rfl⟩
  go_wp2_with fail
  go_end0
  exact ⟨rfl,Below.refl _ _⟩
theorem compact_is : CompactIs:=fun w0 W g cap D hD h12 hc hcm hs hR=>compact_rw w0 W g cap D hD h12 hc hcm hs hR
theorem vsort_any (b0 o0 cap : Nat) (L : List ByteArray) (aT aB : Addr) (m : Int) (w : World) (S : Vs w aT aB m) (htab : Lib.TabIs Tryz.prog w powName .u64 Lib.pow10Tab) (hL : ∀ j (h : j < L.length),w.cell? ⟨b0,o0 + j,none⟩ = some (.string L[j])) (h12 : L.length <= 1000) (hz : ∀ x,x ∈ L -> x.size <= 80) :
    Calls Tryz.prog 243 #[.slice (some ⟨b0,o0,none⟩) L.length cap] w fun e w'=>∃ v X,e = .returned v /\ w'.ownsRow w.heap.size 9 1 v X.length (X.map Value.string) /\ Kept L L.length X /\ Below w.heap.size w w':=
  vsort_some compact_is sortf_nil compact_nil b0 o0 cap L aT aB m w S htab hL h12 hz
theorem kept_none : Kept [] 0 []:=⟨List.Pairwise.nil,fun t=>by simp [bl]⟩
set_option maxHeartbeats 1000000 in
theorem vsort_none (W : World) : Calls Tryz.prog 243 #[.slice none 0 0] W fun e w'=>e = .returned (.slice none 0 0) /\ Below W.heap.size W w':=by
  have HSN:=hid sortf_nil
  have HCN:=hid compact_nil
  go_enter Tryz.func243,Tryz.ntmps243
  go_wp2_with fail
  go_loop [3,13] (fun v i=>v = .slice none 0 0 /\ i = .int .i64 0) (fun _ _=>0)
  case atStart=>exact ⟨rfl,rfl⟩
  case round=>
    obtain ⟨rfl,rfl⟩:=hrel
    go_wp2_with fail
    refine (HSN.out _).mono ?_
    rintro e w1 ⟨rfl,hb1⟩
    go_wp2_with fail
    refine (HCN.out _).mono ?_
    rintro e w2 ⟨rfl,hb2⟩
    have HB2:=hid (hb1.trans (hb2.mono hb1.size))
    clear hb1 hb2
    go_wp2_with fail
    go_loop [8,35] (fun v i=>v = .slice none 0 0 /\ i = .int .i64 0) (fun _ _=>0)
    case atStart=>exact ⟨rfl,rfl⟩
    case round=>
      obtain ⟨rfl,rfl⟩:=hrel
      go_wp2_with fail
      go_ret
      exact ⟨rfl,HB2.out⟩
def verL (L : List Raw) : List ByteArray:=L.map fun r=>r.1.2
theorem verL_len (L : List Raw) : (verL L).length = L.length:=by simp [verL]
theorem verL_next {L : List Raw} {k : Nat} (hk : k < L.length) : verL (L.take (k + 1)) = verL (L.take k) ++ [L[k].1.2]:=by
  unfold verL
  rw [List.take_succ_eq_append_getElem hk,List.map_append]; rfl
theorem own_nextT {W : World} {B : Nat} {e : TypeId} {v : Value} {X X' : List ByteArray} {x : ByteArray} (h : W.ownsRow B e 1 v (X.length + 1) (X.map Value.string ++ [.string x])) (hl : X' = X ++ [x]) : W.ownsRow B e 1 v X'.length (X'.map Value.string):=by
  subst hl
  rw [List.length_append,List.map_append]
  exact h
set_option maxHeartbeats 4000000 in
set_option maxRecDepth 100000 in
theorem versions_some (L : List Raw) (b o c : Nat) (w : World) (hL : L.length <= 1000) (hs : ∀ r,r ∈ L -> slR r)
    (hc : ∀ j (h : j < L.length),w.cell? ⟨b,o + j * 5,none⟩ = some (.string L[j].1.1) /\ w.cell? ⟨b,o + j * 5 + 1,none⟩ = some (.string L[j].1.2) /\ w.cell? ⟨b,o + j * 5 + 2,none⟩ = some L[j].2.1 /\ w.cell? ⟨b,o + j * 5 + 3,none⟩ = some L[j].2.2.1 /\ w.cell? ⟨b,o + j * 5 + 4,none⟩ = some (.bool L[j].2.2.2))
    (Post : Value -> World -> Prop) (hk : ∀ u W,W.ownsRow w.heap.size 9 1 u (verL L).length ((verL L).map Value.string) -> Below w.heap.size w W -> Calls Tryz.prog 243 #[u] W fun e w'=>∃ x,e = .returned x /\ Post x w') :
    Calls Tryz.prog 211 #[.slice (some ⟨b,o,none⟩) L.length c] w fun e w'=>∃ x,e = .returned x /\ Post x w':=by
  obtain ⟨i0,hi,hz0,hz1,hz2⟩:=info_parts infoStr
  have HC:=hid hc
  have HSL:=hid hs
  have HK:=hid hk
  clear hc hs hk
  go_enter Tryz.func211,Tryz.ntmps211
  go_wp2_with fail
  go_loopw [3,8] (fun ov i wr=>∃ k : Nat,k <= L.length /\ i = .int .i64 k /\ Hid (wr.ownsRow w.heap.size 9 1 ov (verL (L.take k)).length ((verL (L.take k)).map Value.string)) /\ Hid (Below w.heap.size w wr)) (fun _ i _=>L.length - (intOf i).toNat)
  case atStart=>exact ⟨0,Nat.zero_le _,rfl,hid (World.ownsRow_nil _ _ _ _),hid (Below.refl _ _)⟩
  case round=>
    obtain ⟨k,hk,rfl,HO,HB⟩:=hrel
    by_cases hlt : k < L.length
    · obtain ⟨y0,y1,y2,y3,y4⟩:=HC.out k hlt
      have x0:=cell_below HB.out y0
      have x1:=cell_below HB.out y1
      have x2:=cell_below HB.out y2
      have x3:=cell_below HB.out y3
      have x4:=cell_below HB.out y4
      have hsl:=HSL.out L[k] (List.getElem_mem hlt)
      have hkI : (k : Int) < (L.length : Int):=by omega
      have HLT:=hid hlt
      have HY:=hid (verL_next hlt)
      have hln : (verL (L.take k)).length = k:=by rw [verL_len,List.length_take]; omega
      clear y0 y1 y2 y3 y4
      generalize L[k] = x at *
      obtain ⟨⟨p,q⟩,rv,pv,bk⟩:=x
      obtain ⟨⟨ra,rn,rc,hrv⟩,pa,pn,pc,hpv⟩:=hsl
      simp only at hrv hpv
      subst hrv
      subst hpv
      have HBa:=hid (HB.out.alloc HB.out.size (.cells #[.string p,.string q,.slice ra rn rc,.slice pa pn pc,.bool bk] 45))
      have HOa:=hid (HO.out.alloc (.cells #[.string p,.string q,.slice ra rn rc,.slice pa pn pc,.bool bk] 45))
      clear hlt
      have hzz:=HB.out.size
      go_wp2_with (at_builtin; refine wpList_append_own _ rfl _ _ 43 rfl w.heap.size 9 i0 _ 1 16 Tryz.underlying43 hi hz0 hz1 hz2 rfl (by decide) _ _ _ rfl (HOa.out.alloc _) ⟨wr.heap.size + 1,0,none⟩ 1 1 [.string q] rfl rfl ?c1 ?c2 ?c3 ?c4 ?c5 ?_)
      case c2=>rfl
      case c3=>unfold maxLen; omega
      case c4=>omega
      case c5=>omega
      intro v' w3 hown hgrow _
      have HR3:=hid (rel_app HBa.out.size HBa.out HOa.out (Below.refl _ _) hgrow)
      have HO3:=hid hown
      clear hown hgrow x0 x1 x2 x3 x4
      go_wp2_with fail
      go_roundw
      case rel=>exact ⟨k + 1,by have:=HLT.out; omega,by go_num,hid (own_nextT (X:=verL (L.take k)) (by rw [hln]; exact HO3.out) HY.out),HR3⟩
      case measure=>have:=HLT.out; simp [intOf]; omega
    · have HTR:=hid (show L.take k = L from List.take_of_length_le (by omega))
      rw [HTR.out] at HO
      have hkI : ¬ (k : Int) < (L.length : Int):=by omega
      have HKK:=hid (HK.out _ _ HO.out HB.out)
      clear hlt
      go_wp2_with fail
      refine HKK.out.mono ?_
      rintro e w1 ⟨x,rfl,hp⟩
      have HP:=hid hp
      clear hp
      go_wp2_with fail
      go_ret
      exact ⟨_,rfl,HP.out⟩
theorem versions_none (a : Option Addr) (c : Nat) (w : World)
    (Post : Value -> World -> Prop) (hk : Calls Tryz.prog 243 #[.slice none 0 0] w fun e w'=>∃ x,e = .returned x /\ Post x w') :
    Calls Tryz.prog 211 #[.slice a 0 c] w fun e w'=>∃ x,e = .returned x /\ Post x w':=by
  have HK:=hid hk
  clear hk
  go_enter Tryz.func211,Tryz.ntmps211
  go_wp2_with fail
  go_loopw [3,8] (fun ov i wr=>ov = .slice none 0 0 /\ i = .int .i64 0 /\ wr = w) (fun _ i _=>0)
  case atStart=>exact ⟨rfl,rfl,rfl⟩
  case round=>
    obtain ⟨rfl,rfl,rfl⟩:=hrel
    go_wp2_with fail
    refine HK.out.mono ?_
    rintro e w1 ⟨x,rfl,hp⟩
    have HP:=hid hp
    clear hp
    go_wp2_with fail
    go_ret
    exact ⟨_,rfl,HP.out⟩
theorem versions_any (L : List Raw) (v : Value) (aT aB : Addr) (m : Int) (w : World) (hL : L.length <= 1000) (hz : ∀ r,r ∈ L -> r.1.2.size <= 80) (S : Vs w aT aB m) (htab : Lib.TabIs Tryz.prog w powName .u64 Lib.pow10Tab) (hv : EsAt w v L) :
    Calls Tryz.prog 211 #[v] w fun e w'=>∃ u,e = .returned u /\ ∃ X,w'.ownsRow w.heap.size 9 1 u X.length (X.map Value.string) /\ Kept (verL L) (verL L).length X /\ Below w.heap.size w w':=by
  obtain ⟨a,c,rfl,_,hs,h⟩:=hv
  cases L with
  | nil=>exact versions_none a c w (fun u w'=>∃ X,w'.ownsRow w.heap.size 9 1 u X.length (X.map Value.string) /\ Kept (verL []) (verL []).length X /\ Below w.heap.size w w') ((vsort_none w).mono fun e w' ⟨h1,h2⟩=>⟨_,h1,[],World.ownsRow_nil _ _ _ _,kept_none,h2⟩)
  | cons x r=>
    obtain ⟨b,o,rfl,h2⟩:=h (by simp)
    refine versions_some (x :: r) b o c w hL hs h2 (fun u w'=>∃ X,w'.ownsRow w.heap.size 9 1 u X.length (X.map Value.string) /\ Kept (verL (x :: r)) (verL (x :: r)).length X /\ Below w.heap.size w w') fun u W ho hb=>?_
    obtain ⟨a',c',rfl,_,h3⟩:=own_tx ho
    obtain ⟨b',o',rfl,h4⟩:=h3 (by simp [verL])
    refine (vsort_any b' o' c' (verL (x :: r)) aT aB m W (S.below hb) (tab_below htab hb) h4 (by rw [verL_len]; exact hL) (fun y hy=>?_)).mono ?_
    · obtain ⟨r',hr',rfl⟩:=List.mem_map.1 hy
      exact hz r' hr'
    · rintro e w' ⟨u,X,rfl,h5,h6,h7⟩
      exact ⟨u,rfl,X,own_baseN h5 hb.size,h6,hb.trans (h7.mono hb.size)⟩
theorem good_of {w : World} {v : Value} {Q : List Raw} {L : List Ent} (I : Ixs w v Q L) (h : (chk Q L).1 = 0) : Good Q:=by
  obtain ⟨_,he⟩:=chk_each0 h
  have hm : ∀ i (hi : i < Q.length),Q[i].1 = (L[i]'(by rw [<- I.ln]; exact hi)).1:=fun i hi=>(I.ok i hi (by rw [<- I.ln]; exact hi)).m
  have hz : ∀ i (hi : i < Q.length),pathErr Q[i].1.1.data.toList = 0 /\ verErr Q[i].1.2.data.toList = 0:=fun i hi=>by
    rw [hm i hi]; exact mErr_zero (entE_mod _ (he i (by rw [<- I.ln]; exact hi)))
  refine ⟨fun r hr=>?_,fun r hr=>?_,?_⟩
  · obtain ⟨i,hi,rfl⟩:=List.getElem_of_mem hr
    exact (hz i hi).2
  · obtain ⟨i,hi,rfl⟩:=List.getElem_of_mem hr
    exact (hz i hi).1
  · have key : ∀ i j (hi : i < Q.length) (hj : j < Q.length),i < j -> Q[i].1 ≠ Q[j].1:=fun i j hi hj hij e=>by
      have ha:=ahead_all he (j - i - 1) i (by rw [<- I.ln]; omega)
      have hjj : i + (j - i - 1) + 1 = j:=by omega
      simp only [hjj] at ha
      rw [<- hm i hi,<- hm j hj,e,mAhead_irr] at ha
      cases ha
    intro i j hi hj e
    rcases Nat.lt_trichotomy i j with h1 | h1 | h1
    · exact absurd e (key i j hi hj h1)
    · exact h1
    · exact absurd e.symm (key j i hj hi h1)
def ofP (t : ByteArray) (L : List Raw) : List Raw:=L.filter (isP t)
theorem ofP_len (t : ByteArray) (L : List Raw) : (ofP t L).length <= L.length:=List.length_filter_le _ _
theorem bestR_sub {L : List Raw} {r : Raw} (h : r ∈ bestR L) : r ∈ L:=by
  unfold bestR at h
  split at h
  · exact (List.mem_filter.1 (List.mem_filter.1 h).1).1
  · split at h
    · exact (List.mem_filter.1 h).1
    · exact h
theorem bestR_len (L : List Raw) : (bestR L).length <= L.length:=by
  unfold bestR
  split
  · exact Nat.le_trans (List.length_filter_le _ _) (List.length_filter_le _ _)
  · split
    · exact List.length_filter_le _ _
    · exact Nat.le_refl _
def lastT (X : List ByteArray) : ByteArray:=X.getLast?.getD ⟨#[]⟩
theorem lastT_get {X : List ByteArray} (h : 0 < X.length) : lastT X = X[X.length - 1]:=by
  unfold lastT
  rw [List.getLast?_eq_getElem?,List.getElem?_eq_getElem (by omega)]; rfl
theorem own_max {W : World} {B n k : Nat} {e : TypeId} {v : Value} {xs : List Value} (h : W.ownsRow B e k v n xs) : n <= maxLen:=by
  obtain ⟨_,⟨hv,hn0⟩ | ⟨g,cap,cur,hv,hg,hblk,hcap,hcm,hcs,hct⟩⟩:=h
  · rw [hn0]; exact Nat.zero_le _
  · exact Nat.le_trans hcap hcm
set_option maxRecDepth 100000 in
set_option maxHeartbeats 2000000 in
theorem ibest_any (L : List Raw) (t : ByteArray) (v : Value) (aT aB : Addr) (m : Int) (w : World) (hL : L.length <= 1000) (hz : ∀ r,r ∈ L -> r.1.1.size <= 80 /\ r.1.2.size <= 80) (S : Vs w aT aB m) (htab : Lib.TabIs Tryz.prog w powName .u64 Lib.pow10Tab) (hv : EsAt w v L) :
    Calls Tryz.prog 175 #[v,.string t] w fun e w'=>∃ u,e = .returned u /\ ∃ X,w'.ownsRow w.heap.size 9 1 u X.length (X.map Value.string) /\ Kept (verL (bestR (ofP t L))) (verL (bestR (ofP t L))).length X /\ Below w.heap.size w w':=by
  obtain ⟨a,c,rfl,_⟩:=id hv
  have hsh : shortR L:=fun r hr=>⟨by have:=(hz r hr).1; omega,by have:=(hz r hr).2; omega⟩
  have HP:=hid (ofPath_any L t _ aT aB m w (by omega) hsh S hv)
  have HSH:=hid (hsh.filter (isP t))
  have HZ:=hid hz
  have HS:=hid S
  have HT:=hid htab
  have hll:=ofP_len t L
  have hlb:=bestR_len (ofP t L)
  clear hv S htab hz hsh
  go_enter Tryz.func175,Tryz.ntmps175
  go_wp2_with fail
  refine HP.out.mono ?_
  rintro e w1 ⟨v1,rfl,he,hb⟩
  have HBE:=hid (best_any (ofP t L) v1 aT aB m w1 (by omega) HSH.out (HS.out.below hb) he)
  have HB:=hid hb
  obtain ⟨a1,c1,rfl,_⟩:=he
  clear hb
  go_wp2_with fail
  refine HBE.out.mono ?_
  rintro e w2 ⟨v2,rfl,he,hb⟩
  have HB2:=hid (HB.out.trans (hb.mono HB.out.size))
  have HV:=hid (versions_any (bestR (ofP t L)) v2 aT aB m w2 (by omega) (fun r hr=>(HZ.out r (List.mem_filter.1 (bestR_sub hr)).1).2) (HS.out.below HB2.out) (tab_below HT.out HB2.out) he)
  obtain ⟨a2,c2,rfl,_⟩:=he
  clear hb
  go_wp2_with fail
  refine HV.out.mono ?_
  rintro e w3 ⟨u,rfl,X,h1,h2,h3⟩
  obtain ⟨ua,uc,hu⟩:=own_slN h1
  subst hu
  have HR:=hid (⟨own_baseN h1 HB2.out.size,h2,HB2.out.trans (h3.mono HB2.out.size)⟩ : _ /\ _ /\ Below w.heap.size w w3)
  clear h1 h2 h3
  go_wp2_with fail
  go_ret
  exact ⟨_,rfl,X,HR.out⟩
set_option maxRecDepth 100000 in
set_option maxHeartbeats 4000000 in
theorem latest_any (L : List Raw) (t : ByteArray) (v : Value) (aT aB : Addr) (m : Int) (w : World) (hL : L.length <= 1000) (hz : ∀ r,r ∈ L -> r.1.1.size <= 80 /\ r.1.2.size <= 80) (S : Vs w aT aB m) (htab : Lib.TabIs Tryz.prog w powName .u64 Lib.pow10Tab) (hv : EsAt w v L) :
    Calls Tryz.prog 131 #[v,.string t] w fun e w'=>∃ X,e = .returned (.string (lastT X)) /\ Kept (verL (bestR (ofP t L))) (verL (bestR (ofP t L))).length X /\ Below w.heap.size w w':=by
  obtain ⟨a,c,rfl,_⟩:=id hv
  have HP:=hid (ibest_any L t _ aT aB m w hL hz S htab hv)
  clear hv S htab hz
  go_enter Tryz.func131,Tryz.ntmps131
  go_wp2_with fail
  refine HP.out.mono ?_
  rintro e w3 ⟨u,rfl,X,h1,h2,h3⟩
  obtain ⟨ua,uc,hu,_,hcell⟩:=own_tx h1
  subst hu
  have HR:=hid (⟨h2,h3⟩ : _ /\ Below w.heap.size w w3)
  have HCC:=hid hcell
  have hmx:=own_max h1
  clear h1 h2 h3 hcell
  by_cases hX : 0 < X.length
  · obtain ⟨b,o,rfl,hcc⟩:=HCC.out (by intro h; rw [h] at hX; simp at hX)
    have hlast:=hcc (X.length - 1) (by omega)
    have HLT:=hid (lastT_get hX)
    rw [<- HLT.out] at hlast
    have hne : ((X.length : Int) == 0) = false:=by rw [beq_eq_false_iff_ne]; omega
    have hx1 : (X.length : Int) - 1 = ((X.length - 1 : Nat) : Int):=by omega
    have hx2 : ((X.length - 1 : Nat) : Int) < (X.length : Int):=by omega
    have hw64 : wrap64 ((X.length - 1 : Nat) : Int) = ((X.length - 1 : Nat) : Int):=IntWalk.wrap64_in _ (by unfold maxLen at hmx; omega)
    have htn : ((X.length - 1 : Nat) : Int).toNat = X.length - 1:=Int.toNat_natCast _
    clear hcc
    go_wp2_with fail
    go_ret
    exact ⟨X,rfl,HR.out⟩
  · have hx0 : X = []:=List.eq_nil_of_length_eq_zero (by omega)
    subst hx0
    go_wp2_with fail
    go_ret
    exact ⟨[],rfl,HR.out⟩
theorem Good.ofP {Q : List Raw} (g : Good Q) (t : ByteArray) : ofP t Q = Q.filter fun r=>decide (r.1.1 = t):=by
  unfold Ve.ofP
  refine List.filter_congr fun r hr=>?_
  unfold isP
  rw [decide_eq_true (g.ver r hr),Bool.and_true]
theorem Good.ofP_mem {Q : List Raw} (g : Good Q) {t : ByteArray} {r : Raw} : r ∈ Ve.ofP t Q ↔ r ∈ Q /\ r.1.1 = t:=by
  rw [g.ofP t,List.mem_filter,decide_eq_true_iff]
theorem kept_mem {L X : List ByteArray} (hK : Kept L L.length X) (hv : ∀ x,x ∈ L -> verErr x.data.toList = 0) (t : List UInt8) : t ∈ bl X ↔ t ∈ bl L:=by
  have:=hK.2 t
  rw [List.take_length] at this
  rw [this]
  constructor
  · exact fun h=>h.1
  · intro h
    refine ⟨h,?_⟩
    obtain ⟨x,hx,rfl⟩:=List.mem_map.1 h
    exact hv x hx
theorem verL_ok {Q R : List Raw} (g : Good Q) (hR : ∀ r,r ∈ R -> r ∈ Q) : ∀ x,x ∈ verL R -> verErr x.data.toList = 0:=fun x hx=>by
  obtain ⟨r,hr,rfl⟩:=List.mem_map.1 hx
  exact g.ver r (hR r hr)
theorem ofP_sub {Q : List Raw} {t : ByteArray} : ∀ r,r ∈ ofP t Q -> r ∈ Q:=fun _ hr=>(List.mem_filter.1 hr).1
theorem kept_has {Q R : List Raw} (g : Good Q) (hR : ∀ r,r ∈ R -> r ∈ Q) {X : List ByteArray} (hK : Kept (verL R) (verL R).length X) {x : ByteArray} (hx : x ∈ X) : ∃ r,r ∈ R /\ r.1.2 = x:=by
  have h1 : x.data.toList ∈ bl X:=List.mem_map.2 ⟨x,hx,rfl⟩
  obtain ⟨y,hy,e⟩:=List.mem_map.1 ((kept_mem hK (verL_ok g hR) _).1 h1)
  obtain ⟨r,hr,rfl⟩:=List.mem_map.1 hy
  exact ⟨r,hr,str_ext e⟩
theorem kept_in {Q R : List Raw} (g : Good Q) (hR : ∀ r,r ∈ R -> r ∈ Q) {X : List ByteArray} (hK : Kept (verL R) (verL R).length X) {r : Raw} (hr : r ∈ R) : r.1.2 ∈ X:=by
  have h1 : r.1.2.data.toList ∈ bl (verL R):=List.mem_map.2 ⟨r.1.2,List.mem_map.2 ⟨r,hr,rfl⟩,rfl⟩
  obtain ⟨y,hy,e⟩:=List.mem_map.1 ((kept_mem hK (verL_ok g hR) _).2 h1)
  rw [<- str_ext e]; exact hy
theorem bestR_ne {L : List Raw} (h : L ≠ []) : bestR L ≠ []:=by
  unfold bestR
  split
  · rename_i h1; intro e; rw [e] at h1; simp at h1
  · split
    · rename_i h1; intro e; rw [e] at h1; simp at h1
    · exact h
theorem kept_last {Q R : List Raw} (g : Good Q) (hR : ∀ r,r ∈ R -> r ∈ Q) (hne : R ≠ []) {X : List ByteArray} (hK : Kept (verL R) (verL R).length X) :
    (∃ r,r ∈ R /\ r.1.2 = lastT X) /\ ∀ s,s ∈ R -> ¬ ordV (lastT X).data.toList s.1.2.data.toList < 0:=by
  have hX : 0 < X.length:=by
    obtain ⟨r,hr⟩:=List.exists_mem_of_ne_nil R hne
    exact List.length_pos_of_mem (kept_in g hR hK hr)
  have hl:=lastT_get hX
  refine ⟨?_,fun s hs h=>?_⟩
  · rw [hl]; exact kept_has g hR hK (List.getElem_mem _)
  · have hin:=kept_in g hR hK hs
    obtain ⟨j,hj,e⟩:=List.getElem_of_mem hin
    have hr:=hK.1
    unfold rises at hr
    have hbl : (bl X).length = X.length:=bl_len X
    rw [hl,<- e] at h
    by_cases hjl : j = X.length - 1
    · subst hjl; exact ordV_irr h h
    · have h2:=List.pairwise_iff_getElem.1 hr j (X.length - 1) (by omega) (by omega) (by omega)
      have g1 : (bl X)[j]'(by omega) = X[j].data.toList:=by simp [bl]
      have g2 : (bl X)[X.length - 1]'(by omega) = (X[X.length - 1]'(by omega)).data.toList:=by simp [bl]
      rw [g1,g2] at h2
      exact ordV_irr h h2
structure Top (Q : List Raw) (t top : ByteArray) (at_ : Nat) : Prop where
  lt : at_ < Q.length
  idx : idxOf (isM (t,top)) Q = (at_ : Int)
  ver : verErr top.data.toList = 0
  no : ∀ s,s ∈ ofP t Q -> (!s.2.2.2 || (Q[at_]'lt).2.2.2) = true -> (decide ((preOf s.1.2.data.toList).length = 0) || (decide (0 < (preOf top.data.toList).length) || (Q[at_]'lt).2.2.2)) = true -> lessB top.data.toList s.1.2.data.toList = false
structure One (Q : List Raw) (t v : ByteArray) (n : Nat) : Prop where
  lt : n < Q.length
  idx : idxOf (isM (t,v)) Q = (n : Int)
  ver : verErr v.data.toList = 0
  mem : Q[n]'lt ∈ ofP t Q
  same : (Q[n]'lt).1.2 = v
set_option maxHeartbeats 2000000 in
theorem eqS_len (a a' : Option Addr) (n n' c c' : Nat) (w : World) (h : n ≠ n') : Calls Tryz.prog 89 #[.slice a n c,.slice a' n' c'] w fun e w'=>e = .returned (.bool false) /\ Below w.heap.size w w':=by
  have h1 : ¬ (n : Int) = (n' : Int):=by omega
  have h2 : ((n : Int) == (n' : Int)) = false:=by simp; omega
  go_enter Tryz.func89,Tryz.ntmps89
  go_wp2_with fail
  go_ret
  exact ⟨rfl,Below.refl _ _⟩
set_option maxHeartbeats 2000000 in
theorem eqS_some (L M : List Bm) (b o c b' o' c' : Nat) (w : World) (hn : L.length ≤ 1000000) (hl : M.length = L.length)
    (hc : ∀ j (h : j < L.length),w.cell? ⟨b,o + j * 2,none⟩ = some (.string L[j].1) /\ w.cell? ⟨b,o + j * 2 + 1,none⟩ = some (.string L[j].2))
    (hd : ∀ j (h : j < M.length),w.cell? ⟨b',o' + j * 2,none⟩ = some (.string M[j].1) /\ w.cell? ⟨b',o' + j * 2 + 1,none⟩ = some (.string M[j].2)) :
    Calls Tryz.prog 89 #[.slice (some ⟨b,o,none⟩) L.length c,.slice (some ⟨b',o',none⟩) L.length c'] w fun e w'=>e = .returned (.bool (decide (L = M))) /\ Below w.heap.size w w':=by
  have HC:=hid hc
  have HD:=hid hd
  have hgd:=modGuard
  have HX:=hid (show (∀ j (h : j < L.length) (h' : j < M.length),L[j] = M[j]) -> decide (L = M) = true from fun h=>decide_eq_true (List.ext_getElem hl.symm (fun j h1 h2=>h j h1 h2)))
  have HY:=hid (show ∀ j (h : j < L.length) (h' : j < M.length),L[j] ≠ M[j] -> decide (L = M) = false from fun j h h' hne=>decide_eq_false (fun e=>hne (by subst e; rfl)))
  generalize decide (L = M) = z at *
  clear hc hd
  go_enter Tryz.func89,Tryz.ntmps89
  go_wp2_with fail
  go_loopw [13] (fun i wr=>∃ k : Nat,k <= L.length /\ i = .int .i64 k /\ Hid (∀ j (h : j < L.length) (h' : j < M.length),j < k -> L[j] = M[j]) /\ Hid (Below w.heap.size w wr)) (fun i _=>L.length - (intOf i).toNat)
  case atStart=>exact ⟨0,Nat.zero_le _,rfl,hid (fun j _ _ hj=>absurd hj (Nat.not_lt_zero _)),hid (Below.refl _ _)⟩
  case round=>
    obtain ⟨k,hk,rfl,HE,HB⟩:=hrel
    by_cases hlt : k < L.length
    · have hlm : k < M.length:=by omega
      have hx:=cell_below HB.out (HC.out k hlt).1
      have hy:=cell_below HB.out (HC.out k hlt).2
      have hx':=cell_below HB.out (HD.out k hlm).1
      have hy':=cell_below HB.out (HD.out k hlm).2
      have hne:=fun W=>modNeq L[k].1 L[k].2 M[k].1 M[k].2 W
      have hkI : (k : Int) < (L.length : Int):=by omega
      have HLT:=hid hlt
      have HN:=hid (show L[k] = M[k] -> ∀ j (h : j < L.length) (h' : j < M.length),j < k + 1 -> L[j] = M[j] from fun h0 j h1 h2 h3=>by
        rcases Nat.lt_or_ge j k with h | h
        · exact HE.out j h1 h2 h
        · have : j = k:=by omega
          subst this; exact h0)
      have HYK:=hid (HY.out k hlt hlm)
      generalize L[k] = x at *
      generalize M[k] = y at *
      obtain ⟨x1,x2⟩:=x
      obtain ⟨y1,y2⟩:=y
      simp only at hx hy hx' hy' hne
      clear hlt hlm
      by_cases he : x1 = y1 /\ x2 = y2
      · rw [decide_eq_true he] at hne
        have HN2:=hid (HN.out (Prod.ext he.1 he.2))
        clear he HN
        go_wp2_with fail
        go_quiet (fail)
        go_wp2_with fail
        go_roundw
        case rel=>first | exact ⟨k + 1,HLT.out,nr_idx k,HN2,hid (below_drawn_of HB.out _)⟩ | exact ⟨k + 1,HLT.out,nx_idx HLT.out hn,HN2,hid (below_drawn_of HB.out _)⟩
        case measure=>first | exact nr_meas HLT.out | exact nx_meas HLT.out hn
      · rw [decide_eq_false he] at hne
        have HZ:=hid (HYK.out (fun e=>he (by injection e with e1 e2; exact ⟨e1,e2⟩)))
        clear he HN
        go_wp2_with fail
        go_quiet (fail)
        go_wp2_with fail
        go_ret
        exact ⟨by rw [HZ.out]; rfl,below_drawn_of HB.out _⟩
    · have hkI : ¬ (k : Int) < (L.length : Int):=by omega
      have HZ:=hid (HX.out (fun j h h'=>HE.out j h h' (by omega)))
      go_wp2_with fail
      go_ret
      exact ⟨by rw [HZ.out]; rfl,HB.out⟩
theorem eqS_none (a a' : Option Addr) (c c' : Nat) (w : World) : Calls Tryz.prog 89 #[.slice a 0 c,.slice a' 0 c'] w fun e w'=>e = .returned (.bool true) /\ Below w.heap.size w w':=by
  go_enter Tryz.func89,Tryz.ntmps89
  go_wp2_with fail
  go_loopw [13] (fun i wr=>i = .int .i64 0 /\ wr = w) (fun i _=>0)
  case atStart=>exact ⟨rfl,rfl⟩
  case round=>
    obtain ⟨rfl,rfl⟩:=hrel
    go_wp2_with fail
    go_ret
    exact ⟨rfl,Below.refl _ _⟩
theorem eqS_any (L M : List Bm) (v u : Value) (w : World) (hn : L.length <= 1000000) (hv : MsAt w v L) (hu : MsAt w u M) : Calls Tryz.prog 89 #[v,u] w fun e w'=>e = .returned (.bool (decide (L = M))) /\ Below w.heap.size w w':=by
  obtain ⟨a,c,rfl,_,h⟩:=hv
  obtain ⟨a',c',rfl,_,h'⟩:=hu
  by_cases hl : M.length = L.length
  · cases L with
    | nil=>
      have : M = []:=List.length_eq_zero_iff.1 hl
      subst this
      exact eqS_none a a' c c' w
    | cons x r=>
      obtain ⟨b,o,rfl,h2⟩:=h (by simp)
      obtain ⟨b',o',rfl,h3⟩:=h' (fun e=>by rw [e] at hl; simp at hl)
      rw [hl]
      exact eqS_some (x :: r) M b o c b' o' c' w hn hl h2 h3
  · rw [decide_eq_false (fun e=>hl (by rw [e]))]
    exact eqS_len a a' _ _ c c' w (fun e=>hl e.symm)
theorem bX_sl (Q : List Raw) (L : List Ent) (roots : List Bm) : Sl L (bX Q L roots):=⟨(bX_jn Q L roots).ri,bX_univ⟩
abbrev KeptT (Q : List Raw) (t : ByteArray) (X : List ByteArray) : Prop:=Kept (verL (bestR (ofP t Q))) (verL (bestR (ofP t Q))).length X
open Classical in
noncomputable def latV (Q : List Raw) (t : ByteArray) : ByteArray:=if h : ∃ X,KeptT Q t X then lastT h.choose else ⟨#[]⟩
theorem latV_of {Q : List Raw} {t : ByteArray} {X : List ByteArray} (h : KeptT Q t X) : lastT X = latV Q t:=by
  have he : ∃ X,KeptT Q t X:=⟨X,h⟩
  unfold latV
  rw [dif_pos he,kept_one h he.choose_spec]
noncomputable def latL (Q : List Raw) (E : List Bm) : List Bm:=E.map fun m=>(m.1,latV Q m.1)
theorem latL_len (Q : List Raw) (E : List Bm) : (latL Q E).length = E.length:=by simp [latL]
def LatIn (Q : List Raw) (L : List Ent) (E : List Bm) : Prop:=∀ m,m ∈ E -> (m.1,latV Q m.1) ∈ univ L
theorem lat_in {w : World} {v : Value} {Q : List Raw} {L : List Ent} {t : ByteArray} {X : List ByteArray} (I : Ixs w v Q L) (hc : (chk Q L).1 = 0) (ht : ∃ m,m ∈ univ L /\ m.1 = t) (hK : KeptT Q t X) : (t,latV Q t) ∈ univ L:=by
  have g:=good_of I hc
  obtain ⟨m,hm,e⟩:=ht
  rw [<- univ_eq I] at hm
  obtain ⟨r0,hr0,rfl⟩:=List.mem_map.1 hm
  have hne : ofP t Q ≠ []:=List.ne_nil_of_mem (g.ofP_mem.2 ⟨hr0,e⟩)
  have hsub : ∀ r,r ∈ bestR (ofP t Q) -> r ∈ Q:=fun r hr=>ofP_sub r (bestR_sub hr)
  obtain ⟨⟨r,hr,er⟩,-⟩:=kept_last g hsub (bestR_ne hne) hK
  have hrq:=g.ofP_mem.1 (bestR_sub hr)
  rw [<- univ_eq I,<- latV_of hK]
  exact List.mem_map.2 ⟨r,hrq.1,Prod.ext hrq.2 er⟩
noncomputable def upF (Q : List Raw) (L : List Ent) (E : List Bm) : List Bm:=bX Q L (E ++ latL Q E)
theorem latL_in {Q : List Raw} {L : List Ent} {E : List Bm} (h : LatIn Q L E) : ∀ m,m ∈ latL Q E -> m ∈ univ L:=fun m hm=>by
  obtain ⟨x,hx,rfl⟩:=List.mem_map.1 hm
  exact h x hx
theorem upG {w : World} {v : Value} {Q : List Raw} {L : List Ent} {E : List Bm} (I : Ixs w v Q L) (hc : (chk Q L).1 = 0) (hE : Sl L E) (hl : LatIn Q L E) : (chkG Q L (E ++ latL Q E)).1 = 0:=
  chkG_in I hc fun m hm=>by
    rcases List.mem_append.1 hm with h | h
    · exact hE.un m h
    · exact latL_in hl m h
theorem up_over {w : World} {v : Value} {Q : List Raw} {L : List Ent} {E : List Bm} (I : Ixs w v Q L) (hc : (chk Q L).1 = 0) (hE : Sl L E) (hl : LatIn Q L E) : undB E (upF Q L E) = true:=
  bX_over I (upG I hc hE hl) fun _ hm=>.root (List.mem_append_left _ hm)
theorem hasV_trans {Q : List Raw} {L : List Ent} {E F : List Bm} (hc : (chk Q L).1 = 0) (hE : Sl L E) (hF : Sl L F) (hu : undB E F = true) {m : Bm} (hm : m ∈ univ L) (h : hasV E m = true) : hasV F m = true:=by
  obtain ⟨x,h1,h2⟩:=hasV_iff.1 h
  obtain ⟨hx,hp⟩:=atP_mem h1
  have rt:=univ_right hc
  exact hasV_up (fun y hy=>rt y (hF.un y hy)) (rt m hm) (rt x (hE.un x hx)) hp ((less_le (rt x (hE.un x hx)) (rt m hm)).1 h2) (List.all_eq_true.1 hu x hx)
theorem undB_trans {Q : List Raw} {L : List Ent} {D E F : List Bm} (hc : (chk Q L).1 = 0) (hD : Sl L D) (hE : Sl L E) (hF : Sl L F) (h1 : undB D E = true) (h2 : undB E F = true) : undB D F = true:=by
  unfold undB
  rw [List.all_eq_true]
  intro m hm
  exact hasV_trans hc hE hF h2 (hD.un m hm) (List.all_eq_true.1 h1 m hm)
theorem undB_refl {Q : List Raw} {L : List Ent} {E : List Bm} (hc : (chk Q L).1 = 0) (hE : Sl L E) : undB E E = true:=by
  unfold undB
  rw [List.all_eq_true]
  intro m hm
  exact hasV_of hE.ri hm rfl (ordV_selfJ (univ_right hc m (hE.un m hm)))
theorem over_more {Q : List Raw} {L : List Ent} {E F : List Bm} (hc : (chk Q L).1 = 0) (hE : Sl L E) (hF : Sl L F) (hu : undB E F = true) (hne : F ≠ E) : ∃ m,m ∈ univ L /\ hasV F m = true /\ hasV E m = false:=by
  have rt:=univ_right hc
  by_cases hs : ∀ m,m ∈ F -> m ∈ E
  · refine absurd (rising_ext hF.ri hE.ri fun m=>⟨hs m,fun hm=>?_⟩) hne
    obtain ⟨x,h1,h2⟩:=hasV_iff.1 (List.all_eq_true.1 hu m hm)
    obtain ⟨hx,hp⟩:=atP_mem h1
    have:=rising_same hE.ri (hs x hx) hm hp
    rw [<- this]; exact hx
  · obtain ⟨m,hm⟩:=Classical.not_forall.1 hs
    obtain ⟨hm,hn⟩ : m ∈ F /\ ¬ m ∈ E:=by
      by_cases h : m ∈ F
      · exact ⟨h,fun h2=>hm fun _=>h2⟩
      · exact absurd (fun h2=>absurd h2 h) hm
    refine ⟨m,hF.un m hm,hasV_of hF.ri hm rfl (ordV_selfJ (rt m (hF.un m hm))),?_⟩
    cases hb : hasV E m
    · rfl
    · obtain ⟨b,h1,h2⟩:=hasV_iff.1 hb
      obtain ⟨hbE,hbp⟩:=atP_mem h1
      obtain ⟨f,h3,h4⟩:=hasV_iff.1 (List.all_eq_true.1 hu b hbE)
      obtain ⟨hfF,hfp⟩:=atP_mem h3
      have : f = m:=rising_same hF.ri hfF hm (hfp.trans hbp)
      subst this
      have r1:=rt b (hE.un b hbE)
      have r2:=rt f (hF.un f hm)
      have : b = f:=ver_same r1 r2 hbp ((less_le r2 r1).1 h4) ((less_le r1 r2).1 h2)
      subst this
      exact absurd hbE hn
def cntV (L : List Ent) (E : List Bm) : Nat:=((univ L).filter (hasV E)).length
theorem cntV_le (L : List Ent) (E : List Bm) : cntV L E <= L.length:=by
  have:=List.length_filter_le (hasV E) (univ L)
  rw [univ_len] at this
  exact this
theorem filter_lt {α : Type} {p q : α → Bool} : ∀ {l : List α}, (∀ x, x ∈ l → p x = true → q x = true) → (∃ x, x ∈ l ∧ q x = true ∧ p x = false) → (l.filter p).length < (l.filter q).length
  | [],_,⟨x,hx,_⟩=>by cases hx
  | a :: l, h, ⟨x, hx, h1, h2⟩ => by
    have hl : ∀ x,x ∈ l -> p x = true -> q x = true:=fun x hx=>h x (List.mem_cons_of_mem _ hx)
    have hle : (l.filter p).length <= (l.filter q).length:=by
      clear h hx h1 h2
      induction l with
      | nil=>exact Nat.le_refl _
      | cons b l ih=>
        have ih:=ih (fun x hx=>hl x (List.mem_cons_of_mem _ hx))
        rw [List.filter_cons,List.filter_cons]
        cases hp : p b
        · cases hq : q b <;> simp <;> omega
        · rw [hl b (by simp) hp]; simpa using ih
    rw [List.filter_cons,List.filter_cons]
    rcases List.mem_cons.1 hx with rfl | hx
    · rw [h1,h2]; simp; omega
    · have ih:=filter_lt hl ⟨x,hx,h1,h2⟩
      cases hp : p a
      · cases hq : q a <;> simp <;> omega
      · rw [h a (by simp) hp]; simpa using ih
theorem cntV_lt {Q : List Raw} {L : List Ent} {E F : List Bm} (hc : (chk Q L).1 = 0) (hE : Sl L E) (hF : Sl L F) (hu : undB E F = true) (hne : F ≠ E) : cntV L E < cntV L F:=by
  obtain ⟨m,h1,h2,h3⟩:=over_more hc hE hF hu hne
  exact filter_lt (fun x hx h=>hasV_trans hc hE hF hu hx h) ⟨m,h1,h2,h3⟩
noncomputable def upN (Q : List Raw) (L : List Ent) (E : List Bm) : Nat -> List Bm
  | 0=>E
  | n + 1=>upF Q L (upN Q L E n)
theorem upN_app (Q : List Raw) (L : List Ent) (E : List Bm) (a : Nat) : ∀ b,upN Q L (upN Q L E a) b = upN Q L E (a + b)
  | 0=>rfl
  | b + 1=>by
    show upF Q L (upN Q L (upN Q L E a) b) = upF Q L (upN Q L E (a + b))
    rw [upN_app Q L E a b]
theorem upN_fix {Q : List Raw} {L : List Ent} {E : List Bm} (h : upF Q L E = E) : ∀ n,upN Q L E n = E
  | 0=>rfl
  | n + 1=>by show upF Q L (upN Q L E n) = E; rw [upN_fix h n,h]
structure Fix (Q : List Raw) (L : List Ent) (E0 E : List Bm) : Prop where
  n : ∃ n,E = upN Q L E0 n
  f : upF Q L E = E
theorem Fix.one {Q : List Raw} {L : List Ent} {E0 E F : List Bm} (hE : Fix Q L E0 E) (hF : Fix Q L E0 F) : E = F:=by
  obtain ⟨a,ha⟩:=hE.n
  obtain ⟨b,hb⟩:=hF.n
  rcases Nat.le_total a b with h | h
  · obtain ⟨d,rfl⟩:=Nat.exists_eq_add_of_le h
    rw [hb,<- upN_app,<- ha,upN_fix hE.f]
  · obtain ⟨d,rfl⟩:=Nat.exists_eq_add_of_le h
    rw [ha,<- upN_app,<- hb,upN_fix hF.f]
end Ve
end Go.Proofs.YtlcffhadobhfkaaGreatDoor
