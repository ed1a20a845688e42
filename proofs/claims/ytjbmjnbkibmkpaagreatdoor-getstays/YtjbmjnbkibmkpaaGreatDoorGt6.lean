
import Derived.Test.YtjbmjnbkibmkpaaGreatDoorGt5
import Derived.OwnWalk
import Derived.Deep.AppendLies
import Derived.Test.YtjbmjnbkibmkpaaGreatDoorGt2
import Derived.Laws.AppendOwnNone
import Derived.Lib.SmallJoins
set_option maxHeartbeats 8000000
namespace Go.Proofs.YtjbmjnbkibmkpaaGreatDoor
open Go.RowKit
namespace Ve
theorem mpath_is (s : ByteArray) (A : Nat -> Addr) (m : Int) (w : World) (hs : s.size < 4294967281) (S : Te w A m) :
  Calls Tryz.prog 36 #[.string s] w fun e w'=>e = .returned (errA A (pathErr s.data.toList)) /\ Below w.heap.size w w':=by
 have HP:=hid (readPath_any s A m w hs S)
 clear S
 go_enter Tryz.func36,Tryz.ntmps36
 go_wp2_with fail
 refine HP.out.mono ?_
 rintro e w1 ⟨⟨H,n,v,rfl,hv,_,_⟩,hb⟩
 have HV:=hid hv
 have HB:=hid hb
 clear hb hv
 go_wp2_with fail
 go_ret
 exact ⟨by rw [<- HV.out]; rfl,HB.out⟩
theorem mem_of_not {L : List Bm} {x : Bm} (h : ∀ j (hj : j < L.length),L[j] ≠ x) : x ∉ L:=fun hm=>by
 obtain ⟨j,hj,e⟩:=List.getElem_of_mem hm
 exact h j hj e
theorem index_mods (p v : ByteArray) (L : List Bm) (b o c : Nat) (w : World) (hL : L.length <= 1000000)
  (hc : ∀ j (h : j < L.length),w.cell? ⟨b,o + j * 2,none⟩ = some (.string L[j].1) /\ w.cell? ⟨b,o + j * 2 + 1,none⟩ = some (.string L[j].2)) :
  Calls Tryz.prog 98 #[.slice (some ⟨b,o,none⟩) L.length c,.agg #[.string p,.string v]] w fun e w'=>∃ r : Int,e = .returned (.int .i64 r) /\ decide (0 <= r) = hasB L (p,v) /\ Below w.heap.size w w':=by
 have HC:=hid hc
 have hgd:=modGuard
 have HB0:=hid ((Below.refl w.heap.size w).alloc (Nat.le_refl _) (.cells #[.string p,.string v] 47))
 clear hc
 go_enter Tryz.func98,Tryz.ntmps98
 go_wp2_with fail
 go_loopw [8] (fun i wr=>∃ k : Nat,k <= L.length /\ i = .int .i64 k /\ Hid (∀ j (hj : j < L.length),j < k -> L[j] ≠ (p,v)) /\ Hid (Below (w.heap.size + 1) (w.alloc (.cells #[.string p,.string v] 47)) wr)) (fun i _=>L.length - (intOf i).toNat)
 case atStart=>exact ⟨0,Nat.zero_le _,rfl,hid (fun j _ hj=>absurd hj (by omega)),hid (Below.refl _ _)⟩
 case round=>
  obtain ⟨k,hk,rfl,HE,HB⟩:=hrel
  obtain ⟨⟨r0,r1⟩,rz⟩:=res2 HB.out
  have HBW:=hid (HB0.out.trans (HB.out.mono (by omega)))
  by_cases hlt : k < L.length
  ·have hx:=cell_below HBW.out (HC.out k hlt).1
   have hy:=cell_below HBW.out (HC.out k hlt).2
   have heq:=fun W=>modEql p v L[k].1 L[k].2 W
   by_cases h0 : p = L[k].1 /\ v = L[k].2
   ·have HM:=hid (show (p,v) ∈ L from by rw [h0.1,h0.2]; exact List.getElem_mem hlt)
    rw [decide_eq_true h0] at heq
    clear h0
    go_wp2_with fail
    go_quiet (fail)
    go_wp2_with fail
    go_ret
    exact ⟨_,rfl,by rw [hasB_iff.2 HM.out]; exact decide_eq_true (by omega),below_drawn_of HBW.out _⟩
   ·have HM:=hid (show L[k] ≠ (p,v) from fun e=>h0 (by rw [e]; exact ⟨rfl,rfl⟩))
    rw [decide_eq_false h0] at heq
    clear h0
    go_wp2_with fail
    go_quiet (fail)
    go_wp2_with fail
    go_roundw
    case rel=>exact ⟨k + 1,by omega,by go_num,hid (fun j hj hjk=>by
     rcases Nat.lt_or_ge j k with h | h
     ·exact HE.out j hj h
     ·have : j = k:=by omega
      subst this; exact HM.out),hid (below_drawn_of HB.out _)⟩
    case measure=>simp [intOf]; omega
  ·have HM:=hid (mem_of_not (fun j hj=>HE.out j hj (by omega)))
   go_wp2_with fail
   go_ret
   exact ⟨_,rfl,by rw [hasB_not HM.out]; rfl,HBW.out⟩
theorem index_none (p v : ByteArray) (a : Option Addr) (c : Nat) (w : World) :
  Calls Tryz.prog 98 #[.slice a 0 c,.agg #[.string p,.string v]] w fun e w'=>∃ r : Int,e = .returned (.int .i64 r) /\ decide (0 <= r) = false /\ Below w.heap.size w w':=by
 have HB0:=hid ((Below.refl w.heap.size w).alloc (Nat.le_refl _) (.cells #[.string p,.string v] 47))
 go_enter Tryz.func98,Tryz.ntmps98
 go_wp2_with fail
 go_loopw [8] (fun i wr=>i = .int .i64 0 /\ Hid (Below w.heap.size w wr)) (fun i _=>0)
 case atStart=>exact ⟨rfl,HB0⟩
 case round=>
  obtain ⟨rfl,HB⟩:=hrel
  go_wp2_with fail
  go_ret
  exact ⟨_,rfl,rfl,HB.out⟩
theorem indexM_any (p v : ByteArray) (L : List Bm) (u : Value) (w : World) (hL : L.length <= 1000000) (hu : MsAt w u L) :
  Calls Tryz.prog 98 #[u,.agg #[.string p,.string v]] w fun e w'=>∃ r : Int,e = .returned (.int .i64 r) /\ decide (0 <= r) = hasB L (p,v) /\ Below w.heap.size w w':=by
 obtain ⟨a,c,rfl,_,h⟩:=hu
 cases L with
 | nil=>exact (index_none p v a c w).mono fun e w' ⟨r,h1,h2,h3⟩=>⟨r,h1,by rw [h2]; rfl,h3⟩
 | cons x r=>
  obtain ⟨b,o,rfl,h2⟩:=h (by simp)
  exact index_mods p v (x :: r) b o c w hL h2
theorem hasMo_any (p v : ByteArray) (L : List Bm) (u : Value) (w : World) (hL : L.length <= 1000000) (hu : MsAt w u L) :
  Calls Tryz.prog 50 #[u,.agg #[.string p,.string v]] w fun e w'=>e = .returned (.bool (hasB L (p,v))) /\ Below w.heap.size w w':=by
 obtain ⟨up,un,uc,rfl⟩:=hu.slice
 have HB0:=hid ((Below.refl w.heap.size w).alloc (Nat.le_refl _) (.cells #[.string p,.string v] 47))
 have HI:=hid (indexM_any p v L _ _ hL (hu.below HB0.out))
 clear hu
 go_enter Tryz.func50,Tryz.ntmps50
 go_wp2_with fail
 refine HI.out.mono ?_
 rintro e w1 ⟨r,rfl,hr,hb⟩
 have HR:=hid hr
 have HB:=hid (HB0.out.trans (hb.mono HB0.out.size))
 clear hb hr
 go_wp2_with fail
 go_ret
 exact ⟨ret_bool HR.out,HB.out⟩
theorem res3 {w w3 : World} {a b c : Value} {T : TypeId} (hb : Below (w.heap.size + 1) (w.alloc (.cells #[a,b,c] T)) w3) :
  (w3.cell? ⟨w.heap.size,0,none⟩ = some a /\ w3.cell? ⟨w.heap.size,1,none⟩ = some b /\ w3.cell? ⟨w.heap.size,2,none⟩ = some c) /\ w.heap.size < w3.heap.size:=by
 refine ⟨⟨?_,?_,?_⟩,?_⟩
 ·rw [hb.cell (by simp)]; simp
 ·rw [hb.cell (by simp)]; simp
 ·rw [hb.cell (by simp)]; simp
 ·have:=hb.size; simp at this; omega
theorem clE_at {X L : List Bm} {i : Nat} (h : i < L.length) : clE X L i = if hasB X L[i] then 9 else 0:=by unfold clE; rw [List.getElem?_eq_getElem h]
theorem clKF_any (X L : List Bm) (b1 : Nat) (u : Value) (A : Nat -> Addr) (m : Int) (W : World) (hX : X.length <= 1000000) (S : Te W A m) (h1 : W.cell? ⟨b1,2,none⟩ = some u) (hu : MsAt W u X) (i : Nat) (hi : i < L.length) :
  Calls Tryz.prog 77 (#[.int .i64 (i : Int),.agg #[.string L[i].1,.string L[i].2]] ++ #[.pointer (some ⟨b1,0,none⟩)]) W fun e w'=>e = .returned (errA A (clE X L i)) /\ Below W.heap.size W w':=by
 rw [clE_at hi]
 show Calls Tryz.prog 77 #[.int .i64 (i : Int),.agg #[.string L[i].1,.string L[i].2],.pointer (some ⟨b1,0,none⟩)] W _
 obtain ⟨up,un,uc,rfl⟩:=hu.slice
 generalize hp : L[i].1 = p
 generalize hv : L[i].2 = v
 have hm : L[i] = (p,v):=by rw [<- hp,<- hv]
 rw [hm]
 clear hp hv hm
 have HB0:=hid ((Below.refl W.heap.size W).alloc (Nat.le_refl _) (.cells #[.string p,.string v] 47))
 have HH:=hid (hasMo_any p v X _ _ hX (hu.below HB0.out))
 have HS:=hid (S.below HB0.out)
 have c1:=cell_below HB0.out h1
 have hlt:=lt_of_cell h1
 clear hu h1 S
 cases h : hasB X (p,v)
 rotate_left
 ·rw [if_pos rfl,errA_if A (by omega)]
  rw [h] at HH
  clear h
  go_enter Tryz.func77,Tryz.ntmps77
  go_wp2_with fail
  refine HH.out.mono ?_
  rintro e w1 ⟨rfl,hb⟩
  have HB:=hid (HB0.out.trans (hb.mono HB0.out.size))
  have gg:=(HS.out.below hb).sen.g8
  clear hb
  go_wp2_with fail
  go_ret
  exact ⟨rfl,HB.out⟩
 ·rw [if_neg (by simp),errA0]
  rw [h] at HH
  clear h
  go_enter Tryz.func77,Tryz.ntmps77
  go_wp2_with fail
  refine HH.out.mono ?_
  rintro e w1 ⟨rfl,hb⟩
  have HB:=hid (HB0.out.trans (hb.mono HB0.out.size))
  clear hb
  go_wp2_with fail
  go_ret
  exact ⟨rfl,HB.out⟩
theorem clash_any (p : ByteArray) (L X : List Bm) (v u : Value) (A : Nat -> Addr) (m : Int) (w : World) (hL : L.length <= 1000000) (hX : X.length <= 1000000) (S : Te w A m) (hv : MsAt w v L) (hu : MsAt w u X) :
  Calls Tryz.prog 39 #[.agg #[.string p,v,u]] w fun e w'=>∃ x,e = .returned x /\ ErrAt w' A x (codeE (clE X L) L.length) (fstE (clE X L) L.length) /\ Below w.heap.size w w':=by
 obtain ⟨vp,vn,vc,rfl⟩:=hv.slice
 obtain ⟨up,un,uc,rfl⟩:=hu.slice
 have HB0:=hid ((Below.refl w.heap.size w).alloc (Nat.le_refl _) (.cells #[.string p,.slice vp vn vc,.slice up un uc] 25))
 have eg : ∀ args w,(callFunc 77 args).run Tryz.prog w = .ok (.enter 77 args) w:=enters_of Tryz.func77 (by kernel_rfl) rfl
 have HF:=hid (first_any 77 #[.pointer (some ⟨w.heap.size,0,none⟩)] (clE X L) L _ A (w.alloc (.cells #[.string p,.slice vp vn vc,.slice up un uc] 25)) eg hL (hv.below HB0.out) (fun i hi W hW=>
  clKF_any X L w.heap.size _ A m W hX ((S.below HB0.out).below hW) (cell_below hW (by simp)) ((hu.below HB0.out).below hW) i hi))
 clear S hv hu eg
 go_enter Tryz.func39,Tryz.ntmps39
 go_wp2_with fail
 refine HF.out.mono ?_
 rintro e w1 ⟨x,rfl,he,hb⟩
 have HB:=hid (HB0.out.trans (hb.mono HB0.out.size))
 have HE:=hid he
 clear hb he
 go_wp2_with fail
 go_ret
 exact ⟨_,rfl,HE.out,HB.out⟩
end Ve
end Go.Proofs.YtjbmjnbkibmkpaaGreatDoor


namespace Go.Proofs.YtjbmjnbkibmkpaaGreatDoor
open Go.RowKit
namespace Ve
abbrev Raw:=Bm × Value × Value × Bool
def rawV (r : Raw) : Value:=.agg #[.string r.1.1,.string r.1.2,r.2.1,r.2.2.1,.bool r.2.2.2]
def slR (r : Raw) : Prop:=(∃ a n c,r.2.1 = .slice a n c) /\ ∃ a n c,r.2.2.1 = .slice a n c
def EsAt (w : World) (v : Value) (L : List Raw) : Prop:=
 ∃ (a : Option Addr) (c : Nat),v = .slice a L.length c /\ L.length <= c /\ (∀ r,r ∈ L -> slR r) /\ (L ≠ [] -> ∃ b o,a = some ⟨b,o,none⟩ /\ ∀ j (h : j < L.length),w.cell? ⟨b,o + j * 5,none⟩ = some (.string L[j].1.1) /\ w.cell? ⟨b,o + j * 5 + 1,none⟩ = some (.string L[j].1.2) /\
  w.cell? ⟨b,o + j * 5 + 2,none⟩ = some L[j].2.1 /\ w.cell? ⟨b,o + j * 5 + 3,none⟩ = some L[j].2.2.1 /\ w.cell? ⟨b,o + j * 5 + 4,none⟩ = some (.bool L[j].2.2.2))
theorem EsAt.below {w w' : World} {v : Value} {L : List Raw} (h : EsAt w v L) (hb : Below w.heap.size w w') : EsAt w' v L:=by
 obtain ⟨a,c,e,hc,hs,h⟩:=h
 refine ⟨a,c,e,hc,hs,fun hL=>?_⟩
 obtain ⟨b,o,e2,h2⟩:=h hL
 exact ⟨b,o,e2,fun j hj=>⟨cell_below hb (h2 j hj).1,cell_below hb (h2 j hj).2.1,cell_below hb (h2 j hj).2.2.1,cell_below hb (h2 j hj).2.2.2.1,cell_below hb (h2 j hj).2.2.2.2⟩⟩
def idxE (P : Raw -> Bool) (L : List Raw) (i : Nat) : Nat:=match L[i]? with
 | some r=>if P r then 1 else 0
 | none=>0
def idxOf (P : Raw -> Bool) (L : List Raw) : Int:=match fstE (idxE P L) L.length with
 | some k=>(k : Int)
 | none=>-1
theorem idxE_at {P : Raw -> Bool} {L : List Raw} {i : Nat} (h : i < L.length) : idxE P L i = if P L[i] then 1 else 0:=by unfold idxE; rw [List.getElem?_eq_getElem h]
theorem idxE_zero {P : Raw -> Bool} {L : List Raw} {n : Nat} (hn : n <= L.length) (h : ∀ j (hj : j < L.length),j < n -> P L[j] = false) : ∀ j,j < n -> idxE P L j = 0:=fun j hj=>by
 rw [idxE_at (by omega),h j (by omega) hj]; rfl
theorem idx_hit {P : Raw -> Bool} {L : List Raw} {k : Nat} (hk : k < L.length) (h0 : ∀ j (hj : j < L.length),j < k -> P L[j] = false) (h : P L[k] = true) : idxOf P L = (k : Int):=by
 unfold idxOf
 rw [fstE_some (idxE_zero (by omega) h0) (by rw [idxE_at hk,if_pos h]; decide) hk]
theorem idx_next {P : Raw -> Bool} {L : List Raw} {k : Nat} (hk : k < L.length) (h0 : ∀ j (hj : j < L.length),j < k -> P L[j] = false) (h : P L[k] = false) : ∀ j (hj : j < L.length),j < k + 1 -> P L[j] = false:=fun j hj hjk=>by
 rcases Nat.lt_or_ge j k with h1 | h1
 ·exact h0 j hj h1
 ·have : j = k:=by omega
  subst this; exact h
set_option maxRecDepth 100000 in
theorem idxF_some (K : Nat) (cb : Array Value) (P : Raw -> Bool) (L : List Raw) (b o c : Nat) (w : World) (eg : ∀ args w,(callFunc K args).run Tryz.prog w = .ok (.enter K args) w) (hL : L.length <= 1000000) (hs : ∀ r,r ∈ L -> slR r)
  (hc : ∀ j (h : j < L.length),w.cell? ⟨b,o + j * 5,none⟩ = some (.string L[j].1.1) /\ w.cell? ⟨b,o + j * 5 + 1,none⟩ = some (.string L[j].1.2) /\ w.cell? ⟨b,o + j * 5 + 2,none⟩ = some L[j].2.1 /\ w.cell? ⟨b,o + j * 5 + 3,none⟩ = some L[j].2.2.1 /\ w.cell? ⟨b,o + j * 5 + 4,none⟩ = some (.bool L[j].2.2.2))
  (hK : ∀ i (h : i < L.length) W,Below w.heap.size w W -> Calls Tryz.prog K (#[rawV L[i]] ++ cb) W fun e w'=>e = .returned (.bool (P L[i])) /\ Below W.heap.size W w') :
  Calls Tryz.prog 172 #[.slice (some ⟨b,o,none⟩) L.length c,.func (.func K) #[] cb] w fun e w'=>e = .returned (.int .i64 (idxOf P L)) /\ Below w.heap.size w w':=by
 have HK:=hid hK
 have HC:=hid hc
 have HSL:=hid hs
 generalize hr : idxOf P L = r
 have HR:=hid hr
 clear hK hc hr hs
 go_enter Tryz.func172,Tryz.ntmps172
 go_wp2_with fail
 go_loopw [8] (fun i wr=>∃ k : Nat,k <= L.length /\ i = .int .i64 k /\ Hid (∀ j (h : j < L.length),j < k -> P L[j] = false) /\ Hid (Below w.heap.size w wr)) (fun i _=>L.length - (intOf i).toNat)
 case atStart=>exact ⟨0,Nat.zero_le _,rfl,hid (fun j _ hj=>absurd hj (by omega)),hid (Below.refl _ _)⟩
 case round=>
  obtain ⟨k,hk,rfl,HA,HB⟩:=hrel
  by_cases hlt : k < L.length
  ·have HP:=hid (HK.out k hlt wr HB.out)
   obtain ⟨y0,y1,y2,y3,y4⟩:=HC.out k hlt
   have x0:=cell_below HB.out y0
   have x1:=cell_below HB.out y1
   have x2:=cell_below HB.out y2
   have x3:=cell_below HB.out y3
   have x4:=cell_below HB.out y4
   obtain ⟨⟨ra,rn,rc,hrv⟩,pa,pn,pc,hpv⟩:=HSL.out L[k] (List.getElem_mem hlt)
   have hkI : (k : Int) < (L.length : Int):=by omega
   have HLT:=hid hlt
   have HF:=hid (fun h=>idx_hit hlt HA.out h)
   have HN:=hid (fun h=>idx_next hlt HA.out h)
   rw [hrv] at x2
   rw [hpv] at x3
   unfold rawV at HP
   rw [hrv,hpv] at HP
   clear y0 y1 y2 y3 y4
   generalize hx : L[k] = x at *
   cases hp : P x
   ·rw [hp] at HP
    have HN2:=hid (HN.out hp)
    clear hp hx hrv hpv hlt
    go_wp2_with fail
    refine HP.out.mono ?_
    rintro e w1 ⟨rfl,hb⟩
    have HB1:=hid (HB.out.trans (hb.mono HB.out.size))
    clear hb
    go_wp2_with fail
    go_roundw
    case rel=>exact ⟨k + 1,by have:=HLT.out; omega,by go_num,HN2,HB1⟩
    case measure=>have:=HLT.out; simp [intOf]; omega
   ·rw [hp] at HP
    have HF2:=hid (HF.out hp)
    clear hp hx hrv hpv hlt
    go_wp2_with fail
    refine HP.out.mono ?_
    rintro e w1 ⟨rfl,hb⟩
    have HB1:=hid (HB.out.trans (hb.mono HB.out.size))
    clear hb
    go_wp2_with fail
    go_ret
    exact ⟨by rw [<- HR.out,HF2.out]; rfl,HB1.out⟩
  ·have HF:=hid (show idxOf P L = -1 by unfold idxOf; rw [fstE_none (idxE_zero (Nat.le_refl _) (fun j hj _=>HA.out j hj (by omega)))])
   go_wp2_with fail
   go_ret
   exact ⟨by rw [<- HR.out,HF.out]; rfl,HB.out⟩
theorem idxF_none (K : Nat) (cb : Array Value) (a : Option Addr) (c : Nat) (w : World) :
  Calls Tryz.prog 172 #[.slice a 0 c,.func (.func K) #[] cb] w fun e w'=>e = .returned (.int .i64 (-1)) /\ Below w.heap.size w w':=by
 go_enter Tryz.func172,Tryz.ntmps172
 go_wp2_with fail
 go_loopw [8] (fun i wr=>i = .int .i64 0 /\ wr = w) (fun i _=>0)
 case atStart=>exact ⟨rfl,rfl⟩
 case round=>
  obtain ⟨rfl,rfl⟩:=hrel
  go_wp2_with fail
  go_ret
  exact ⟨rfl,Below.refl _ _⟩
theorem idxF_any (K : Nat) (cb : Array Value) (P : Raw -> Bool) (L : List Raw) (v : Value) (w : World) (eg : ∀ args w,(callFunc K args).run Tryz.prog w = .ok (.enter K args) w) (hL : L.length <= 1000000) (hv : EsAt w v L)
  (hK : ∀ i (h : i < L.length) W,Below w.heap.size w W -> Calls Tryz.prog K (#[rawV L[i]] ++ cb) W fun e w'=>e = .returned (.bool (P L[i])) /\ Below W.heap.size W w') :
  Calls Tryz.prog 172 #[v,.func (.func K) #[] cb] w fun e w'=>e = .returned (.int .i64 (idxOf P L)) /\ Below w.heap.size w w':=by
 obtain ⟨a,c,rfl,_,hs,h⟩:=hv
 cases L with
 | nil=>exact idxF_none K cb a c w
 | cons x r=>
  obtain ⟨b,o,rfl,h2⟩:=h (by simp)
  exact idxF_some K cb P (x :: r) b o c w eg hL hs h2 hK
def isM (m : Bm) (r : Raw) : Bool:=decide (r.1.1 = m.1 /\ r.1.2 = m.2)
theorem findK_any (m : Bm) (r : Raw) (hs : slR r) (b : Nat) (W : World) (h0 : W.cell? ⟨b,0,none⟩ = some (.string m.1)) (h1 : W.cell? ⟨b,1,none⟩ = some (.string m.2)) :
  Calls Tryz.prog 173 (#[rawV r] ++ #[.pointer (some ⟨b,0,none⟩)]) W fun e w'=>e = .returned (.bool (isM m r)) /\ Below W.heap.size W w':=by
 obtain ⟨⟨p,v⟩,rv,pv,bk⟩:=r
 obtain ⟨⟨ra,rn,rc,rfl⟩,pa,pn,pc,rfl⟩:=hs
 have heq:=fun W=>modEql p v m.1 m.2 W
 have hgd:=modGuard
 show Calls Tryz.prog 173 #[.agg #[.string p,.string v,.slice ra rn rc,.slice pa pn pc,.bool bk],.pointer (some ⟨b,0,none⟩)] W _
 unfold isM
 have HB0:=hid ((Below.refl W.heap.size W).alloc (Nat.le_refl _) (.cells #[.string p,.string v,.slice ra rn rc,.slice pa pn pc,.bool bk] 54))
 have c0:=cell_below HB0.out h0
 have c1:=cell_below HB0.out h1
 have hbb : ¬ b = W.heap.size:=by have:=lt_of_cell h0; simp at this; omega
 have hbb2 : ¬ W.heap.size = b:=fun h=>hbb h.symm
 generalize decide (p = m.1 /\ v = m.2) = z at *
 go_enter Tryz.func173,Tryz.ntmps173
 go_wp2_with fail
 go_ret
 exact ⟨rfl,HB0.out⟩
theorem find_any (L : List Raw) (m : Bm) (v : Value) (w : World) (hL : L.length <= 1000000) (hv : EsAt w v L) :
  Calls Tryz.prog 127 #[v,.agg #[.string m.1,.string m.2]] w fun e w'=>e = .returned (.int .i64 (idxOf (isM m) L)) /\ Below w.heap.size w w':=by
 obtain ⟨a,c,hv1,_,hs,_⟩:=id hv
 have HB0:=hid ((Below.refl w.heap.size w).alloc (Nat.le_refl _) (.cells #[.string m.1,.string m.2] 47))
 have eg : ∀ args w,(callFunc 173 args).run Tryz.prog w = .ok (.enter 173 args) w:=enters_of Tryz.func173 (by kernel_rfl) rfl
 have HF:=hid (idxF_any 173 #[.pointer (some ⟨w.heap.size,0,none⟩)] (isM m) L v (w.alloc (.cells #[.string m.1,.string m.2] 47)) eg hL (hv.below HB0.out) (fun i hi W hW=>
  findK_any m L[i] (hs L[i] (List.getElem_mem hi)) w.heap.size W (cell_below hW (by simp)) (cell_below hW (by simp))))
 subst hv1
 clear hv hs eg
 go_enter Tryz.func127,Tryz.ntmps127
 go_wp2_with fail
 refine HF.out.mono ?_
 rintro e w1 ⟨rfl,hb⟩
 have HB:=hid (HB0.out.trans (hb.mono HB0.out.size))
 clear hb
 go_wp2_with fail
 go_ret
 exact ⟨rfl,HB.out⟩
end Ve
end Go.Proofs.YtjbmjnbkibmkpaaGreatDoor


namespace Go.Proofs.YtjbmjnbkibmkpaaGreatDoor
open Go.RowKit
namespace Ve
theorem infoEnt : (Tryz.prog.info? 54).map (fun i=>(i.zero,i.size,i.bytes)) = some (some (.agg #[.string ⟨#[]⟩,.string ⟨#[]⟩,.slice none 0 0,.slice none 0 0,.bool false]),5,88):=by kernel_rfl
def rowR (r : Raw) : List Value:=[.string r.1.1,.string r.1.2,r.2.1,r.2.2.1,.bool r.2.2.2]
def flatR (L : List Raw) : List Value:=L.flatMap rowR
theorem flatR_app (D E : List Raw) : flatR (D ++ E) = flatR D ++ flatR E:=by simp [flatR]
theorem flatR_get : ∀ (D : List Raw) (j c : Nat) (hj : j < D.length) (_ : c < 5),(flatR D)[j * 5 + c]? = (rowR D[j])[c]?
 | [],_,_,hj,_=>absurd hj (Nat.not_lt_zero _)
 | r :: R,0,c,_,hc=>by
  have : flatR (r :: R) = rowR r ++ flatR R:=rfl
  rw [this,List.getElem?_append_left (by show 0 * 5 + c < 5; omega)]
  simp
 | r :: R,j + 1,c,hj,hc=>by
  have : flatR (r :: R) = rowR r ++ flatR R:=rfl
  rw [this,List.getElem?_append_right (by show 5 <= (j + 1) * 5 + c; omega),show (j + 1) * 5 + c - (rowR r).length = j * 5 + c by show (j + 1) * 5 + c - 5 = _; omega]
  exact flatR_get R j c (by simpa using hj) hc
theorem own_es {w : World} {base : Nat} {e : TypeId} {v : Value} {L : List Raw} (hs : ∀ r,r ∈ L -> slR r) (h : w.ownsRow base e 5 v L.length (flatR L)) : EsAt w v L:=by
 obtain ⟨_,⟨hv,hn0⟩ | ⟨g,cap,cur,hv,hg,hblk,hcap,hcm,hcs,hct⟩⟩:=h
 ·exact ⟨none,0,by rw [hv,hn0],by omega,hs,fun hL=>absurd (List.length_eq_zero_iff.1 hn0) hL⟩
 ·refine ⟨_,cap,hv,hcap,hs,fun _=>⟨g,0,rfl,fun j hj=>?_⟩⟩
  have go : ∀ c,c < 5 -> w.cell? ⟨g,0 + j * 5 + c,none⟩ = (rowR L[j])[c]?:=fun c hc=>by
   have h1:=flatR_get L j c hj hc
   rw [<- hct,List.getElem?_take,if_pos (by omega)] at h1
   simp only [World.cell?,hblk]
   rw [<- h1]; simp
  exact ⟨by have:=go 0 (by omega); simpa [rowR] using this,by have:=go 1 (by omega); simpa [rowR] using this,by have:=go 2 (by omega); simpa [rowR] using this,by have:=go 3 (by omega); simpa [rowR] using this,by have:=go 4 (by omega); simpa [rowR] using this⟩
theorem own_nextR {W : World} {B : Nat} {e : TypeId} {v : Value} {L L' : List Raw} {x : Raw} (h : W.ownsRow B e 5 v (L.length + 1) (flatR L ++ rowR x)) (hl : L' = L ++ [x]) : W.ownsRow B e 5 v L'.length (flatR L'):=by
 subst hl
 rw [List.length_append,flatR_app]
 have : flatR [x] = rowR x:=by simp [flatR]
 rw [this]; exact h
theorem rel_app5 {B : Nat} {w wr w2 w3 : World} {e : TypeId} {v : Value} {n : Nat} {xs : List Value} {o : Obj} (hB : B <= wr.heap.size) (hb : Below B w wr) (hown : wr.ownsRow B e 5 v n xs) (hb2 : Below wr.heap.size wr w2)
  (hg : (w2.alloc o).grownBy w3 v.ownBlock) : Below B w w3:=by
 have h2 : Below B w w2:=hb.trans (hb2.mono hB)
 have h3 : Below B w (w2.alloc o):=h2.alloc (Nat.le_trans hB hb2.size) o
 exact h3.grown hg (by simp; exact Nat.le_succ_of_le (Nat.le_trans hB hb2.size)) (fun k hk=>(hown.lt k hk).1)
theorem filter_snoc (P : Raw -> Bool) {L : List Raw} {k : Nat} (hk : k < L.length) : (L.take (k + 1)).filter P = (L.take k).filter P ++ (if P L[k] then [L[k]] else []):=by
 rw [List.take_succ_eq_append_getElem hk,List.filter_append]
 simp [List.filter_cons]
theorem filter_yes {P : Raw -> Bool} {L : List Raw} {k : Nat} (hk : k < L.length) (h : P L[k] = true) : (L.take (k + 1)).filter P = (L.take k).filter P ++ [L[k]]:=by rw [filter_snoc P hk,h]; rfl
theorem filter_no {P : Raw -> Bool} {L : List Raw} {k : Nat} (hk : k < L.length) (h : P L[k] = false) : (L.take (k + 1)).filter P = (L.take k).filter P:=by rw [filter_snoc P hk,h]; simp
set_option maxRecDepth 100000 in
theorem where_some (K : Nat) (cb : Array Value) (P : Raw -> Bool) (L : List Raw) (b o c : Nat) (w : World) (eg : ∀ args w,(callFunc K args).run Tryz.prog w = .ok (.enter K args) w) (hL : L.length <= 100000) (hs : ∀ r,r ∈ L -> slR r)
  (hc : ∀ j (h : j < L.length),w.cell? ⟨b,o + j * 5,none⟩ = some (.string L[j].1.1) /\ w.cell? ⟨b,o + j * 5 + 1,none⟩ = some (.string L[j].1.2) /\ w.cell? ⟨b,o + j * 5 + 2,none⟩ = some L[j].2.1 /\ w.cell? ⟨b,o + j * 5 + 3,none⟩ = some L[j].2.2.1 /\ w.cell? ⟨b,o + j * 5 + 4,none⟩ = some (.bool L[j].2.2.2))
  (hK : ∀ i (h : i < L.length) W,Below w.heap.size w W -> Calls Tryz.prog K (#[rawV L[i]] ++ cb) W fun e w'=>e = .returned (.bool (P L[i])) /\ Below W.heap.size W w') :
  Calls Tryz.prog 241 #[.slice (some ⟨b,o,none⟩) L.length c,.func (.func K) #[] cb] w fun e w'=>∃ v,e = .returned v /\ w'.ownsRow w.heap.size 54 5 v (L.filter P).length (flatR (L.filter P)) /\ Below w.heap.size w w':=by
 obtain ⟨i0,hi0,hz0,hz1,hz2⟩:=info_parts infoEnt
 have HK:=hid hK
 have HC:=hid hc
 have HSL:=hid hs
 clear hK hc hs
 go_enter Tryz.func241,Tryz.ntmps241
 go_wp2_with fail
 go_loopw [5,10] (fun ov i wr=>∃ k : Nat,k <= L.length /\ i = .int .i64 k /\ Hid (wr.ownsRow w.heap.size 54 5 ov ((L.take k).filter P).length (flatR ((L.take k).filter P))) /\ Hid (Below w.heap.size w wr)) (fun _ i _=>L.length - (intOf i).toNat)
 case atStart=>exact ⟨0,Nat.zero_le _,rfl,hid (World.ownsRow_nil _ _ _ _),hid (Below.refl _ _)⟩
 case round=>
  obtain ⟨k,hk,rfl,HO,HB⟩:=hrel
  by_cases hlt : k < L.length
  ·obtain ⟨y0,y1,y2,y3,y4⟩:=HC.out k hlt
   have x0:=cell_below HB.out y0
   have x1:=cell_below HB.out y1
   have x2:=cell_below HB.out y2
   have x3:=cell_below HB.out y3
   have x4:=cell_below HB.out y4
   have hsl:=HSL.out L[k] (List.getElem_mem hlt)
   have hkI : (k : Int) < (L.length : Int):=by omega
   have HLT:=hid hlt
   have HY:=hid (fun h=>filter_yes hlt h (P:=P))
   have HN:=hid (fun h=>filter_no hlt h (P:=P))
   have HKK:=hid (fun W hW=>HK.out k hlt W hW)
   have HLN:=hid (show ((L.take k).filter P).length <= 100000 from Nat.le_trans (List.length_filter_le _ _) (by rw [List.length_take]; omega))
   clear y0 y1 y2 y3 y4
   generalize L[k] = x at *
   obtain ⟨⟨p,q⟩,rv,pv,bk⟩:=x
   obtain ⟨⟨ra,rn,rc,hrv⟩,pa,pn,pc,hpv⟩:=hsl
   simp only at hrv hpv
   subst hrv
   subst hpv
   have HBa:=hid (HB.out.alloc HB.out.size (.cells #[.string p,.string q,.slice ra rn rc,.slice pa pn pc,.bool bk] 54))
   have HP:=hid (HKK.out _ HBa.out)
   have HOa:=hid (HO.out.alloc (.cells #[.string p,.string q,.slice ra rn rc,.slice pa pn pc,.bool bk] 54))
   unfold rawV at HP
   clear hlt HKK
   cases hp : P ((p,q),.slice ra rn rc,.slice pa pn pc,bk)
   ·rw [hp] at HP
    have HN2:=hid (HN.out hp)
    clear hp
    go_wp2_with fail
    refine HP.out.mono ?_
    rintro e w1 ⟨rfl,hb⟩
    have HB1:=hid (HBa.out.trans (hb.mono HBa.out.size))
    have HO1:=hid (owns_below HOa.out hb)
    clear hb
    go_wp2_with fail
    go_roundw
    case rel=>exact ⟨k + 1,by have:=HLT.out; omega,by go_num,by rw [HN2.out]; exact HO1,HB1⟩
    case measure=>have:=HLT.out; simp [intOf]; omega
   ·rw [hp] at HP
    have HY2:=hid (HY.out hp)
    clear hp
    go_wp2_with fail
    refine HP.out.mono ?_
    rintro e w1 ⟨rfl,hb⟩
    have HB1:=hid (HBa.out.trans (hb.mono HBa.out.size))
    have HO1:=hid (owns_below HOa.out hb)
    have HE1:=hid (show w1.heap[wr.heap.size]? = some (.cells #[.string p,.string q,.slice ra rn rc,.slice pa pn pc,.bool bk] 54 (0,0)) by rw [hb.block _ (by simp)]; exact heap_alloc_new wr _)
    have z0 : w1.cell? ⟨wr.heap.size,0,none⟩ = some (.string p):=by rw [Lib.cell_of_heap HE1.out]; rfl
    have z1 : w1.cell? ⟨wr.heap.size,1,none⟩ = some (.string q):=by rw [Lib.cell_of_heap HE1.out]; rfl
    have z2 : w1.cell? ⟨wr.heap.size,2,none⟩ = some (.slice ra rn rc):=by rw [Lib.cell_of_heap HE1.out]; rfl
    have z3 : w1.cell? ⟨wr.heap.size,3,none⟩ = some (.slice pa pn pc):=by rw [Lib.cell_of_heap HE1.out]; rfl
    have z4 : w1.cell? ⟨wr.heap.size,4,none⟩ = some (.bool bk):=by rw [Lib.cell_of_heap HE1.out]; rfl
    clear hb x0 x1 x2 x3 x4
    go_wp2_with (at_builtin; refine wpList_append_own _ rfl _ _ 22 rfl w.heap.size 54 i0 _ 5 88 Tryz.underlying22 hi0 hz0 hz1 hz2 rfl (by decide) _ _ _ rfl (HO1.out.alloc _) ⟨w1.heap.size,0,none⟩ 1 1 [.string p,.string q,.slice ra rn rc,.slice pa pn pc,.bool bk] rfl rfl ?c1 ?c2 ?c3 ?c4 ?c5 ?_)
    case c1=>exact World.news_of_block (cs:=#[.string p,.string q,.slice ra rn rc,.slice pa pn pc,.bool bk]) (t:=54) (fr:=(0,0)) (heap_alloc_new w1 _)
    case c2=>
     intro u hu
     simp at hu
     rcases hu with rfl | rfl | rfl | rfl | rfl <;> rfl
    case c3=>have:=HLN.out; unfold maxLen; omega
    case c4=>have:=HLN.out; omega
    case c5=>have:=HB1.out.size; simp; omega
    intro v' w3 hown hgrow _
    have HR3:=hid (rel_app5 HB1.out.size HB1.out HO1.out (Below.refl _ _) hgrow)
    have HO3:=hid hown
    clear hown hgrow z0 z1 z2 z3 z4
    go_wp2_with fail
    go_roundw
    case rel=>exact ⟨k + 1,by have:=HLT.out; omega,by go_num,hid (own_nextR (x:=((p,q),.slice ra rn rc,.slice pa pn pc,bk)) HO3.out HY2.out),HR3⟩
    case measure=>have:=HLT.out; simp [intOf]; omega
  ·have HTR:=hid (show L.take k = L from List.take_of_length_le (by omega))
   rw [HTR.out] at HO
   have hkI : ¬ (k : Int) < (L.length : Int):=by omega
   clear hlt
   go_wp2_with fail
   go_ret
   exact ⟨_,rfl,HO.out,HB.out⟩
theorem where_none (K : Nat) (cb : Array Value) (a : Option Addr) (c : Nat) (w : World) :
  Calls Tryz.prog 241 #[.slice a 0 c,.func (.func K) #[] cb] w fun e w'=>e = .returned (.slice none 0 0) /\ Below w.heap.size w w':=by
 go_enter Tryz.func241,Tryz.ntmps241
 go_wp2_with fail
 go_loopw [5,10] (fun ov i wr=>ov = .slice none 0 0 /\ i = .int .i64 0 /\ wr = w) (fun _ i _=>0)
 case atStart=>exact ⟨rfl,rfl,rfl⟩
 case round=>
  obtain ⟨rfl,rfl,rfl⟩:=hrel
  go_wp2_with fail
  go_ret
  exact ⟨rfl,Below.refl _ _⟩
theorem where_any (K : Nat) (cb : Array Value) (P : Raw -> Bool) (L : List Raw) (v : Value) (w : World) (eg : ∀ args w,(callFunc K args).run Tryz.prog w = .ok (.enter K args) w) (hL : L.length <= 100000) (hv : EsAt w v L)
  (hK : ∀ i (h : i < L.length) W,Below w.heap.size w W -> Calls Tryz.prog K (#[rawV L[i]] ++ cb) W fun e w'=>e = .returned (.bool (P L[i])) /\ Below W.heap.size W w') :
  Calls Tryz.prog 241 #[v,.func (.func K) #[] cb] w fun e w'=>∃ v',e = .returned v' /\ EsAt w' v' (L.filter P) /\ Below w.heap.size w w':=by
 obtain ⟨a,c,rfl,_,hs,h⟩:=hv
 have hsf : ∀ r,r ∈ L.filter P -> slR r:=fun r hr=>hs r (List.mem_filter.1 hr).1
 cases L with
 | nil=>exact (where_none K cb a c w).mono fun e w' ⟨h1,h2⟩=>⟨_,h1,⟨none,0,rfl,Nat.le_refl _,fun r hr=>absurd hr (by simp),fun h=>absurd rfl h⟩,h2⟩
 | cons x r=>
  obtain ⟨b,o,rfl,h2⟩:=h (by simp)
  exact (where_some K cb P (x :: r) b o c w eg hL hs h2 hK).mono fun e w' ⟨v',h1,h2,h3⟩=>⟨v',h1,own_es hsf h2,h3⟩
end Ve
end Go.Proofs.YtjbmjnbkibmkpaaGreatDoor


namespace Go.Proofs.YtjbmjnbkibmkpaaGreatDoor
open Go.RowKit
namespace Ve
def TxAt (w : World) (v : Value) (X : List ByteArray) : Prop:=
 ∃ (a : Option Addr) (c : Nat),v = .slice a X.length c /\ X.length <= c /\ (X ≠ [] -> ∃ b o,a = some ⟨b,o,none⟩ /\ ∀ j (h : j < X.length),w.cell? ⟨b,o + j,none⟩ = some (.string X[j]))
theorem TxAt.below {w w' : World} {v : Value} {X : List ByteArray} (h : TxAt w v X) (hb : Below w.heap.size w w') : TxAt w' v X:=by
 obtain ⟨a,c,e,hc,h⟩:=h
 refine ⟨a,c,e,hc,fun hL=>?_⟩
 obtain ⟨b,o,e2,h2⟩:=h hL
 exact ⟨b,o,e2,fun j hj=>cell_below hb (h2 j hj)⟩
theorem own_tx {w : World} {B : Nat} {e : TypeId} {v : Value} {X : List ByteArray} (h : w.ownsRow B e 1 v X.length (X.map Value.string)) : TxAt w v X:=by
 obtain ⟨_,⟨hv,hn0⟩ | ⟨g,cap,cur,hv,hg,hblk,hcap,hcm,hcs,hct⟩⟩:=h
 ·exact ⟨none,0,by rw [hv,hn0],by omega,fun hL=>absurd (List.length_eq_zero_iff.1 hn0) hL⟩
 ·refine ⟨_,cap,hv,hcap,fun _=>⟨g,0,rfl,fun j hj=>?_⟩⟩
  have h1 : (X.map Value.string)[j]? = some (.string X[j]):=by simp [hj]
  rw [<- hct,List.getElem?_take,if_pos (by omega)] at h1
  simp only [World.cell?,hblk]
  rw [<- h1]; simp
theorem tx_cellK {W : World} {a : Option Addr} {n c : Nat} {X : List ByteArray} (h : TxAt W (.slice a n c) X) {k : Nat} (hk : k < X.length) : ∃ b o,a = some ⟨b,o,none⟩ /\ W.cell? ⟨b,o + k,none⟩ = some (.string X[k]):=by
 obtain ⟨a',c',e,_,h⟩:=h
 injection e with e1 e2 e3
 subst e1
 obtain ⟨b',o',e4,h4⟩:=h (by intro h0; rw [h0] at hk; simp at hk)
 exact ⟨b',o',e4,h4 k hk⟩
end Ve
end Go.Proofs.YtjbmjnbkibmkpaaGreatDoor


namespace Go.Proofs.YtjbmjnbkibmkpaaGreatDoor
open Go.RowKit
namespace Ve
def flatM (L : List Bm) : List Value:=L.flatMap fun m=>[.string m.1,.string m.2]
theorem flatM_len (L : List Bm) : (flatM L).length = L.length * 2:=by
 induction L with
 | nil=>rfl
 | cons r R ih=>
  have : flatM (r :: R) = [.string r.1,.string r.2] ++ flatM R:=rfl
  rw [this,List.length_append,ih]
  show 2 + R.length * 2 = (R.length + 1) * 2
  omega
theorem flatM_app (D E : List Bm) : flatM (D ++ E) = flatM D ++ flatM E:=by simp [flatM]
theorem flatM_get : ∀ (D : List Bm) (j c : Nat) (hj : j < D.length) (_ : c < 2),(flatM D)[j * 2 + c]? = [Value.string D[j].1,Value.string D[j].2][c]?
 | [],_,_,hj,_=>absurd hj (Nat.not_lt_zero _)
 | r :: R,0,c,_,hc=>by
  have : flatM (r :: R) = [.string r.1,.string r.2] ++ flatM R:=rfl
  rw [this,List.getElem?_append_left (by show 0 * 2 + c < 2; omega)]
  simp
 | r :: R,j + 1,c,hj,hc=>by
  have : flatM (r :: R) = [.string r.1,.string r.2] ++ flatM R:=rfl
  rw [this,List.getElem?_append_right (by show 2 <= (j + 1) * 2 + c; omega),show (j + 1) * 2 + c - [Value.string r.1,Value.string r.2].length = j * 2 + c by simp; omega]
  exact flatM_get R j c (by simpa using hj) hc
theorem own_ms {w : World} {base : Nat} {e : TypeId} {v : Value} {L : List Bm} (h : w.ownsRow base e 2 v L.length (flatM L)) : MsAt w v L:=by
 obtain ⟨_,⟨hv,hn0⟩ | ⟨g,cap,cur,hv,hg,hblk,hcap,hcm,hcs,hct⟩⟩:=h
 ·exact ⟨none,0,by rw [hv,hn0],by omega,fun hL=>absurd (List.length_eq_zero_iff.1 hn0) hL⟩
 ·refine ⟨_,cap,hv,hcap,fun _=>⟨g,0,rfl,fun j hj=>?_⟩⟩
  have go : ∀ c,c < 2 -> w.cell? ⟨g,0 + j * 2 + c,none⟩ = [Value.string L[j].1,Value.string L[j].2][c]?:=fun c hc=>by
   have h1:=flatM_get L j c hj hc
   rw [<- hct,List.getElem?_take,if_pos (by omega)] at h1
   simp only [World.cell?,hblk]
   rw [<- h1]; simp
  exact ⟨by have:=go 0 (by omega); simpa using this,by have:=go 1 (by omega); simpa using this⟩
theorem own_ne2 {w : World} {B : Nat} {e T : TypeId} {v : Value} {n : Nat} {xs : List Value} {b : Nat} {cs : Array Value} {fr : Nat × Nat} (hown : w.ownsRow B e 2 v n xs) (hb : w.heap[b]? = some (.cells cs T fr)) (hTe : T ≠ e) : v.ownBlock ≠ some b:=by
 rcases hown.2 with ⟨rfl,_⟩ | ⟨g,cap,cur,rfl,_,hg,_⟩
 ·simp [Value.ownBlock]
 ·intro h
  simp only [Value.ownBlock,Option.some.injEq] at h
  subst h
  rw [hg] at hb
  simp only [Option.some.injEq,Obj.cells.injEq] at hb
  exact hTe hb.2.1.symm
theorem keep_set {W : World} {fb o b : Nat} {x : Value} {ob : Obj} (h : W.heap[b]? = some ob) (hne : b ≠ fb) : (W.setCell ⟨fb,o,none⟩ x).heap[b]? = some ob:=by
 rw [Below.heap_setCell _ _ _ _ hne]; exact h
theorem set_block {W : World} {fb o : Nat} {cs : Array Value} {T : TypeId} {x : Value} (h : W.heap[fb]? = some (.cells cs T (0,0))) : (W.setCell ⟨fb,o,none⟩ x).heap[fb]? = some (.cells (cs.setIfInBounds o x) T (0,0)):=by
 simp [World.setCell,Array.getElem?_modify,h]
theorem owns_set {W : World} {B fb o n : Nat} {e : TypeId} {v x : Value} {xs : List Value} (h : W.ownsRow B e 2 v n xs) (hne : v.ownBlock ≠ some fb) : (W.setCell ⟨fb,o,none⟩ x).ownsRow B e 2 v n xs:=
 h.kept (row:=some fb) ⟨rfl,rfl,rfl,by simp [World.setCell],fun k _ hk=>Below.heap_setCell _ _ _ _ (fun e=>hk (by simp [e]))⟩ (Or.inr hne)
theorem owns_far {W W3 : World} {B n : Nat} {e : TypeId} {v : Value} {xs : List Value} {row : Option Nat} (h : W.ownsRow B e 2 v n xs) (hg : W.grownBy W3 row) (hne : ∀ g,v.ownBlock = some g -> row ≠ some g) : W3.ownsRow B e 2 v n xs:=by
 obtain ⟨hl,h | ⟨g,cap,cur,e1,e2,e3,e4,e5,e6,e7⟩⟩:=h
 ·exact ⟨hl,Or.inl h⟩
 ·refine ⟨hl,Or.inr ⟨g,cap,cur,e1,e2,?_,e4,e5,e6,e7⟩⟩
  rw [hg.block g (lt_of_blk e3) (fun h=>hne g (by rw [e1]; rfl) h.symm)]; exact e3
theorem own_lt {W : World} {B n g : Nat} {e : TypeId} {v : Value} {xs : List Value} (h : W.ownsRow B e 2 v n xs) (hv : v.ownBlock = some g) : g < W.heap.size /\ B <= g:=by
 obtain ⟨hl,⟨h,_⟩ | ⟨g',cap,cur,e1,e2,e3,_⟩⟩:=h
 ·rw [h] at hv; cases hv
 ·rw [e1] at hv
  have : g' = g:=by simpa [Value.ownBlock] using hv
  subst this
  exact ⟨lt_of_blk e3,e2⟩
theorem heap_new (w : World) (o : Obj) : (w.alloc o).heap[w.heap.size]? = some o:=heap_alloc_new w o
theorem heap_old (w : World) (o : Obj) {b : Nat} {x : Obj} (h : w.heap[b]? = some x) : (w.alloc o).heap[b]? = some x:=by
 rw [((Below.refl w.heap.size w).alloc (Nat.le_refl _) o).block b (lt_of_blk h)]; exact h
theorem own_base {W : World} {B B' n : Nat} {e : TypeId} {v : Value} {xs : List Value} (h : W.ownsRow B e 2 v n xs) (hB : B' <= B) : W.ownsRow B' e 2 v n xs:=by
 obtain ⟨hl,h | ⟨g,cap,cur,e1,e2,e3,e4,e5,e6,e7⟩⟩:=h
 ·exact ⟨hl,Or.inl h⟩
 ·exact ⟨hl,Or.inr ⟨g,cap,cur,e1,Nat.le_trans hB e2,e3,e4,e5,e6,e7⟩⟩
def put3 (W : World) (b : Nat) (x y z : Value) : World:=((W.setCell ⟨b,0,none⟩ x).setCell ⟨b,1,none⟩ y).setCell ⟨b,2,none⟩ z
theorem put3_below {W w : World} {B b : Nat} {x y z : Value} (h : Below B w W) (hb : B <= b) : Below B w (put3 W b x y z):=
 ((h.setCell (p:=⟨b,0,none⟩) hb _).setCell (p:=⟨b,1,none⟩) hb _).setCell (p:=⟨b,2,none⟩) hb _
theorem put3_cell {W : World} {b b' o : Nat} {x y z : Value} (h : b' ≠ b) : (put3 W b x y z).cell? ⟨b',o,none⟩ = W.cell? ⟨b',o,none⟩:=by
 unfold put3
 have go : ∀ (V : World) (k : Nat) (q : Value),(V.setCell ⟨b,k,none⟩ q).cell? ⟨b',o,none⟩ = V.cell? ⟨b',o,none⟩:=fun V k q=>World.cell?_of_block (Below.heap_setCell _ _ _ _ h)
 rw [go,go,go]
theorem put3_owns {W : World} {B b n : Nat} {e : TypeId} {v x y z : Value} {xs : List Value} (h : W.ownsRow B e 2 v n xs) (hne : v.ownBlock ≠ some b) : (put3 W b x y z).ownsRow B e 2 v n xs:=
 owns_set (owns_set (owns_set h hne) hne) hne
theorem res3f {w w3 : World} {a b c : Value} {T : TypeId} (hb : Below (w.heap.size + 1) (w.alloc (.cells #[a,b,c] T)) w3) : ∀ o,w3.frozen? ⟨w.heap.size,o,none⟩ = false:=by
 intro o; rw [hb.frozen (by simp)]; simp
theorem own_sl {W : World} {B n : Nat} {e : TypeId} {v : Value} {xs : List Value} (h : W.ownsRow B e 2 v n xs) : ∃ a n c,v = .slice a n c:=by
 obtain ⟨_,⟨h,_⟩ | ⟨g,cap,cur,e1,_⟩⟩:=h
 ·exact ⟨_,_,_,h⟩
 ·exact ⟨_,_,_,e1⟩
theorem ms_flat {w : World} {b o : Nat} {L : List Bm} (hc : ∀ j (h : j < L.length),w.cell? ⟨b,o + j * 2,none⟩ = some (.string L[j].1) /\ w.cell? ⟨b,o + j * 2 + 1,none⟩ = some (.string L[j].2)) : ∀ j u,(flatM L)[j]? = some u -> w.cell? ⟨b,o + j,none⟩ = some u:=by
 intro j u hj
 have hl : j < L.length * 2:=by rw [<- flatM_len]; exact (List.getElem?_eq_some_iff.1 hj).1
 have h1:=flatM_get L (j / 2) (j % 2) (by omega) (by omega)
 rw [show j / 2 * 2 + j % 2 = j by omega,hj] at h1
 have h2:=hc (j / 2) (by omega)
 rcases Nat.mod_two_eq_zero_or_one j with e | e
 ·rw [e] at h1
  have : u = .string L[j / 2].1:=by simpa using h1
  rw [this,<- h2.1]
  congr 2; omega
 ·rw [e] at h1
  have : u = .string L[j / 2].2:=by simpa using h1
  rw [this,<- h2.2]
  congr 2; omega
theorem flat_one (L : List Bm) : ∀ u ∈ flatM L,u.oneCell' = true:=by
 intro u hu
 obtain ⟨m,_,hm⟩:=List.mem_flatMap.1 hu
 simp at hm
 rcases hm with rfl | rfl <;> rfl
theorem infoMod : (Tryz.prog.info? 47).map (fun i=>(i.zero,i.size,i.bytes)) = some (some (.agg #[.string ⟨#[]⟩,.string ⟨#[]⟩]),2,32):=by kernel_rfl
end Ve
end Go.Proofs.YtjbmjnbkibmkpaaGreatDoor


namespace Go.Proofs.YtjbmjnbkibmkpaaGreatDoor
open Go.RowKit
namespace Ve
def okM (m : Bm) : Bool:=decide (m.1.size <= 70) && decide (m.2.size <= 60)
def okL (L : List Bm) : Bool:=decide (L.length <= 25) && L.all okM
theorem okL_iff {L : List Bm} (h : okL L = true) : L.length <= 25 /\ ∀ m,m ∈ L -> m.1.size <= 70 /\ m.2.size <= 60:=by
 unfold okL at h
 rw [Bool.and_eq_true] at h
 refine ⟨of_decide_eq_true h.1,fun m hm=>?_⟩
 have:=List.all_eq_true.1 h.2 m hm
 unfold okM at this
 rw [Bool.and_eq_true] at this
 exact ⟨of_decide_eq_true this.1,of_decide_eq_true this.2⟩
theorem all_take_next {L : List Bm} {k : Nat} (hk : k < L.length) (h : (L.take k).all okM = true) (hm : okM L[k] = true) : (L.take (k + 1)).all okM = true:=by
 rw [List.take_succ_eq_append_getElem hk,List.all_append,h]
 simp [hm]
theorem all_not {L : List Bm} {k : Nat} (hk : k < L.length) (hm : okM L[k] = false) : L.all okM = false:=by
 cases e : L.all okM
 ·rfl
 ·have:=List.all_eq_true.1 e L[k] (List.getElem_mem hk)
  rw [hm] at this; cases this
theorem long_some (L : List Bm) (b o c : Nat) (w : World) (hn : L.length <= 25)
  (hc : ∀ j (h : j < L.length),w.cell? ⟨b,o + j * 2,none⟩ = some (.string L[j].1) /\ w.cell? ⟨b,o + j * 2 + 1,none⟩ = some (.string L[j].2)) :
  Calls Tryz.prog 6 #[.slice (some ⟨b,o,none⟩) L.length c,.int .i64 25] w fun e w'=>e = .returned (.int .i64 (if okL L then 0 else 1)) /\ w' = w:=by
 have HC:=hid hc
 have HO:=hid (show okL L = L.all okM by unfold okL; rw [decide_eq_true hn,Bool.true_and])
 have hn2 : ¬ (25 : Int) < (L.length : Int):=by omega
 generalize hr : (if okL L then (0 : Int) else 1) = r
 have HR:=hid hr
 clear hc hr
 go_enter Tryz.func6,Tryz.ntmps6
 go_wp2_with fail
 go_loop [5] (fun i=>∃ k : Nat,k <= L.length /\ i = .int .i64 k /\ Hid ((L.take k).all okM = true)) (fun i=>L.length - (intOf i).toNat)
 case atStart=>exact ⟨0,Nat.zero_le _,rfl,hid rfl⟩
 case round=>
  obtain ⟨k,hk,rfl,HA⟩:=hrel
  by_cases hlt : k < L.length
  ·have hx:=(HC.out k hlt).1
   have hy:=(HC.out k hlt).2
   have HN:=hid (fun h=>all_take_next hlt HA.out h)
   have HX:=hid (fun h=>all_not hlt h)
   have HLT:=hid hlt
   have hkI : (k : Int) < (L.length : Int):=by omega
   generalize L[k] = x at *
   clear hlt
   obtain ⟨p,v⟩:=x
   by_cases h1 : p.size <= 70
   ·have h1' : ¬ (70 : Int) < (p.size : Int):=by omega
    by_cases h2 : v.size <= 60
    ·have h2' : ¬ (60 : Int) < (v.size : Int):=by omega
     have HT:=hid (HN.out (by unfold okM; rw [decide_eq_true h1,decide_eq_true h2]; rfl))
     go_wp2_with fail
     go_round
     case rel=>exact ⟨k + 1,by have:=HLT.out; omega,by go_num,HT⟩
     case measure=>have:=HLT.out; simp [intOf]; omega
    ·have h2' : (60 : Int) < (v.size : Int):=by omega
     have HT:=hid (HX.out (by unfold okM; rw [decide_eq_true h1,decide_eq_false h2]; rfl))
     go_wp2_with fail
     go_ret
     exact ⟨by rw [<- HR.out,HO.out,HT.out]; rfl,rfl⟩
   ·have h1' : (70 : Int) < (p.size : Int):=by omega
    have HT:=hid (HX.out (by unfold okM; rw [decide_eq_false h1]; rfl))
    go_wp2_with fail
    go_ret
    exact ⟨by rw [<- HR.out,HO.out,HT.out]; rfl,rfl⟩
  ·have HT:=hid (show L.all okM = true by have:=HA.out; rw [List.take_of_length_le (by omega)] at this; exact this)
   go_wp2_with fail
   go_ret
   exact ⟨by rw [<- HR.out,HO.out,HT.out]; rfl,rfl⟩
theorem long_none (a : Option Addr) (c : Nat) (w : World) : Calls Tryz.prog 6 #[.slice a 0 c,.int .i64 25] w fun e w'=>e = .returned (.int .i64 0) /\ w' = w:=by
 go_enter Tryz.func6,Tryz.ntmps6
 go_wp2_with fail
 go_loop [5] (fun i=>i = .int .i64 0) (fun i=>0)
 case atStart=>exact rfl
 case round=>
  obtain rfl:=hrel
  go_wp2_with fail
  go_ret
  exact ⟨rfl,rfl⟩
theorem long_many (a : Option Addr) (n c : Nat) (w : World) (hn : 25 < n) : Calls Tryz.prog 6 #[.slice a n c,.int .i64 25] w fun e w'=>e = .returned (.int .i64 1) /\ w' = w:=by
 have hn2 : (25 : Int) < (n : Int):=by omega
 go_enter Tryz.func6,Tryz.ntmps6
 go_wp2_with fail
 go_ret
 exact ⟨rfl,rfl⟩
theorem long_any (L : List Bm) (v : Value) (w : World) (hv : MsAt w v L) : Calls Tryz.prog 6 #[v,.int .i64 25] w fun e w'=>e = .returned (.int .i64 (if okL L then 0 else 1)) /\ w' = w:=by
 obtain ⟨a,c,rfl,_,h⟩:=hv
 by_cases hn : L.length <= 25
 ·cases L with
  | nil=>exact long_none a c w
  | cons x r=>
   obtain ⟨b,o,rfl,h2⟩:=h (by simp)
   exact long_some (x :: r) b o c w hn h2
 ·have : okL L = false:=by unfold okL; rw [decide_eq_false hn]; rfl
  rw [this]
  exact long_many a L.length c w (by omega)
theorem sameM_some (L : List Bm) (b o c b' o' c' : Nat) (w : World) (hn : L.length <= 1000000)
  (hc : ∀ j (h : j < L.length),w.cell? ⟨b,o + j * 2,none⟩ = some (.string L[j].1) /\ w.cell? ⟨b,o + j * 2 + 1,none⟩ = some (.string L[j].2))
  (hd : ∀ j (h : j < L.length),w.cell? ⟨b',o' + j * 2,none⟩ = some (.string L[j].1) /\ w.cell? ⟨b',o' + j * 2 + 1,none⟩ = some (.string L[j].2)) :
  Calls Tryz.prog 13 #[.slice (some ⟨b,o,none⟩) L.length c,.slice (some ⟨b',o',none⟩) L.length c'] w fun e w'=>e = .returned (.bool true) /\ Below w.heap.size w w':=by
 have HC:=hid hc
 have HD:=hid hd
 have hgd:=modGuard
 clear hc hd
 go_enter Tryz.func13,Tryz.ntmps13
 go_wp2_with fail
 go_loopw [5] (fun i wr=>∃ k : Nat,k <= L.length /\ i = .int .i64 k /\ Hid (Below w.heap.size w wr)) (fun i _=>L.length - (intOf i).toNat)
 case atStart=>exact ⟨0,Nat.zero_le _,rfl,hid (Below.refl _ _)⟩
 case round=>
  obtain ⟨k,hk,rfl,HB⟩:=hrel
  by_cases hlt : k < L.length
  ·have hx:=cell_below HB.out (HC.out k hlt).1
   have hy:=cell_below HB.out (HC.out k hlt).2
   have hx':=cell_below HB.out (HD.out k hlt).1
   have hy':=cell_below HB.out (HD.out k hlt).2
   have hne:=fun W=>modNeq L[k].1 L[k].2 L[k].1 L[k].2 W
   rw [decide_eq_true ⟨rfl,rfl⟩,Bool.not_true] at hne
   have hkI : (k : Int) < (L.length : Int):=by omega
   go_wp2_with fail
   go_quiet (fail)
   go_wp2_with fail
   go_roundw
   case rel=>exact ⟨k + 1,by omega,by go_num,hid (below_drawn_of HB.out _)⟩
   case measure=>simp [intOf]; omega
  ·go_wp2_with fail
   go_ret
   exact ⟨rfl,HB.out⟩
theorem sameM_none (a a' : Option Addr) (c c' : Nat) (w : World) : Calls Tryz.prog 13 #[.slice a 0 c,.slice a' 0 c'] w fun e w'=>e = .returned (.bool true) /\ Below w.heap.size w w':=by
 go_enter Tryz.func13,Tryz.ntmps13
 go_wp2_with fail
 go_loopw [5] (fun i wr=>i = .int .i64 0 /\ wr = w) (fun i _=>0)
 case atStart=>exact ⟨rfl,rfl⟩
 case round=>
  obtain ⟨rfl,rfl⟩:=hrel
  go_wp2_with fail
  go_ret
  exact ⟨rfl,Below.refl _ _⟩
theorem sameM_any (L : List Bm) (v u : Value) (w : World) (hn : L.length <= 1000000) (hv : MsAt w v L) (hu : MsAt w u L) : Calls Tryz.prog 13 #[v,u] w fun e w'=>e = .returned (.bool true) /\ Below w.heap.size w w':=by
 obtain ⟨a,c,rfl,_,h⟩:=hv
 obtain ⟨a',c',rfl,_,h'⟩:=hu
 cases L with
 | nil=>exact sameM_none a a' c c' w
 | cons x r=>
  obtain ⟨b,o,rfl,h2⟩:=h (by simp)
  obtain ⟨b',o',rfl,h3⟩:=h' (by simp)
  exact sameM_some (x :: r) b o c b' o' c' w hn h2 h3
def FpP (L : List Bm) (p : ByteArray) (r : Int) : Prop:=(r = -1 /\ ∀ j (h : j < L.length),L[j].1 ≠ p) \/ ∃ k : Nat,r = k /\ ∃ h : k < L.length,L[k].1 = p
def fpE (L : List Bm) (p : ByteArray) (i : Nat) : Nat:=match L[i]? with
 | some m=>if m.1 = p then 1 else 0
 | none=>0
def fpOf (L : List Bm) (p : ByteArray) : Int:=match fstE (fpE L p) L.length with
 | some k=>(k : Int)
 | none=>-1
theorem fpE_at {L : List Bm} {p : ByteArray} {i : Nat} (h : i < L.length) : fpE L p i = if L[i].1 = p then 1 else 0:=by unfold fpE; rw [List.getElem?_eq_getElem h]
theorem fpE_zero {L : List Bm} {p : ByteArray} {n : Nat} (hn : n <= L.length) (h : ∀ j (hj : j < L.length),j < n -> L[j].1 ≠ p) : ∀ j,j < n -> fpE L p j = 0:=fun j hj=>by rw [fpE_at (by omega),if_neg (h j (by omega) hj)]
theorem fpOf_P (L : List Bm) (p : ByteArray) : FpP L p (fpOf L p):=by
 unfold fpOf
 cases h : fstE (fpE L p) L.length with
 | none=>
  refine Or.inl ⟨rfl,fun j hj e=>?_⟩
  have:=fstE_of_none h j hj
  rw [fpE_at hj,if_pos e] at this; cases this
 | some k=>
  obtain ⟨h1,h2,_⟩:=fstE_of_some h
  refine Or.inr ⟨k,rfl,h1,?_⟩
  rw [fpE_at h1] at h2
  by_cases e : L[k].1 = p
  ·exact e
  ·rw [if_neg e] at h2; exact absurd rfl h2
theorem fp_some (L : List Bm) (p : ByteArray) (b o c : Nat) (w : World) (hn : L.length <= 1000000)
  (hc : ∀ j (h : j < L.length),w.cell? ⟨b,o + j * 2,none⟩ = some (.string L[j].1) /\ w.cell? ⟨b,o + j * 2 + 1,none⟩ = some (.string L[j].2)) :
  Calls Tryz.prog 17 #[.slice (some ⟨b,o,none⟩) L.length c,.string p] w fun e w'=>e = .returned (.int .i64 (fpOf L p)) /\ w' = w:=by
 have HC:=hid hc
 generalize hr : fpOf L p = r
 have HR:=hid hr
 clear hc hr
 go_enter Tryz.func17,Tryz.ntmps17
 go_wp2_with fail
 go_loop [5] (fun i=>∃ k : Nat,k <= L.length /\ i = .int .i64 k /\ Hid (∀ j (h : j < L.length),j < k -> L[j].1 ≠ p)) (fun i=>L.length - (intOf i).toNat)
 case atStart=>exact ⟨0,Nat.zero_le _,rfl,hid (fun j _ hj=>absurd hj (by omega))⟩
 case round=>
  obtain ⟨k,hk,rfl,HA⟩:=hrel
  by_cases hlt : k < L.length
  ·have hx:=(HC.out k hlt).1
   have hkI : (k : Int) < (L.length : Int):=by omega
   by_cases he : L[k].1 = p
   ·have HF:=hid (show fpOf L p = k by unfold fpOf; rw [fstE_some (fpE_zero (by omega) HA.out) (by rw [fpE_at hlt,if_pos he]; decide) hlt])
    rw [he] at hx
    have hq:=str_refl p
    clear he
    go_wp2_with fail
    go_ret
    exact ⟨by rw [<- HR.out,HF.out]; rfl,rfl⟩
   ·have hq:=str_ne he
    have HE:=hid he
    clear he
    go_wp2_with fail
    go_round
    case rel=>exact ⟨k + 1,by omega,by go_num,hid (fun j hj hjk=>by
     rcases Nat.lt_or_ge j k with h | h
     ·exact HA.out j hj h
     ·have : j = k:=by omega
      subst this; exact HE.out)⟩
    case measure=>simp [intOf]; omega
  ·have HF:=hid (show fpOf L p = -1 by unfold fpOf; rw [fstE_none (fpE_zero (Nat.le_refl _) (fun j hj _=>HA.out j hj (by omega)))])
   go_wp2_with fail
   go_ret
   exact ⟨by rw [<- HR.out,HF.out]; rfl,rfl⟩
theorem fp_none (p : ByteArray) (a : Option Addr) (c : Nat) (w : World) : Calls Tryz.prog 17 #[.slice a 0 c,.string p] w fun e w'=>e = .returned (.int .i64 (-1)) /\ w' = w:=by
 go_enter Tryz.func17,Tryz.ntmps17
 go_wp2_with fail
 go_loop [5] (fun i=>i = .int .i64 0) (fun i=>0)
 case atStart=>exact rfl
 case round=>
  obtain rfl:=hrel
  go_wp2_with fail
  go_ret
  exact ⟨rfl,rfl⟩
theorem fp_is (L : List Bm) (p : ByteArray) (v : Value) (w : World) (hn : L.length <= 1000000) (hv : MsAt w v L) : Calls Tryz.prog 17 #[v,.string p] w fun e w'=>e = .returned (.int .i64 (fpOf L p)) /\ w' = w:=by
 obtain ⟨a,c,rfl,_,h⟩:=hv
 cases L with
 | nil=>exact fp_none p a c w
 | cons x r=>
  obtain ⟨b,o,rfl,h2⟩:=h (by simp)
  exact fp_some (x :: r) p b o c w hn h2
theorem fp_any (L : List Bm) (p : ByteArray) (v : Value) (w : World) (hn : L.length <= 1000000) (hv : MsAt w v L) : Calls Tryz.prog 17 #[v,.string p] w fun e w'=>∃ r,e = .returned (.int .i64 r) /\ FpP L p r /\ w' = w:=
 (fp_is L p v w hn hv).mono fun _ _ ⟨h1,h2⟩=>⟨_,h1,fpOf_P L p,h2⟩
end Ve
end Go.Proofs.YtjbmjnbkibmkpaaGreatDoor


namespace Go.Proofs.YtjbmjnbkibmkpaaGreatDoor
open Go.RowKit
namespace Ve
abbrev Ent:=Bm × List Bm × List ByteArray × Bool
structure RawOk (w : World) (r : Raw) (e : Ent) : Prop where
 m : r.1 = e.1
 rq : MsAt w r.2.1 e.2.1
 pk : TxAt w r.2.2.1 e.2.2.1
 bk : r.2.2.2 = e.2.2.2
theorem RawOk.below {w w' : World} {r : Raw} {e : Ent} (h : RawOk w r e) (hb : Below w.heap.size w w') : RawOk w' r e:=⟨h.m,h.rq.below hb,h.pk.below hb,h.bk⟩
structure Ixs (w : World) (v : Value) (Q : List Raw) (L : List Ent) : Prop where
 es : EsAt w v Q
 ln : Q.length = L.length
 ok : ∀ j (h : j < Q.length) (h' : j < L.length),RawOk w Q[j] L[j]
theorem Ixs.below {w w' : World} {v : Value} {Q : List Raw} {L : List Ent} (h : Ixs w v Q L) (hb : Below w.heap.size w w') : Ixs w' v Q L:=⟨h.es.below hb,h.ln,fun j h1 h2=>(h.ok j h1 h2).below hb⟩
def okP (X : List ByteArray) : Bool:=X.all fun x=>decide (x.size <= 70)
def okE (e : Ent) : Bool:=decide (e.1.1.size <= 70) && decide (e.1.2.size <= 60) && okL e.2.1 && decide (e.2.2.1.length <= 15) && okP e.2.2.1
def okN (n : Nat) : Bool:=decide (n <= 30) || decide (n = 101)
def okI (L : List Ent) : Bool:=okN L.length && L.all okE
def pfxE (L : List Ent) (k : Nat) : Bool:=(L.take k).all okE
theorem okE_next {L : List Ent} {k : Nat} (hk : k < L.length) (h : pfxE L k = true) (hm : okE L[k] = true) : pfxE L (k + 1) = true:=by
 unfold pfxE at h ⊢
 rw [List.take_succ_eq_append_getElem hk,List.all_append,h]
 simp [hm]
theorem okE_not {L : List Ent} {k : Nat} (hk : k < L.length) (hm : okE L[k] = false) : L.all okE = false:=by
 cases e : L.all okE
 ·rfl
 ·have:=List.all_eq_true.1 e L[k] (List.getElem_mem hk)
  rw [hm] at this; cases this
theorem okP_next {X : List ByteArray} {k : Nat} (hk : k < X.length) (h : okP (X.take k) = true) (hm : X[k].size <= 70) : okP (X.take (k + 1)) = true:=by
 unfold okP at h ⊢
 rw [List.take_succ_eq_append_getElem hk,List.all_append,h]
 simp [hm]
theorem okP_not {X : List ByteArray} {k : Nat} (hk : k < X.length) (hm : ¬ X[k].size <= 70) : okP X = false:=by
 cases e : okP X
 ·rfl
 ·have:=List.all_eq_true.1 e X[k] (List.getElem_mem hk)
  exact absurd (of_decide_eq_true this) hm
theorem okN_yes {n : Nat} (h : okN n = true) : ¬ (30 : Int) < (n : Int) \/ ((30 : Int) < (n : Int) /\ ((n : Int) != 101) = false):=by
 unfold okN at h
 rw [Bool.or_eq_true] at h
 rcases h with h | h
 ·left; have:=of_decide_eq_true h; omega
 ·right
  have:=of_decide_eq_true h
  exact ⟨by omega,by rw [bne,beq_iff_eq.2 (show (n : Int) = 101 by omega)]; rfl⟩
end Ve
end Go.Proofs.YtjbmjnbkibmkpaaGreatDoor


namespace Go.Proofs.YtjbmjnbkibmkpaaGreatDoor
open Go.RowKit
namespace Ve
theorem ownM_some (b o c : Nat) (L : List Bm) (w : World) (hn : L.length <= 1000000) (hL : L ≠ []) (hc : ∀ j u,(flatM L)[j]? = some u -> w.cell? ⟨b,o + j,none⟩ = some u) :
  Calls Tryz.prog 10 #[.slice (some ⟨b,o,none⟩) L.length c] w fun e w'=>∃ v,e = .returned v /\ w'.ownsRow w.heap.size 47 2 v L.length (flatM L) /\ Below w.heap.size w w':=by
 obtain ⟨i0,hi,hz0,hz1,hz2⟩:=info_parts infoMod
 have HC:=hid hc
 have hpos : 0 < L.length:=List.length_pos_iff.2 hL
 clear hc hL
 go_enter Tryz.func10,Tryz.ntmps10
 go_wp2_with (at_builtin; refine wpList_append_own _ rfl _ _ 23 rfl w.heap.size 47 i0 _ 2 32 Tryz.underlying23 hi hz0 hz1 hz2 rfl (by decide) _ _ _ rfl (World.ownsRow_nil _ _ _ _) ⟨b,o,none⟩ L.length c (flatM L) rfl ?qc1 ?qc2 ?qc3 ?qc4 ?qc5 ?qc6 ?_)
 case qc1=>exact flatM_len L
 case qc2=>
  intro j u hj
  rw [Addr.add_lit]
  exact HC.out j u hj
 case qc3=>exact flat_one L
 case qc4=>rw [Nat.zero_add]; unfold maxLen; omega
 case qc5=>rw [Nat.zero_add]; omega
 case qc6=>exact Nat.le_refl _
 intro v' w1 hown hgrow hnil
 obtain ⟨va,vn,vc,rfl⟩:=own_sl hown
 have HO:=hid hown
 have HG:=hid hgrow
 clear hown hgrow hnil
 go_wp2_with fail
 go_ret
 refine ⟨_,rfl,by simpa using HO.out,?_⟩
 exact (Below.refl _ w).grown HG.out (Nat.le_refl _) (by intro k hk; simp [Value.ownBlock] at hk)
theorem ownM_nil (w : World) : Calls Tryz.prog 10 #[.slice none 0 0] w fun e w'=>e = .returned (.slice none 0 0) /\ w' = w:=by
 obtain ⟨i0,hi,hz0,hz1,hz2⟩:=info_parts infoMod
 go_enter Tryz.func10,Tryz.ntmps10
 go_wp2_with (at_builtin; refine wpList_append_own_none rfl _ _ 23 rfl w.heap.size 47 i0 2 Tryz.underlying23 hi _ _ _ rfl (World.ownsRow_nil _ _ _ _) rfl ?_)
 go_ret
 exact ⟨rfl,rfl⟩
theorem ownM_none (a : Addr) (c : Nat) (w : World) : Calls Tryz.prog 10 #[.slice (some a) 0 c] w fun e w'=>e = .returned (.slice none 0 0) /\ w' = w:=by
 have hrun : ∀ ty,(Builtin.append_ #[23,23] ty #[.slice none 0 0,.slice (some a) 0 c]).run Tryz.prog w = .ok (.slice none 0 0) w:=fun ty=>by
  obtain ⟨i0,hi,hz0,hz1,hz2⟩:=info_parts infoMod
  have hl : (loadCells a 0).run Tryz.prog w = .ok #[] w:=by simpa using run_loadCells_list (P:=Tryz.prog) w a [] (by simp)
  simp [Builtin.append_,run_underlying Tryz.underlying23,Builtin.lenOf,Builtin.firstCells,Go.sizeOf,typeInfo,hi,hl]
 go_enter Tryz.func10,Tryz.ntmps10
 go_wp2_with (at_builtin; refine Lib.wpList_append_run _ rfl _ _ _ _ rfl _ _ rfl rfl _ _ (hrun _) ?_)
 go_ret
 exact ⟨rfl,rfl⟩
def Em (v : Value) (L : List Bm) : Prop:=∀ a c,v = .slice a L.length c -> L = [] -> (Value.slice a 0 c = .slice none 0 0 \/ ∃ a',Value.slice a 0 c = .slice (some a') 0 c)
theorem ownM_any (v : Value) (L : List Bm) (w : World) (hn : L.length <= 1000000) (hv : MsAt w v L) (hem : Em v L) :
  Calls Tryz.prog 10 #[v] w fun e w'=>∃ u,e = .returned u /\ w'.ownsRow w.heap.size 47 2 u L.length (flatM L) /\ (L = [] -> u = .slice none 0 0) /\ Below w.heap.size w w':=by
 obtain ⟨a,c,rfl,_,h⟩:=hv
 have hz : L = [] -> _:=hem a c rfl
 cases L with
 | nil=>
  rcases hz rfl with hz | ⟨a',hz⟩
  ·show Calls Tryz.prog 10 #[.slice a 0 c] w _
   rw [hz]
   exact (ownM_nil w).mono fun e w' ⟨h1,h2⟩=>⟨_,h1,World.ownsRow_nil _ _ _ _,fun _=>rfl,by rw [h2]; exact Below.refl _ _⟩
  ·show Calls Tryz.prog 10 #[.slice a 0 c] w _
   rw [hz]
   exact (ownM_none a' c w).mono fun e w' ⟨h1,h2⟩=>⟨_,h1,World.ownsRow_nil _ _ _ _,fun _=>rfl,by rw [h2]; exact Below.refl _ _⟩
 | cons x r=>
  obtain ⟨b,o,rfl,h2⟩:=h (by simp)
  exact (ownM_some b o c (x :: r) w hn (by simp) (ms_flat h2)).mono fun e w' ⟨u,h1,h2,h3⟩=>⟨u,h1,h2,(fun h=>by cases h),h3⟩
end Ve
end Go.Proofs.YtjbmjnbkibmkpaaGreatDoor
