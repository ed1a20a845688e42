
import Derived.Test.YtjbmjnbkibmkpaaGreatDoorGt5
import Derived.Test.YtjbmjnbkibmkpaaGreatDoorGt7
import Derived.Test.YtjbmjnbkibmkpaaGreatDoorProg
import Derived.WalkKit
import Derived.LaidEql
import Derived.Stop.Asserts
import Derived.RowKitTokens
set_option maxHeartbeats 8000000
namespace Go.Proofs.YtjbmjnbkibmkpaaGreatDoor
open Go.RowKit
namespace Ve
set_option maxRecDepth 100000 in
theorem first_ents (K : Nat) (cb : Array Value) (E : Nat -> Nat) (L : List Raw) (b o c : Nat) (A : Nat -> Addr) (w : World) (eg : ∀ args w,(callFunc K args).run Tryz.prog w = .ok (.enter K args) w) (hL : L.length <= 1000000) (hs : ∀ r,r ∈ L -> slR r)
  (hc : ∀ j (h : j < L.length),w.cell? ⟨b,o + j * 5,none⟩ = some (.string L[j].1.1) /\ w.cell? ⟨b,o + j * 5 + 1,none⟩ = some (.string L[j].1.2) /\ w.cell? ⟨b,o + j * 5 + 2,none⟩ = some L[j].2.1 /\ w.cell? ⟨b,o + j * 5 + 3,none⟩ = some L[j].2.2.1 /\ w.cell? ⟨b,o + j * 5 + 4,none⟩ = some (.bool L[j].2.2.2))
  (hK : ∀ i (h : i < L.length) W,Below w.heap.size w W -> Calls Tryz.prog K (#[.int .i64 (i : Int),rawV L[i]] ++ cb) W fun e w'=>e = .returned (errA A (E i)) /\ Below W.heap.size W w') :
  Calls Tryz.prog 90 #[.slice (some ⟨b,o,none⟩) L.length c,.func (.func K) #[] cb] w fun e w'=>∃ v,e = .returned v /\ ErrAt w' A v (codeE E L.length) (fstE E L.length) /\ Below w.heap.size w w':=by
 have HK:=hid hK
 have HC:=hid hc
 have HSL:=hid hs
 clear hK hc hs
 go_enter Tryz.func90,Tryz.ntmps90
 go_wp2_with fail
 go_loopw [10] (fun i wr=>∃ k : Nat,k <= L.length /\ i = .int .i64 k /\ Hid (∀ j,j < k -> E j = 0) /\ Hid (Below w.heap.size w wr)) (fun i _=>L.length - (intOf i).toNat)
 case atStart=>exact ⟨0,Nat.zero_le _,rfl,hid (fun j hj=>absurd hj (by omega)),hid (Below.refl _ _)⟩
 case round=>
  obtain ⟨k,hk,rfl,HE,HB⟩:=hrel
  by_cases hlt : k < L.length
  ·obtain ⟨y0,y1,y2,y3,y4⟩:=HC.out k hlt
   have x0:=cell_below HB.out y0
   have x1:=cell_below HB.out y1
   have x2:=cell_below HB.out y2
   have x3:=cell_below HB.out y3
   have x4:=cell_below HB.out y4
   have hsl:=HSL.out L[k] (List.getElem_mem hlt)
   have hkI : (k : Int) < (L.length : Int):=by omega
   have HLT:=hid hlt
   have HKK:=hid (fun W hW=>HK.out k hlt W hW)
   clear y0 y1 y2 y3 y4
   generalize L[k] = x at *
   obtain ⟨⟨p,q⟩,rv,pv,bk⟩:=x
   obtain ⟨⟨ra,rn,rc,hrv⟩,pa,pn,pc,hpv⟩:=hsl
   simp only at hrv hpv
   subst hrv
   subst hpv
   have HBa:=hid (HB.out.alloc HB.out.size (.cells #[.string p,.string q,.slice ra rn rc,.slice pa pn pc,.bool bk] 54))
   have HP:=hid (HKK.out _ HBa.out)
   unfold rawV at HP
   clear hlt HKK
   by_cases h0 : E k = 0
   ·rw [h0,errA0] at HP
    have H0:=hid h0
    clear h0
    go_wp2_with fail
    refine HP.out.mono ?_
    rintro e w1 ⟨rfl,hb1⟩
    have HB1:=hid (HBa.out.trans (hb1.mono HBa.out.size))
    clear hb1
    go_wp2_with fail
    go_roundw
    case rel=>exact ⟨k + 1,by have:=HLT.out; omega,by go_num,hid (fun j hj=>by
     rcases Nat.lt_or_ge j k with h | h
     ·exact HE.out j h
     ·have : j = k:=by omega
      rw [this]; exact H0.out),HB1⟩
    case measure=>have:=HLT.out; simp [intOf]; omega
   ·rw [errA_if A h0] at HP
    have HF:=hid (fstE_some HE.out h0 HLT.out)
    have H0:=hid h0
    clear h0
    go_wp2_with fail
    refine HP.out.mono ?_
    rintro e w1 ⟨rfl,hb1⟩
    have HB1:=hid (HBa.out.trans (hb1.mono HBa.out.size))
    clear hb1
    go_wp2_with fail
    go_ret
    refine ⟨_,rfl,?_,HB1.out.alloc HB1.out.size _⟩
    rw [codeE_some HF.out,HF.out]
    exact fault_at H0.out _
  ·have HF:=hid (fstE_none (E:=E) (n:=L.length) (fun j hj=>HE.out j (by omega)))
   have hkI : ¬ (k : Int) < (L.length : Int):=by omega
   clear hlt
   go_wp2_with fail
   go_ret
   refine ⟨_,rfl,?_,HB.out⟩
   rw [codeE_none HF.out,HF.out]
   rfl
theorem firstE_none (K : Nat) (cb : Array Value) (E : Nat -> Nat) (a : Option Addr) (c : Nat) (A : Nat -> Addr) (w : World) :
  Calls Tryz.prog 90 #[.slice a 0 c,.func (.func K) #[] cb] w fun e w'=>∃ v,e = .returned v /\ ErrAt w' A v (codeE E 0) (fstE E 0) /\ Below w.heap.size w w':=by
 go_enter Tryz.func90,Tryz.ntmps90
 go_wp2_with fail
 go_loopw [10] (fun i wr=>i = .int .i64 0 /\ wr = w) (fun i _=>0)
 case atStart=>exact ⟨rfl,rfl⟩
 case round=>
  obtain ⟨rfl,rfl⟩:=hrel
  go_wp2_with fail
  go_ret
  exact ⟨_,rfl,rfl,Below.refl _ _⟩
theorem firstE_any (K : Nat) (cb : Array Value) (E : Nat -> Nat) (L : List Raw) (v : Value) (A : Nat -> Addr) (w : World) (eg : ∀ args w,(callFunc K args).run Tryz.prog w = .ok (.enter K args) w) (hL : L.length <= 1000000) (hv : EsAt w v L)
  (hK : ∀ i (h : i < L.length) W,Below w.heap.size w W -> Calls Tryz.prog K (#[.int .i64 (i : Int),rawV L[i]] ++ cb) W fun e w'=>e = .returned (errA A (E i)) /\ Below W.heap.size W w') :
  Calls Tryz.prog 90 #[v,.func (.func K) #[] cb] w fun e w'=>∃ u,e = .returned u /\ ErrAt w' A u (codeE E L.length) (fstE E L.length) /\ Below w.heap.size w w':=by
 obtain ⟨a,c,rfl,_,hs,h⟩:=hv
 cases L with
 | nil=>exact firstE_none K cb E a c A w
 | cons x r=>
  obtain ⟨b,o,rfl,h2⟩:=h (by simp)
  exact first_ents K cb E (x :: r) b o c A w eg hL hs h2 hK
theorem mpath_ix (s : ByteArray) (A : Nat -> Addr) (m : Int) (w : World) (hs : s.size < 4294967281) (S : Te w A m) :
  Calls Tryz.prog 36 #[.string s] w fun e w'=>e = .returned (errA A (pathErr s.data.toList)) /\ Below w.heap.size w w':=by
 have HP:=hid (readPath_any s A m w hs S)
 clear S
 go_enter Tryz.func36,Tryz.ntmps36
 go_wp2_with fail
 refine HP.out.mono ?_
 rintro e w1 ⟨⟨H,n,v,rfl,hv,_,_⟩,hb⟩
 have HV:=hid hv
 have HB:=hid hb
 clear hb hv
 go_wp2_with fail
 go_ret
 exact ⟨by rw [<- HV.out]; rfl,HB.out⟩
def noPk (l : List UInt8) : Bool:=decide (l ≠ [46]) && decide (pathErr l ≠ 0)
theorem noPack_any (s : ByteArray) (A : Nat -> Addr) (m : Int) (w : World) (hs : s.size < 4294967281) (S : Te w A m) :
  Calls Tryz.prog 185 #[.string s] w fun e w'=>e = .returned (.bool (noPk s.data.toList)) /\ Below w.heap.size w w':=by
 have HP:=hid (mpath_ix s A m w hs S)
 clear S
 generalize hr : noPk s.data.toList = r
 have HR:=hid hr
 clear hr
 by_cases h1 : s.data.toList = [46]
 ·have hq : (s.toList == [46]) = true:=by rw [ByteArray.toList_eq]; exact beq_iff_eq.2 h1
  have HX:=hid (show noPk s.data.toList = false by unfold noPk; rw [h1]; rfl)
  clear h1
  go_enter Tryz.func185,Tryz.ntmps185
  go_wp2_with fail
  go_ret
  exact ⟨by rw [<- HR.out,HX.out]; rfl,Below.refl _ _⟩
 ·have hq : (s.toList == [46]) = false:=by rw [ByteArray.toList_eq]; exact beq_eq_false_iff_ne.2 h1
  by_cases h2 : pathErr s.data.toList = 0
  ·rw [h2,errA0] at HP
   have HX:=hid (show noPk s.data.toList = false by unfold noPk; rw [h2]; simp)
   clear h1 h2
   go_enter Tryz.func185,Tryz.ntmps185
   go_wp2_with fail
   refine HP.out.mono ?_
   rintro e w1 ⟨rfl,hb⟩
   have HB:=hid hb
   clear hb
   go_wp2_with fail
   go_ret
   exact ⟨by rw [<- HR.out,HX.out]; rfl,HB.out⟩
  ·rw [errA_if A h2] at HP
   have HX:=hid (show noPk s.data.toList = true by unfold noPk; rw [decide_eq_true h1,decide_eq_true h2]; rfl)
   clear h1 h2
   go_enter Tryz.func185,Tryz.ntmps185
   go_wp2_with fail
   refine HP.out.mono ?_
   rintro e w1 ⟨rfl,hb⟩
   have HB:=hid hb
   clear hb
   go_wp2_with fail
   go_ret
   exact ⟨by rw [<- HR.out,HX.out]; rfl,HB.out⟩
theorem idxT_some (K : Nat) (P : List UInt8 -> Bool) (b0 o0 c0 : Nat) (X : List ByteArray) (w : World) (eg : ∀ args w,(callFunc K args).run Tryz.prog w = .ok (.enter K args) w) (hX : X.length <= 1000000) (hc0 : ∀ j (h : j < X.length),w.cell? ⟨b0,o0 + j,none⟩ = some (.string X[j]))
  (hK : ∀ i (h : i < X.length) W,Below w.heap.size w W -> Calls Tryz.prog K #[.string X[i]] W fun e w'=>e = .returned (.bool (P X[i].data.toList)) /\ Below W.heap.size W w') :
  Calls Tryz.prog 167 #[.slice (some ⟨b0,o0,none⟩) X.length c0,.func (.func K) #[] #[]] w fun e w'=>∃ i : Int,e = .returned (.int .i64 i) /\ decide (0 <= i) = (bl X).any P /\ Below w.heap.size w w':=by
 have HC0:=hid hc0
 have HK:=hid hK
 clear hK hc0
 go_enter Tryz.func167,Tryz.ntmps167
 go_wp2_with fail
 go_loopw [8] (fun i wr=>∃ k : Nat,k <= X.length /\ i = .int .i64 k /\ Hid ((bl X).any P = (bl (X.drop k)).any P) /\ Hid (Below w.heap.size w wr)) (fun i _=>X.length - (intOf i).toNat)
 case atStart=>exact ⟨0,Nat.zero_le _,rfl,hid rfl,hid (Below.refl _ _)⟩
 case round=>
  obtain ⟨k,hk,rfl,HO,HB⟩:=hrel
  by_cases hlt : k < X.length
  ·have hx : wr.cell? ⟨b0,o0 + k,none⟩ = some (.string X[k]):=cell_below HB.out (HC0.out k hlt)
   have HP:=hid (HK.out k hlt wr HB.out)
   have HN:=hid (HO.out.trans (any_step P X k hlt))
   generalize hq : P X[k].data.toList = q at *
   clear hq HO
   cases q
   ·go_wp2_with fail
    refine HP.out.mono ?_
    rintro e w1 ⟨rfl,hb1⟩
    have HB1:=hid (HB.out.trans (hb1.mono HB.out.size))
    clear hb1
    go_wp2_with fail
    go_roundw
    case rel=>exact ⟨k + 1,by omega,by go_num,hid (HN.out.trans (Bool.false_or _)),HB1⟩
    case measure=>simp [intOf]; omega
   ·go_wp2_with fail
    refine HP.out.mono ?_
    rintro e w1 ⟨rfl,hb1⟩
    have HB1:=hid (HB.out.trans (hb1.mono HB.out.size))
    clear hb1
    go_wp2_with fail
    go_ret
    exact ⟨k,rfl,by rw [HN.out,Bool.true_or]; exact decide_eq_true (by omega),HB1.out⟩
  ·have HE:=hid (show (bl (X.drop k)).any P = false by rw [List.drop_eq_nil_of_le (by omega)]; rfl)
   go_wp2_with fail
   go_ret
   exact ⟨-1,rfl,by rw [HO.out,HE.out]; rfl,HB.out⟩
theorem idxT_none (K : Nat) (a : Option Addr) (c : Nat) (w : World) : Calls Tryz.prog 167 #[.slice a 0 c,.func (.func K) #[] #[]] w fun e w'=>e = .returned (.int .i64 (-1)) /\ Below w.heap.size w w':=by
 go_enter Tryz.func167,Tryz.ntmps167
 go_wp2_with fail
 go_loopw [8] (fun i wr=>i = .int .i64 0 /\ wr = w) (fun i _=>0)
 case atStart=>exact ⟨rfl,rfl⟩
 case round=>
  obtain ⟨rfl,rfl⟩:=hrel
  go_wp2_with fail
  go_ret
  exact ⟨rfl,Below.refl _ _⟩
theorem idxT_any (K : Nat) (P : List UInt8 -> Bool) (X : List ByteArray) (v : Value) (w : World) (eg : ∀ args w,(callFunc K args).run Tryz.prog w = .ok (.enter K args) w) (hX : X.length <= 1000000) (hv : TxAt w v X)
  (hK : ∀ i (h : i < X.length) W,Below w.heap.size w W -> Calls Tryz.prog K #[.string X[i]] W fun e w'=>e = .returned (.bool (P X[i].data.toList)) /\ Below W.heap.size W w') :
  Calls Tryz.prog 167 #[v,.func (.func K) #[] #[]] w fun e w'=>∃ i : Int,e = .returned (.int .i64 i) /\ decide (0 <= i) = (bl X).any P /\ Below w.heap.size w w':=by
 obtain ⟨a,c,rfl,_,h⟩:=hv
 cases X with
 | nil=>exact (idxT_none K a c w).mono fun e w' ⟨h1,h2⟩=>⟨-1,h1,rfl,h2⟩
 | cons x r=>
  obtain ⟨b,o,rfl,h2⟩:=h (by simp)
  exact idxT_some K P b o c (x :: r) w eg hX h2 hK
theorem hasT_any (K : Nat) (P : List UInt8 -> Bool) (X : List ByteArray) (v : Value) (w : World) (eg : ∀ args w,(callFunc K args).run Tryz.prog w = .ok (.enter K args) w) (hX : X.length <= 1000000) (hv : TxAt w v X)
  (hK : ∀ i (h : i < X.length) W,Below w.heap.size w W -> Calls Tryz.prog K #[.string X[i]] W fun e w'=>e = .returned (.bool (P X[i].data.toList)) /\ Below W.heap.size W w') :
  Calls Tryz.prog 118 #[v,.func (.func K) #[] #[]] w fun e w'=>e = .returned (.bool ((bl X).any P)) /\ Below w.heap.size w w':=by
 have HI:=hid (idxT_any K P X v w eg hX hv hK)
 obtain ⟨a,c,rfl,_⟩:=hv
 clear hK
 go_enter Tryz.func118,Tryz.ntmps118
 go_wp2_with fail
 refine HI.out.mono ?_
 rintro e w1 ⟨i,rfl,hi,hb⟩
 have HB:=hid hb
 have HQ:=hid hi
 clear hb hi
 go_wp2_with fail
 go_ret
 exact ⟨ret_bool HQ.out,HB.out⟩
theorem eqT_any (X Y : List ByteArray) (v u : Value) (w : World) (hX : X.length <= 1000000) (hY : Y.length <= 1000000) (hv : TxAt w v X) (hu : TxAt w u Y) :
  Calls Tryz.prog 186 #[v,u] w fun e w'=>e = .returned (.bool (decide (X = Y))) /\ Below w.heap.size w w':=by
 obtain ⟨a,c,rfl,_,h⟩:=hv
 obtain ⟨a',c',rfl,_,h'⟩:=hu
 cases X with
 | nil=>
  refine (Tryz.slices_Equal_string_empty a a' c Y.length c' w (by omega)).mono fun e w' ⟨h1,h2⟩=>⟨?_,by rw [h2]; exact Below.refl _ _⟩
  rw [h1]
  congr 2
  cases Y with
  | nil=>rfl
  | cons y s=>simp
 | cons x r=>
  by_cases hl : (x :: r).length = Y.length
  ·obtain ⟨b,o,rfl,h2⟩:=h (by simp)
   obtain ⟨b',o',rfl,h3⟩:=h' (by intro hy; rw [hy] at hl; simp at hl)
   refine (Tryz.slices_Equal_string b o (x :: r).length c b' o' Y.length c' (x :: r) Y w (Nat.le_refl _) (Nat.le_refl _) (by omega) (by omega) (fun j hj=>?_) (fun j hj=>?_)).mono fun e w' ⟨h1,q,h4⟩=>⟨?_,by rw [h4]; exact below_drawn_of (Below.refl _ w) q⟩
   ·rw [h2 j hj]; simp [List.getD,List.getElem?_eq_getElem hj]
   ·rw [h3 j hj]; simp [List.getD,List.getElem?_eq_getElem hj]
   ·rw [h1,List.take_length,List.take_length]
  ·refine (Tryz.slices_Equal_string_lens a a' (x :: r).length c Y.length c' w hl).mono fun e w' ⟨h1,h2⟩=>⟨?_,by rw [h2]; exact Below.refl _ _⟩
   rw [h1]
   congr 2
   exact (decide_eq_false (fun hh=>hl (by rw [hh]))).symm
def packErr (Z : List (List UInt8)) : Nat:=if 10 < Z.length then 7 else if Z.any noPk then 1 else if Z = risB Z then 0 else 8
theorem pk_full {Z : List (List UInt8)} (h : 10 < Z.length) : packErr Z = 7:=by unfold packErr; rw [if_pos h]
theorem pk_text {Z : List (List UInt8)} (h : ¬ 10 < Z.length) (h1 : Z.any noPk = true) : packErr Z = 1:=by unfold packErr; rw [if_neg h,if_pos h1]
theorem pk_ok {Z : List (List UInt8)} (h : ¬ 10 < Z.length) (h1 : Z.any noPk = false) (h2 : Z = risB Z) : packErr Z = 0:=by unfold packErr; rw [if_neg h,h1,if_neg (by simp),if_pos h2]
theorem pk_order {Z : List (List UInt8)} (h : ¬ 10 < Z.length) (h1 : Z.any noPk = false) (h2 : ¬ Z = risB Z) : packErr Z = 8:=by unfold packErr; rw [if_neg h,h1,if_neg (by simp),if_neg h2]
theorem eq_ris (X : List ByteArray) : decide (X = tx (risB (bl X))) = decide (bl X = risB (bl X)):=by
 congr 1
 apply propext
 constructor
 ·intro h; have:=congrArg bl h; rwa [bl_tx] at this
 ·intro h; exact bl_inj (by rw [bl_tx]; exact h)
theorem risB_len (Z : List (List UInt8)) : (risB Z).length <= Z.length:=by
 unfold risB
 exact Nat.le_trans (compact_le _) (by rw [srtB_len]; exact Nat.le_refl _)
theorem packs_any (X : List ByteArray) (v : Value) (A : Nat -> Addr) (m : Int) (w : World) (hX : X.length <= 1000) (hz : ∀ x,x ∈ X -> x.size < 999999) (S : Te w A m) (hv : TxAt w v X) :
  Calls Tryz.prog 133 #[v] w fun e w'=>e = .returned (errA A (packErr (bl X))) /\ Below w.heap.size w w':=by
 obtain ⟨a,c,rfl,_⟩:=id hv
 have hbl : (bl X).length = X.length:=bl_len X
 have HS:=hid S
 have g6:=S.sen.g6
 have egN : ∀ args w,(callFunc 185 args).run Tryz.prog w = .ok (.enter 185 args) w:=enters_of Tryz.func185 (by kernel_rfl) rfl
 by_cases h1 : 10 < X.length
 ·have q1 : (10 : Int) < (X.length : Int):=by omega
  rw [pk_full (by rw [hbl]; exact h1)]
  clear hv S h1 egN
  go_enter Tryz.func133,Tryz.ntmps133
  go_wp2_with fail
  go_ret
  exact ⟨rfl,Below.refl _ _⟩
 ·have q1 : ¬ (10 : Int) < (X.length : Int):=by omega
  have HH:=hid (hasT_any 185 noPk X _ w egN (by omega) hv (fun i hi W hW=>noPack_any X[i] A m W (by have:=hz _ (List.getElem_mem hi); omega) (S.below hW)))
  have HV:=hid hv
  have hb10 : ¬ 10 < (bl X).length:=by rw [hbl]; exact h1
  have H10:=hid hb10
  clear hv S h1 egN hb10
  cases h2 : (bl X).any noPk
  ·rw [h2] at HH
   have H2:=hid h2
   clear h2
   go_enter Tryz.func133,Tryz.ntmps133
   go_wp2_with fail
   refine HH.out.mono ?_
   rintro e w1 ⟨rfl,hb⟩
   have HRI:=hid (rising_any X (by omega) _ w1 (HV.out.below hb))
   have HB:=hid hb
   clear hb
   go_wp2_with fail
   refine HRI.out.mono ?_
   rintro e w2 ⟨u,rfl,ho,hb⟩
   have HB2:=hid (HB.out.trans (hb.mono HB.out.size))
   have HEQ:=hid (eqT_any X (tx (risB (bl X))) _ u w2 (by omega) (by rw [tx_len]; have:=risB_len (bl X); omega) (HV.out.below HB2.out) (own_tx ho))
   rw [eq_ris] at HEQ
   obtain ⟨ua,uc,hu⟩:=own_slN ho
   subst hu
   have g7:=(HS.out.below HB2.out).sen.g7
   clear hb ho g6
   by_cases h3 : bl X = risB (bl X)
   ·rw [decide_eq_true h3] at HEQ
    have HX:=hid (pk_ok H10.out H2.out h3)
    clear h3
    go_wp2_with fail
    refine HEQ.out.mono ?_
    rintro e w3 ⟨rfl,hb⟩
    have HB3:=hid (HB2.out.trans (hb.mono HB2.out.size))
    clear hb
    go_wp2_with fail
    go_ret
    exact ⟨by rw [HX.out]; rfl,HB3.out⟩
   ·rw [decide_eq_false h3] at HEQ
    have HX:=hid (pk_order H10.out H2.out h3)
    have HG:=hid (fun W (h : Below w.heap.size w W)=>(HS.out.below h).sen.g7)
    clear h3 g7
    go_wp2_with fail
    refine HEQ.out.mono ?_
    rintro e w3 ⟨rfl,hb⟩
    have HB3:=hid (HB2.out.trans (hb.mono HB2.out.size))
    have g7:=HG.out _ HB3.out
    clear hb
    go_wp2_with fail
    go_ret
    exact ⟨by rw [HX.out]; rfl,HB3.out⟩
  ·rw [h2] at HH
   have HX:=hid (pk_text H10.out h2)
   have HG:=hid (fun W (h : Below w.heap.size w W)=>(HS.out.below h).sen.g0)
   clear h2 g6
   go_enter Tryz.func133,Tryz.ntmps133
   go_wp2_with fail
   refine HH.out.mono ?_
   rintro e w1 ⟨rfl,hb⟩
   have HB:=hid hb
   have g0:=HG.out _ HB.out
   clear hb
   go_wp2_with fail
   go_ret
   exact ⟨by rw [HX.out]; rfl,HB.out⟩
end Ve
end Go.Proofs.YtjbmjnbkibmkpaaGreatDoor


namespace Go.Proofs.YtjbmjnbkibmkpaaGreatDoor
open Go.RowKit Go.Extern.Stop Go.Stop Go.Extern
namespace Er
theorem valueOfPP (t : Addr) (w : World) : (ReflectliteValue.unpack (.iface 82 (.pointer (some t)))).run Tryz.prog w
  = .ok (.agg #[.pointer (some ⟨15,82,none⟩),.pointer (some ⟨w.heap.size,0,none⟩),.int .u64 150]) (w.alloc (.cells #[.pointer (some t)] 82)):=by kernel_rfl
theorem typePP (a : Addr) (w : World) : (ReflectliteValue.methodAny (ReflectliteValue.valueError "reflectlite.Value.Type" 0) (fun t _ _ _ => ReflectliteType.toType t) #[.agg #[.pointer (some ⟨15, 82, none⟩), .pointer (some a), .int .u64 150]]).run Tryz.prog w
  = .ok (.iface 170 (.agg #[.pointer (some ⟨15,82,none⟩)])) w:=by kernel_rfl
theorem methodKind (h : Value) (w : World) : (Go.method 440 170 (.agg #[h]) "Kind").run Tryz.prog w = .ok (336, h) w := by kernel_rfl
theorem kindPP (w : World) : ((ReflectliteType.abiMethod fun t=>(fun a : Nat=>Value.int IntKind.u8 (a : Int)) <$> Rtype.kind t) #[.pointer (some ⟨15,82,none⟩)]).run Tryz.prog w = .ok (.int .u8 22) w:=by kernel_rfl
theorem kindP (w : World) : ((ReflectliteType.abiMethod fun t=>(fun a : Nat=>Value.int IntKind.u8 (a : Int)) <$> Rtype.kind t) #[.pointer (some ⟨15,80,none⟩)]).run Tryz.prog w = .ok (.int .u8 22) w:=by kernel_rfl
theorem partsPP (a : Addr) (w : World) : (ReflectliteValue.parts (.agg #[.pointer (some ⟨15,82,none⟩),.pointer (some a),.int .u64 150])).run Tryz.prog w = .ok (some (82,a,150)) w:=by kernel_rfl
theorem isNilPP (a p : Addr) (W : World) (ha : W.cell? a = some (.pointer (some p))) :
  (ReflectliteValue.method (ReflectliteValue.valueError "reflectlite.Value.IsNil" 0) ReflectliteValue.isNil #[.agg #[.pointer (some ⟨15, 82, none⟩), .pointer (some a), .int .u64 150]]).run Tryz.prog W = .ok (.bool false) W := by
 refine (congrArg (fun s => Sem.run Tryz.prog s W) (show ReflectliteValue.method (ReflectliteValue.valueError "reflectlite.Value.IsNil" 0) ReflectliteValue.isNil #[.agg #[.pointer (some ⟨15, 82, none⟩), .pointer (some a), .int .u64 150]] = (ReflectliteValue.parts (.agg #[.pointer (some ⟨15, 82, none⟩), .pointer (some a), .int .u64 150]) >>= _) from rfl)).trans ?_
 simp only [Sem.run_bind,partsPP,Result.andThen]
 simp [ReflectliteValue.isNil,loadVar,isAgg,underlying,Tryz.underlying82,ha,Result.andThen]
theorem methodElem (h : Value) (w : World) : (Go.method 440 170 (.agg #[h]) "Elem").run Tryz.prog w = .ok (347, .agg #[h]) w := by kernel_rfl
theorem methodImplements (h : Value) (w : World) : (Go.method 440 170 (.agg #[h]) "Implements").run Tryz.prog w = .ok (348, .agg #[h]) w := by kernel_rfl
theorem methodAssignableTo (h : Value) (w : World) : (Go.method 440 170 (.agg #[h]) "AssignableTo").run Tryz.prog w = .ok (345, .agg #[h]) w := by kernel_rfl
theorem elemPP (w : World) : (ReflectliteType.method ReflectliteType.elem #[.agg #[.pointer (some ⟨15,82,none⟩)]]).run Tryz.prog w = .ok (.iface 170 (.agg #[.pointer (some ⟨15,80,none⟩)])) w:=by kernel_rfl
theorem implementsP (w : World) : (ReflectliteType.relation "Implements" ReflectliteType.implements_ #[.agg #[.pointer (some ⟨15, 80, none⟩)], .iface 170 (.agg #[.pointer (some ⟨15, 33, none⟩)])]).run Tryz.prog w = .ok (.bool true) w := by kernel_rfl
theorem typeOfP (v : Value) (w : World) : (ReflectliteType.typeOf #[.iface 80 v]).run Tryz.prog w = .ok (.iface 170 (.agg #[.pointer (some ⟨15,80,none⟩)])) w:=by kernel_rfl
theorem typeOfS (v : Value) (w : World) : (ReflectliteType.typeOf #[.iface 311 v]).run Tryz.prog w = .ok (.iface 170 (.agg #[.pointer (some ⟨15,311,none⟩)])) w:=by kernel_rfl
theorem assignableP (w : World) : (ReflectliteType.relation "AssignableTo" ReflectliteType.assignableTo #[.agg #[.pointer (some ⟨15, 80, none⟩)], .iface 170 (.agg #[.pointer (some ⟨15, 80, none⟩)])]).run Tryz.prog w = .ok (.bool true) w := by kernel_rfl
theorem assignableS (w : World) : (ReflectliteType.relation "AssignableTo" ReflectliteType.assignableTo #[.agg #[.pointer (some ⟨15, 311, none⟩)], .iface 170 (.agg #[.pointer (some ⟨15, 80, none⟩)])]).run Tryz.prog w = .ok (.bool false) w := by kernel_rfl
theorem valueOfP (e : Addr) (w : World) : (ReflectliteValue.unpack (.iface 80 (.pointer (some e)))).run Tryz.prog w
  = .ok (.agg #[.pointer (some ⟨15,80,none⟩),.pointer (some ⟨w.heap.size,0,none⟩),.int .u64 150]) (w.alloc (.cells #[.pointer (some e)] 80)):=by kernel_rfl
theorem elemOfPP (w : World) : (Rtype.elem? 82).run Tryz.prog w = .ok (some 80) w:=by kernel_rfl
theorem mkP (p : Addr) (w : World) : (ReflectliteValue.mk 80 p ReflectliteValue.flagAddr).run Tryz.prog w = .ok (.agg #[.pointer (some ⟨15,80,none⟩),.pointer (some p),.int .u64 406]) w:=by kernel_rfl
theorem elemVPP (a p : Addr) (W : World) (ha : W.cell? a = some (.pointer (some p))) :
  (ReflectliteValue.method (ReflectliteValue.valueError "reflectlite.Value.Elem" 0) ReflectliteValue.elem #[.agg #[.pointer (some ⟨15, 82, none⟩), .pointer (some a), .int .u64 150]]).run Tryz.prog W
   = .ok (.agg #[.pointer (some ⟨15,80,none⟩),.pointer (some p),.int .u64 406]) W:=by
 refine (congrArg (fun s => Sem.run Tryz.prog s W) (show ReflectliteValue.method (ReflectliteValue.valueError "reflectlite.Value.Elem" 0) ReflectliteValue.elem #[.agg #[.pointer (some ⟨15, 82, none⟩), .pointer (some a), .int .u64 150]] = (ReflectliteValue.parts (.agg #[.pointer (some ⟨15, 82, none⟩), .pointer (some a), .int .u64 150]) >>= _) from rfl)).trans ?_
 simp only [Sem.run_bind,partsPP,Result.andThen]
 simp [ReflectliteValue.elem,loadVar,isAgg,underlying,Tryz.underlying82,ha,Result.andThen,elemOfPP,mkP]
theorem partsPa (a : Addr) (w : World) : (ReflectliteValue.parts (.agg #[.pointer (some ⟨15,80,none⟩),.pointer (some a),.int .u64 406])).run Tryz.prog w = .ok (some (80,a,406)) w:=by kernel_rfl
theorem partsP (a : Addr) (w : World) : (ReflectliteValue.parts (.agg #[.pointer (some ⟨15,80,none⟩),.pointer (some a),.int .u64 150])).run Tryz.prog w = .ok (some (80,a,150)) w:=by kernel_rfl
theorem directP (w : World) : (Rtype.directlyAssignable 80 80).run Tryz.prog w = .ok true w:=by kernel_rfl
theorem setP (ta b e : Addr) (old : Value) (W : World) (hb : W.cell? b = some (.pointer (some e))) (ht : W.cell? ta = some old) (hf : W.frozen? ta = false) :
  (ReflectliteValue.set #[.agg #[.pointer (some ⟨15,80,none⟩),.pointer (some ta),.int .u64 406],.agg #[.pointer (some ⟨15,80,none⟩),.pointer (some b),.int .u64 150]]).run Tryz.prog W
   = .ok (.tuple #[]) (W.setCell ta (.pointer (some e))):=by
 refine (congrArg (fun s=>Sem.run Tryz.prog s W) (show ReflectliteValue.set #[.agg #[.pointer (some ⟨15,80,none⟩),.pointer (some ta),.int .u64 406],.agg #[.pointer (some ⟨15,80,none⟩),.pointer (some b),.int .u64 150]] = (ReflectliteValue.parts (.agg #[.pointer (some ⟨15,80,none⟩),.pointer (some ta),.int .u64 406]) >>= fun _=>(ReflectliteValue.parts (.agg #[.pointer (some ⟨15,80,none⟩),.pointer (some b),.int .u64 150]) >>= _)) from rfl)).trans ?_
 simp only [Sem.run_bind,partsPa,partsP,Result.andThen]
 simp [ReflectliteValue.flagAddr,loadVar,isAgg,underlying,Tryz.underlying80,hb,Result.andThen,directP,storeVar,Value.cells,storeCells,Addr.add]
 rw [run_store Tryz.prog W ta _ _ (by rfl)]
 simp [ht,hf]
theorem as_hit (e t : Addr) (old : Value) (w : World) (hg : w.cell? ⟨6,0,none⟩ = some (.iface 170 (.agg #[.pointer (some ⟨15,33,none⟩)]))) (ht0 : w.cell? t = some old) (hf0 : w.frozen? t = false) :
  Calls Tryz.prog 47 #[.iface 80 (.pointer (some e)),.iface 82 (.pointer (some t))] w fun ev w'=>ev = .returned (.bool true) /\ w' = ((((w.alloc (.cells #[.pointer (some t)] 82)).alloc (.cells #[.pointer (some ⟨15,82,none⟩),.pointer (some ⟨w.heap.size,0,none⟩),.int .u64 150] 127)).alloc (.cells #[.pointer (some ⟨15,82,none⟩),.pointer (some ⟨w.heap.size,0,none⟩),.int .u64 150] 127)).alloc (.cells #[.pointer (some e)] 80)).setCell t (.pointer (some e)):=by
 have h6:=@run_callFunc_extern Tryz.prog 93 _ (fun args=>ReflectliteValue.unpack (args.getD 0 (.tuple #[]))) Tryz.func93 (by kernel_rfl) (by kernel_rfl) (by kernel_rfl) (by kernel_rfl)
 have h7 := @run_callFunc_extern Tryz.prog 94 _ (ReflectliteValue.methodAny (ReflectliteValue.valueError "reflectlite.Value.Type" 0) (fun t _ _ _ => ReflectliteType.toType t)) Tryz.func94 (by kernel_rfl) (by kernel_rfl) (by kernel_rfl) (by kernel_rfl)
 have h8 := @run_callFunc_extern Tryz.prog 95 _ (ReflectliteValue.method (ReflectliteValue.valueError "reflectlite.Value.IsNil" 0) ReflectliteValue.isNil) Tryz.func95 (by kernel_rfl) (by kernel_rfl) (by kernel_rfl) (by kernel_rfl)
 have h27:=@run_callFunc_extern Tryz.prog 336 _ (ReflectliteType.abiMethod fun t=>do pure (.int .u8 (<- Rtype.kind t))) Tryz.func336 (by kernel_rfl) (by kernel_rfl) (by kernel_rfl) (by kernel_rfl)
 have h37:=@run_callFunc_extern Tryz.prog 347 _ (ReflectliteType.method ReflectliteType.elem) Tryz.func347 (by kernel_rfl) (by kernel_rfl) (by kernel_rfl) (by kernel_rfl)
 have h38 := @run_callFunc_extern Tryz.prog 348 _ (ReflectliteType.relation "Implements" ReflectliteType.implements_) Tryz.func348 (by kernel_rfl) (by kernel_rfl) (by kernel_rfl) (by kernel_rfl)
 have h10:=@run_callFunc_extern Tryz.prog 135 _ ReflectliteType.typeOf Tryz.func135 (by kernel_rfl) (by kernel_rfl) (by kernel_rfl) (by kernel_rfl)
 have h35 := @run_callFunc_extern Tryz.prog 345 _ (ReflectliteType.relation "AssignableTo" ReflectliteType.assignableTo) Tryz.func345 (by kernel_rfl) (by kernel_rfl) (by kernel_rfl) (by kernel_rfl)
 have h11 := @run_callFunc_extern Tryz.prog 136 _ (ReflectliteValue.method (ReflectliteValue.valueError "reflectlite.Value.Elem" 0) ReflectliteValue.elem) Tryz.func136 (by kernel_rfl) (by kernel_rfl) (by kernel_rfl) (by kernel_rfl)
 have h12:=@run_callFunc_extern Tryz.prog 137 _ ReflectliteValue.set Tryz.func137 (by kernel_rfl) (by kernel_rfl) (by kernel_rfl) (by kernel_rfl)
 have tO:=typeOfP
 have mA:=methodAssignableTo
 have a25:=assignableP
 have v25:=valueOfP
 have f6:=valueOfPP
 have f7:=typePP
 have mK:=methodKind
 have mE:=methodElem
 have mI:=methodImplements
 have k27:=kindPP
 have k25:=kindP
 have e27:=elemPP
 have i25:=implementsP
 have n8:=isNilPP ⟨w.heap.size,0,none⟩ t ((w.alloc (.cells #[.pointer (some t)] 82)).alloc (.cells #[.pointer (some ⟨15,82,none⟩),.pointer (some ⟨w.heap.size,0,none⟩),.int .u64 150] 127)) (by simp)
 have hlt : 6 < w.heap.size:=by
  rcases Nat.lt_or_ge 6 w.heap.size with h | h
  ·exact h
  ·simp [World.cell?,Array.getElem?_eq_none h] at hg
 have hg2 : ((w.alloc (.cells #[.pointer (some t)] 82)).alloc (.cells #[.pointer (some ⟨15,82,none⟩),.pointer (some ⟨w.heap.size,0,none⟩),.int .u64 150] 127)).cell? ⟨6,0,none⟩ = some (.iface 170 (.agg #[.pointer (some ⟨15,33,none⟩)])):=by
  rw [World.cell?_alloc_lt _ _ ⟨6,0,none⟩ (by simp; omega),World.cell?_alloc_lt _ _ ⟨6,0,none⟩ hlt]; exact hg
 have htl : t.block < w.heap.size:=by
  rcases Nat.lt_or_ge t.block w.heap.size with h | h
  ·exact h
  ·simp [World.cell?,Array.getElem?_eq_none h] at ht0
 have el:=elemVPP ⟨w.heap.size,0,none⟩ t (((w.alloc (.cells #[.pointer (some t)] 82)).alloc (.cells #[.pointer (some ⟨15,82,none⟩),.pointer (some ⟨w.heap.size,0,none⟩),.int .u64 150] 127)).alloc (.cells #[.pointer (some ⟨15,82,none⟩),.pointer (some ⟨w.heap.size,0,none⟩),.int .u64 150] 127)) (by rw [World.cell?_alloc_lt _ _ ⟨w.heap.size,0,none⟩ (by simp; omega)]; simp)
 have st:=setP t ⟨w.heap.size + 1 + 1 + 1,0,none⟩ e old ((((w.alloc (.cells #[.pointer (some t)] 82)).alloc (.cells #[.pointer (some ⟨15,82,none⟩),.pointer (some ⟨w.heap.size,0,none⟩),.int .u64 150] 127)).alloc (.cells #[.pointer (some ⟨15,82,none⟩),.pointer (some ⟨w.heap.size,0,none⟩),.int .u64 150] 127)).alloc (.cells #[.pointer (some e)] 80))
  (by rw [World.cell?_alloc_at _ _ _ _ (by simp)]; rfl)
  (by rw [World.cell?_alloc_lt _ _ t (by simp; omega),World.cell?_alloc_lt _ _ t (by simp; omega),World.cell?_alloc_lt _ _ t (by simp; omega),World.cell?_alloc_lt _ _ t htl]; exact ht0)
  (by rw [World.frozen?_alloc_old _ _ t (by simp; omega),World.frozen?_alloc_old _ _ t (by simp; omega),World.frozen?_alloc_old _ _ t (by simp; omega),World.frozen?_alloc_old _ _ t (Nat.ne_of_lt htl)]; exact hf0)
 go_enter Tryz.func47,Tryz.ntmps47
 go_wp2
 refine wp_loop_rounds 1 ?_
 rw [rounds_succ]
 go_wp2
 go_ret
 exact ⟨rfl,rfl⟩
theorem noAsS (v : Value) (xT : TypeId) (w : World) : (Instr.typeAssert (.iface 311 v) xT 175 true).run Tryz.prog w = .ok (.tuple #[.nilIface,.bool false]) w:=run_typeAssert_lacksB Tryz.underlying175 (by kernel_rfl) (by kernel_rfl) v xT w
theorem noUnwrapS (v : Value) (xT : TypeId) (w : World) : (Instr.typeAssert (.iface 311 v) xT 178 true).run Tryz.prog w = .ok (.tuple #[.nilIface,.bool false]) w:=run_typeAssert_lacksB Tryz.underlying178 (by kernel_rfl) (by kernel_rfl) v xT w
theorem noUnwrapsS (v : Value) (xT : TypeId) (w : World) : (Instr.typeAssert (.iface 311 v) xT 180 true).run Tryz.prog w = .ok (.tuple #[.nilIface,.bool false]) w:=run_typeAssert_lacksB Tryz.underlying180 (by kernel_rfl) (by kernel_rfl) v xT w
theorem as_miss (e t : Addr) (w : World) (hg : w.cell? ⟨6,0,none⟩ = some (.iface 170 (.agg #[.pointer (some ⟨15,33,none⟩)]))) :
  Calls Tryz.prog 47 #[.iface 311 (.pointer (some e)),.iface 82 (.pointer (some t))] w fun ev w'=>ev = .returned (.bool false) /\ w' = ((w.alloc (.cells #[.pointer (some t)] 82)).alloc (.cells #[.pointer (some ⟨15,82,none⟩),.pointer (some ⟨w.heap.size,0,none⟩),.int .u64 150] 127)).alloc (.cells #[.pointer (some ⟨15,82,none⟩),.pointer (some ⟨w.heap.size,0,none⟩),.int .u64 150] 127):=by
 have h6:=@run_callFunc_extern Tryz.prog 93 _ (fun args=>ReflectliteValue.unpack (args.getD 0 (.tuple #[]))) Tryz.func93 (by kernel_rfl) (by kernel_rfl) (by kernel_rfl) (by kernel_rfl)
 have h7 := @run_callFunc_extern Tryz.prog 94 _ (ReflectliteValue.methodAny (ReflectliteValue.valueError "reflectlite.Value.Type" 0) (fun t _ _ _ => ReflectliteType.toType t)) Tryz.func94 (by kernel_rfl) (by kernel_rfl) (by kernel_rfl) (by kernel_rfl)
 have h8 := @run_callFunc_extern Tryz.prog 95 _ (ReflectliteValue.method (ReflectliteValue.valueError "reflectlite.Value.IsNil" 0) ReflectliteValue.isNil) Tryz.func95 (by kernel_rfl) (by kernel_rfl) (by kernel_rfl) (by kernel_rfl)
 have h27:=@run_callFunc_extern Tryz.prog 336 _ (ReflectliteType.abiMethod fun t=>do pure (.int .u8 (<- Rtype.kind t))) Tryz.func336 (by kernel_rfl) (by kernel_rfl) (by kernel_rfl) (by kernel_rfl)
 have h37:=@run_callFunc_extern Tryz.prog 347 _ (ReflectliteType.method ReflectliteType.elem) Tryz.func347 (by kernel_rfl) (by kernel_rfl) (by kernel_rfl) (by kernel_rfl)
 have h38 := @run_callFunc_extern Tryz.prog 348 _ (ReflectliteType.relation "Implements" ReflectliteType.implements_) Tryz.func348 (by kernel_rfl) (by kernel_rfl) (by kernel_rfl) (by kernel_rfl)
 have h10:=@run_callFunc_extern Tryz.prog 135 _ ReflectliteType.typeOf Tryz.func135 (by kernel_rfl) (by kernel_rfl) (by kernel_rfl) (by kernel_rfl)
 have h35 := @run_callFunc_extern Tryz.prog 345 _ (ReflectliteType.relation "AssignableTo" ReflectliteType.assignableTo) Tryz.func345 (by kernel_rfl) (by kernel_rfl) (by kernel_rfl) (by kernel_rfl)
 have tO:=typeOfS
 have mA:=methodAssignableTo
 have a25:=assignableS
 have f6:=valueOfPP
 have f7:=typePP
 have mK:=methodKind
 have mE:=methodElem
 have mI:=methodImplements
 have k27:=kindPP
 have k25:=kindP
 have e27:=elemPP
 have i25:=implementsP
 have q1:=noAsS
 have q2:=noUnwrapS
 have q3:=noUnwrapsS
 have n8:=isNilPP ⟨w.heap.size,0,none⟩ t ((w.alloc (.cells #[.pointer (some t)] 82)).alloc (.cells #[.pointer (some ⟨15,82,none⟩),.pointer (some ⟨w.heap.size,0,none⟩),.int .u64 150] 127)) (by simp)
 have hlt : 6 < w.heap.size:=by
  rcases Nat.lt_or_ge 6 w.heap.size with h | h
  ·exact h
  ·simp [World.cell?,Array.getElem?_eq_none h] at hg
 have hg2 : ((w.alloc (.cells #[.pointer (some t)] 82)).alloc (.cells #[.pointer (some ⟨15,82,none⟩),.pointer (some ⟨w.heap.size,0,none⟩),.int .u64 150] 127)).cell? ⟨6,0,none⟩ = some (.iface 170 (.agg #[.pointer (some ⟨15,33,none⟩)])):=by
  rw [World.cell?_alloc_lt _ _ ⟨6,0,none⟩ (by simp; omega),World.cell?_alloc_lt _ _ ⟨6,0,none⟩ hlt]; exact hg
 go_enter Tryz.func47,Tryz.ntmps47
 go_wp2
 refine wp_loop_rounds 1 ?_
 rw [rounds_succ]
 go_wp2
 go_ret
 exact ⟨rfl,rfl⟩
end Er
end Go.Proofs.YtjbmjnbkibmkpaaGreatDoor


namespace Go.Proofs.YtjbmjnbkibmkpaaGreatDoor
open Go.RowKit Go.Extern.Stop Go.Stop Go.Extern
namespace Er
theorem as_miss_b (e t : Addr) (w : World) (hg : w.cell? ⟨6,0,none⟩ = some (.iface 170 (.agg #[.pointer (some ⟨15,33,none⟩)]))) :
  Calls Tryz.prog 47 #[.iface 311 (.pointer (some e)),.iface 82 (.pointer (some t))] w fun ev w'=>ev = .returned (.bool false) /\ Below w.heap.size w w':=
 (as_miss e t w hg).mono fun _ _ ⟨h1,h2⟩=>⟨h1,by
  rw [h2]
  exact (((Below.refl _ _).alloc (Nat.le_refl _) _).alloc (by simp) _).alloc (by simp; omega) _⟩
theorem as_hit_b (e t : Addr) (old : Value) (w : World) (B : Nat) (hB : B <= t.block) (hg : w.cell? ⟨6,0,none⟩ = some (.iface 170 (.agg #[.pointer (some ⟨15,33,none⟩)]))) (ht0 : w.cell? t = some old) (hf0 : w.frozen? t = false) (htb : t.block < w.heap.size) :
  Calls Tryz.prog 47 #[.iface 80 (.pointer (some e)),.iface 82 (.pointer (some t))] w fun ev w'=>ev = .returned (.bool true) /\ Below B w w' /\ w'.cell? t = some (.pointer (some e)):=
 (as_hit e t old w hg ht0 hf0).mono fun _ _ ⟨h1,h2⟩=>⟨h1,by
  rw [h2]
  exact (((((Below.refl _ _).alloc (by omega) _).alloc (by simp; omega) _).alloc (by simp; omega) _).alloc (by simp; omega) _).setCell hB _,by
  rw [h2,World.cell?_setCell_same (u:=old)]
  rw [World.cell?_alloc_lt _ _ t (by simp; omega),World.cell?_alloc_lt _ _ t (by simp; omega),World.cell?_alloc_lt _ _ t (by simp; omega),World.cell?_alloc_lt _ _ t htb]; exact ht0⟩
end Er
end Go.Proofs.YtjbmjnbkibmkpaaGreatDoor


namespace Go.Proofs.YtjbmjnbkibmkpaaGreatDoor
open Go.RowKit
namespace Ve
theorem bare_sen (a : Addr) (A : Nat -> Addr) (m : Int) (w : World) (S : Te w A m) :
  Calls Tryz.prog 25 #[.iface 311 (.pointer (some a))] w fun e w'=>e = .returned (.iface 311 (.pointer (some a))) /\ Below w.heap.size w w':=by
 have HB0:=hid ((Below.refl w.heap.size w).alloc (Nat.le_refl _) (.cells #[.pointer none] 80))
 have HA:=hid (Er.as_miss_b a ⟨w.heap.size,0,none⟩ _ (S.below HB0.out).sen.et)
 clear S
 go_enter Tryz.func25,Tryz.ntmps25
 go_wp2_with fail
 refine HA.out.mono ?_
 rintro e w1 ⟨rfl,hb⟩
 have HB:=hid (HB0.out.trans (hb.mono HB0.out.size))
 clear hb
 go_wp2_with fail
 go_ret
 exact ⟨rfl,HB.out⟩
theorem bare_fault (b : Nat) (x : Addr) (A : Nat -> Addr) (m : Int) (w : World) (S : Te w A m) (h1 : w.cell? ⟨b,1,none⟩ = some (.iface 311 (.pointer (some x)))) :
  Calls Tryz.prog 25 #[.iface 80 (.pointer (some ⟨b,0,none⟩))] w fun e w'=>e = .returned (.iface 311 (.pointer (some x))) /\ Below w.heap.size w w':=by
 have HB0:=hid ((Below.refl w.heap.size w).alloc (Nat.le_refl _) (.cells #[.pointer none] 80))
 have HA:=hid (Er.as_hit_b ⟨b,0,none⟩ ⟨w.heap.size,0,none⟩ (.pointer none) _ w.heap.size (Nat.le_refl _) (S.below HB0.out).sen.et (by simp) (by simp) (by simp))
 have H1:=hid h1
 clear S h1
 go_enter Tryz.func25,Tryz.ntmps25
 go_wp2_with fail
 refine HA.out.mono ?_
 rintro e w1 ⟨rfl,hb,ht⟩
 have HB:=hid (HB0.out.trans hb)
 have c1:=cell_below HB.out H1.out
 clear hb
 go_wp2_with fail
 go_ret
 exact ⟨rfl,HB.out⟩
theorem bare_any (x : Value) (c : Nat) (o : Option Nat) (A : Nat -> Addr) (m : Int) (w : World) (S : Te w A m) (h : ErrAt w A x c o) (hc : c ≠ 0) :
  Calls Tryz.prog 25 #[x] w fun e w'=>e = .returned (errA A c) /\ Below w.heap.size w w':=by
 cases o with
 | none=>
  have h : x = errA A c:=h
  rw [h,errA_if A hc]
  exact bare_sen _ A m w S
 | some i=>
  obtain ⟨_,b,rfl,_,h3⟩:=h
  rw [errA_if A hc] at h3 ⊢
  exact bare_fault b _ A m w S h3
theorem as_nil (p : Addr) (w : World) : Calls Tryz.prog 47 #[.nilIface,.iface 82 (.pointer (some p))] w fun e w'=>e = .returned (.bool false) /\ Below w.heap.size w w':=by
 go_enter Tryz.func47,Tryz.ntmps47
 go_wp2_with fail
 go_ret
 exact ⟨rfl,Below.refl _ _⟩
theorem bare_nil (w : World) : Calls Tryz.prog 25 #[.nilIface] w fun e w'=>e = .returned .nilIface /\ Below w.heap.size w w':=by
 have HA:=hid (as_nil ⟨w.heap.size,0,none⟩ (w.alloc (.cells #[.pointer none] 80)))
 have HB0:=hid ((Below.refl w.heap.size w).alloc (Nat.le_refl _) (.cells #[.pointer none] 80))
 go_enter Tryz.func25,Tryz.ntmps25
 go_wp2_with fail
 refine HA.out.mono ?_
 rintro e w1 ⟨rfl,hb⟩
 have HB:=hid (HB0.out.trans (hb.mono HB0.out.size))
 clear hb
 go_wp2_with fail
 go_ret
 exact ⟨rfl,HB.out⟩
theorem bare_all (x : Value) (c : Nat) (o : Option Nat) (A : Nat -> Addr) (m : Int) (w : World) (S : Te w A m) (h : ErrAt w A x c o) :
  Calls Tryz.prog 25 #[x] w fun e w'=>e = .returned (errA A c) /\ Below w.heap.size w w':=by
 by_cases hc : c = 0
 ·subst hc
  cases o with
  | none=>
   have h : x = errA A 0:=h
   rw [h]
   exact bare_nil w
  | some i=>exact absurd rfl h.1
 ·exact bare_any x c o A m w S h hc
end Ve
end Go.Proofs.YtjbmjnbkibmkpaaGreatDoor


namespace Go.Proofs.YtjbmjnbkibmkpaaGreatDoor
open Go.RowKit
namespace Ve
def nonW (L : List Raw) (m : Bm) : Nat:=if idxOf (isM m) L < 0 then 5 else 0
def nonE (L : List Raw) (R : List Bm) (i : Nat) : Nat:=match R[i]? with
 | none=>0
 | some m=>nonW L m
theorem nonE_at {L : List Raw} {R : List Bm} {i : Nat} (h : i < R.length) : nonE L R i = nonW L R[i]:=by unfold nonE; rw [List.getElem?_eq_getElem h]
theorem modsK_any (L : List Raw) (p q : ByteArray) (i : Int) (b : Nat) (v : Value) (A : Nat -> Addr) (m : Int) (W : World) (hL : L.length <= 1000000) (S : Te W A m) (h1 : W.cell? ⟨b,0,none⟩ = some v) (hv : EsAt W v L) :
  Calls Tryz.prog 134 (#[.int .i64 i,.agg #[.string p,.string q]] ++ #[.pointer (some ⟨b,0,none⟩)]) W fun e w'=>e = .returned (errA A (nonW L (p,q))) /\ Below W.heap.size W w':=by
 have HB0:=hid ((Below.refl W.heap.size W).alloc (Nat.le_refl _) (.cells #[.string p,.string q] 47))
 have HF:=hid (find_any L (p,q) v _ hL (hv.below HB0.out))
 obtain ⟨a,c,rfl,_⟩:=hv
 have h1':=cell_below HB0.out h1
 have HG:=hid (fun X (h : Below W.heap.size W X)=>(S.below h).sen.g4)
 clear S
 unfold nonW
 generalize hx : idxOf (isM (p,q)) L = x at HF ⊢
 clear hx
 by_cases h : x < 0
 ·rw [if_pos h]
  go_enter Tryz.func134,Tryz.ntmps134
  go_wp2_with fail
  refine HF.out.mono ?_
  rintro e w1 ⟨rfl,hb⟩
  have HB:=hid (HB0.out.trans (hb.mono HB0.out.size))
  have g4:=HG.out _ HB.out
  clear hb
  go_wp2_with fail
  go_ret
  exact ⟨rfl,HB.out⟩
 ·rw [if_neg h]
  go_enter Tryz.func134,Tryz.ntmps134
  go_wp2_with fail
  refine HF.out.mono ?_
  rintro e w1 ⟨rfl,hb⟩
  have HB:=hid (HB0.out.trans (hb.mono HB0.out.size))
  clear hb
  go_wp2_with fail
  go_ret
  exact ⟨rfl,HB.out⟩
theorem cmods_any (L : List Raw) (R : List Bm) (v u : Value) (A : Nat -> Addr) (m : Int) (w : World) (hL : L.length <= 1000000) (hR : R.length <= 1000000) (S : Te w A m) (hv : EsAt w v L) (hu : MsAt w u R) :
  Calls Tryz.prog 92 #[v,u] w fun e w'=>∃ x,e = .returned x /\ ErrAt w' A x (codeE (nonE L R) R.length) (fstE (nonE L R) R.length) /\ Below w.heap.size w w':=by
 obtain ⟨a,c,hv1,_⟩:=id hv
 obtain ⟨ua,un,uc,hu1⟩:=hu.slice
 subst hv1
 subst hu1
 have HB0:=hid ((Below.refl w.heap.size w).alloc (Nat.le_refl _) (.cells #[.slice a L.length c] 22))
 have eg : ∀ args w,(callFunc 134 args).run Tryz.prog w = .ok (.enter 134 args) w:=enters_of Tryz.func134 (by kernel_rfl) rfl
 have HF:=hid (first_any 134 #[.pointer (some ⟨w.heap.size,0,none⟩)] (nonE L R) R _ A (w.alloc (.cells #[.slice a L.length c] 22)) eg hR (hu.below HB0.out) (fun i hi W hW=>by
  rw [nonE_at hi]
  exact modsK_any L R[i].1 R[i].2 i w.heap.size _ A m W hL ((S.below HB0.out).below hW) (cell_below hW (by simp)) ((hv.below HB0.out).below hW)))
 clear S hv hu eg
 go_enter Tryz.func92,Tryz.ntmps92
 go_wp2_with fail
 refine HF.out.mono ?_
 rintro e w1 ⟨u,rfl,he,hb⟩
 have HB:=hid (HB0.out.trans (hb.mono HB0.out.size))
 have HE:=hid he
 clear hb he
 go_wp2_with fail
 go_ret
 exact ⟨_,rfl,HE.out,HB.out⟩
theorem checkK_any (L : List Raw) (r : Raw) (R : List Bm) (i : Int) (b : Nat) (v : Value) (A : Nat -> Addr) (m : Int) (W : World) (hL : L.length <= 1000000) (hR : R.length <= 1000000) (S : Te W A m) (h1 : W.cell? ⟨b,0,none⟩ = some v) (hv : EsAt W v L) (hs : slR r) (hr : MsAt W r.2.1 R) :
  Calls Tryz.prog 91 (#[.int .i64 i,rawV r] ++ #[.pointer (some ⟨b,0,none⟩)]) W fun e w'=>e = .returned (errA A (codeE (nonE L R) R.length)) /\ Below W.heap.size W w':=by
 obtain ⟨a,c,hv1,_⟩:=id hv
 obtain ⟨⟨p,q⟩,rv,pv,bk⟩:=r
 obtain ⟨⟨ra,rn,rc,hrv⟩,pa,pn,pc,hpv⟩:=hs
 simp only at hrv hpv hr
 subst hrv
 subst hpv
 subst hv1
 have HB0:=hid ((Below.refl W.heap.size W).alloc (Nat.le_refl _) (.cells #[.string p,.string q,.slice ra rn rc,.slice pa pn pc,.bool bk] 54))
 have HC:=hid (cmods_any L R _ _ A m _ hL hR (S.below HB0.out) (hv.below HB0.out) (hr.below HB0.out))
 have HS:=hid S
 have h1':=cell_below HB0.out h1
 unfold rawV
 clear S hv hr
 go_enter Tryz.func91,Tryz.ntmps91
 go_wp2_with fail
 refine HC.out.mono ?_
 rintro e w1 ⟨x,rfl,he,hb⟩
 have HB:=hid (HB0.out.trans (hb.mono HB0.out.size))
 have HE:=hid (bare_all x _ _ A m w1 (HS.out.below HB.out) he)
 clear hb he
 go_wp2_with fail
 refine HE.out.mono ?_
 rintro e w2 ⟨rfl,hb⟩
 have HB2:=hid (HB.out.trans (hb.mono HB.out.size))
 clear hb
 go_wp2_with fail
 go_ret
 exact ⟨rfl,HB2.out⟩
end Ve
end Go.Proofs.YtjbmjnbkibmkpaaGreatDoor


namespace Go.Proofs.YtjbmjnbkibmkpaaGreatDoor
open Go.RowKit
namespace Ve
def entR (e : Ent) : Nat:=if 20 < e.2.1.length then 7 else if codeE (reqE e.1.1 e.2.1) e.2.1.length ≠ 0 then codeE (reqE e.1.1 e.2.1) e.2.1.length else packErr (bl e.2.2.1)
def entW (prev : Option Bm) (e : Ent) : Nat:=if mErr e.1 ≠ 0 then mErr e.1 else match prev with
 | none=>entR e
 | some p=>if mAhead p e.1 then entR e else 8
theorem entW_bad {o : Option Bm} {e : Ent} (h : mErr e.1 ≠ 0) : entW o e = mErr e.1:=by unfold entW; rw [if_pos h]
theorem entW_none {e : Ent} (h : mErr e.1 = 0) : entW none e = entR e:=by unfold entW; rw [if_neg (by simp [h])]
theorem entW_some {p : Bm} {e : Ent} (h : mErr e.1 = 0) (ha : mAhead p e.1 = true) : entW (some p) e = entR e:=by unfold entW; rw [if_neg (by simp [h])]; simp only [ha,if_true]
theorem entW_order {p : Bm} {e : Ent} (h : mErr e.1 = 0) (ha : mAhead p e.1 = false) : entW (some p) e = 8:=by unfold entW; rw [if_neg (by simp [h])]; simp [ha]
theorem entR_full {e : Ent} (h : 20 < e.2.1.length) : entR e = 7:=by unfold entR; rw [if_pos h]
theorem entR_req {e : Ent} (h : ¬ 20 < e.2.1.length) (hc : codeE (reqE e.1.1 e.2.1) e.2.1.length ≠ 0) : entR e = codeE (reqE e.1.1 e.2.1) e.2.1.length:=by unfold entR; rw [if_neg h,if_pos hc]
theorem entR_pack {e : Ent} (h : ¬ 20 < e.2.1.length) (hc : codeE (reqE e.1.1 e.2.1) e.2.1.length = 0) : entR e = packErr (bl e.2.2.1):=by unfold entR; rw [if_neg h,if_neg (by simp [hc])]
structure ShE (e : Ent) : Prop where
 p : e.1.1.size < 999999
 v : e.1.2.size < 999999
 rn : e.2.1.length <= 1000000
 rs : shortL e.2.1
 pn : e.2.2.1.length <= 1000
 ps : ∀ x,x ∈ e.2.2.1 -> x.size < 999999
theorem eachK_bad (p q : ByteArray) (rv pv : Value) (bk : Bool) (i b : Nat) (A : Nat -> Addr) (m : Int) (W : World) (hs : slR ((p,q),rv,pv,bk)) (hp : p.size < 999999) (hq : q.size < 999999) (S : Te W A m) (h : mErr (p,q) ≠ 0) :
  Calls Tryz.prog 132 #[.int .i64 (i : Int),.agg #[.string p,.string q,rv,pv,.bool bk],.pointer (some ⟨b,0,none⟩)] W fun e w'=>e = .returned (errA A (mErr (p,q))) /\ Below W.heap.size W w':=by
 obtain ⟨⟨ra,rn,rc,hrv⟩,pa,pn,pc,hpv⟩:=hs
 simp only at hrv hpv
 subst hrv
 subst hpv
 have HB0:=hid ((Below.refl W.heap.size W).alloc (Nat.le_refl _) (.cells #[.string p,.string q,.slice ra rn rc,.slice pa pn pc,.bool bk] 54))
 have HM:=hid (mcheck_any p q A m _ (by omega) (by omega) (S.below HB0.out))
 have hme : mErr (p,q) = modErr p.data.toList q.data.toList:=rfl
 rw [<- hme,errA_if A h] at HM
 rw [errA_if A h]
 clear S h hme
 go_enter Tryz.func132,Tryz.ntmps132
 go_wp2_with fail
 refine HM.out.mono ?_
 rintro e w1 ⟨rfl,hb⟩
 have HB:=hid (HB0.out.trans (hb.mono HB0.out.size))
 clear hb
 go_wp2_with fail
 go_ret
 exact ⟨rfl,HB.out⟩
set_option maxRecDepth 100000 in
theorem eachK_0 (pr : Option Bm) (hpr : pr = none) (p q : ByteArray) (rv pv : Value) (eR : List Bm) (eP : List ByteArray) (bk : Bool) (b : Nat) (A : Nat -> Addr) (m : Int) (W : World) (hs : slR ((p,q),rv,pv,bk)) (sh : ShE ((p,q),eR,eP,bk)) (S : Te W A m) (h : mErr (p,q) = 0) (hr : MsAt W rv eR) (hpk : TxAt W pv eP) :
  Calls Tryz.prog 132 #[.int .i64 0,.agg #[.string p,.string q,rv,pv,.bool bk],.pointer (some ⟨b,0,none⟩)] W fun e w'=>e = .returned (errA A (entW pr ((p,q),eR,eP,bk))) /\ Below W.heap.size W w':=by
 obtain ⟨⟨ra,rn,rc,hrv⟩,pa,pn,pc,hpv⟩:=hs
 simp only at hrv hpv
 subst hrv
 subst hpv
 have hrl : rn = eR.length:=by obtain ⟨_,_,h,_⟩:=hr; injection h
 subst hrl
 have HB0:=hid ((Below.refl W.heap.size W).alloc (Nat.le_refl _) (.cells #[.string p,.string q,.slice ra eR.length rc,.slice pa pn pc,.bool bk] 54))
 have HM:=hid (mcheck_any p q A m _ (by have:=sh.p; simp only at this; omega) (by have:=sh.v; simp only at this; omega) (S.below HB0.out))
 have hme : mErr (p,q) = modErr p.data.toList q.data.toList:=rfl
 rw [<- hme,h,errA0] at HM
 have HS:=hid S
 have HSH:=hid sh
 have HR:=hid hr
 have HPK:=hid hpk
 have H:=hid h
 have HGX:=hid (fun w1 (hb : Below (W.alloc (.cells #[.string p,.string q,.slice ra eR.length rc,.slice pa pn pc,.bool bk] 54)).heap.size (W.alloc (.cells #[.string p,.string q,.slice ra eR.length rc,.slice pa pn pc,.bool bk] 54)) w1)=>show w1.heap[W.heap.size]? = some (.cells #[.string p,.string q,.slice ra eR.length rc,.slice pa pn pc,.bool bk] 54 (0,0)) by rw [hb.block _ (by simp)]; exact heap_alloc_new W _)
 clear S sh hr hpk h hme
 go_enter Tryz.func132,Tryz.ntmps132
 go_wp2_with fail
 refine HM.out.mono ?_
 rintro e wz ⟨rfl,hb⟩
 have HBz:=hid (HB0.out.trans (hb.mono HB0.out.size))
 have HEz:=hid (HGX.out wz hb)
 clear hb HM HGX
 go_wp2_with fail
 go_quiet (fail)
 have HB1:=hid (below_drawn_of HBz.out nq)
 have HE1:=hid (show (wz.drewN nq).heap[W.heap.size]? = some (.cells #[.string p,.string q,.slice ra eR.length rc,.slice pa pn pc,.bool bk] 54 (0,0)) from HEz.out)
 obtain ⟨wa,hwa⟩ : ∃ wa,wz.drewN nq = wa:=⟨_,rfl⟩
 rw [hwa] at HB1 HE1 ⊢
 clear hwa
 have y0 : wa.cell? ⟨W.heap.size,0,none⟩ = some (.string p):=by rw [Lib.cell_of_heap HE1.out]; rfl
 have y1 : wa.cell? ⟨W.heap.size,1,none⟩ = some (.string q):=by rw [Lib.cell_of_heap HE1.out]; rfl
 have y2 : wa.cell? ⟨W.heap.size,2,none⟩ = some (.slice ra eR.length rc):=by rw [Lib.cell_of_heap HE1.out]; rfl
 have y3 : wa.cell? ⟨W.heap.size,3,none⟩ = some (.slice pa pn pc):=by rw [Lib.cell_of_heap HE1.out]; rfl
 have y4 : wa.cell? ⟨W.heap.size,4,none⟩ = some (.bool bk):=by rw [Lib.cell_of_heap HE1.out]; rfl
 by_cases hf : 20 < eR.length
 ·have q2 : (20 : Int) < (eR.length : Int):=by omega
  have HX:=hid (show entW pr ((p,q),eR,eP,bk) = 7 by rw [hpr,entW_none H.out]; exact entR_full hf)
  have g6:=(HS.out.below HB1.out).sen.g6
  clear hf
  go_wp2_with fail
  go_ret
  exact ⟨by rw [HX.out]; rfl,HB1.out⟩
 ·have q2 : ¬ (20 : Int) < (eR.length : Int):=by omega
  have HF:=hid hf
  have HRQ:=hid (reqs_any p eR _ A m wa HSH.out.rn HSH.out.rs (HS.out.below HB1.out) (HR.out.below HB1.out))
  clear hf
  go_wp2_with fail
  refine HRQ.out.mono ?_
  rintro e wb ⟨u,rfl,he,hb⟩
  have HB2:=hid (HB1.out.trans (hb.mono HB1.out.size))
  have HE2:=hid (show wb.heap[W.heap.size]? = some (.cells #[.string p,.string q,.slice ra eR.length rc,.slice pa pn pc,.bool bk] 54 (0,0)) by rw [hb.block _ (lt_of_blk HE1.out)]; exact HE1.out)
  clear y0 y1 y2 y3 y4 HRQ
  have z0 : wb.cell? ⟨W.heap.size,0,none⟩ = some (.string p):=by rw [Lib.cell_of_heap HE2.out]; rfl
  have z1 : wb.cell? ⟨W.heap.size,1,none⟩ = some (.string q):=by rw [Lib.cell_of_heap HE2.out]; rfl
  have z2 : wb.cell? ⟨W.heap.size,2,none⟩ = some (.slice ra eR.length rc):=by rw [Lib.cell_of_heap HE2.out]; rfl
  have z3 : wb.cell? ⟨W.heap.size,3,none⟩ = some (.slice pa pn pc):=by rw [Lib.cell_of_heap HE2.out]; rfl
  have z4 : wb.cell? ⟨W.heap.size,4,none⟩ = some (.bool bk):=by rw [Lib.cell_of_heap HE2.out]; rfl
  cases hfe : fstE (reqE p eR) eR.length with
  | none=>
   rw [hfe] at he
   have hc:=codeE_none hfe
   have he : u = errA A (codeE (reqE p eR) eR.length):=he
   rw [hc,errA0] at he
   subst he
   have HX:=hid (show entW pr ((p,q),eR,eP,bk) = packErr (bl eP) by rw [hpr,entW_none H.out]; exact entR_pack HF.out hc)
   have HPP:=hid (packs_any eP _ A m wb HSH.out.pn HSH.out.ps (HS.out.below HB2.out) (HPK.out.below HB2.out))
   clear hb hc hfe
   go_wp2_with fail
   refine HPP.out.mono ?_
   rintro e wc ⟨rfl,hb⟩
   have HB3:=hid (HB2.out.trans (hb.mono HB2.out.size))
   clear hb
   go_wp2_with fail
   go_ret
   exact ⟨by rw [HX.out]; rfl,HB3.out⟩
  | some j=>
   rw [hfe] at he
   have hc : codeE (reqE p eR) eR.length ≠ 0:=he.1
   have HX:=hid (show entW pr ((p,q),eR,eP,bk) = codeE (reqE p eR) eR.length by rw [hpr,entW_none H.out]; exact entR_req HF.out hc)
   have HBA:=hid (bare_any u _ _ A m wb (HS.out.below HB2.out) he hc)
   obtain ⟨_,fb,hu,_⟩:=he
   subst hu
   clear hb hc hfe
   go_wp2_with fail
   refine HBA.out.mono ?_
   rintro e wc ⟨rfl,hb⟩
   have HB3:=hid (HB2.out.trans (hb.mono HB2.out.size))
   clear hb
   go_wp2_with fail
   go_ret
   exact ⟨by rw [HX.out]; rfl,HB3.out⟩
set_option maxRecDepth 100000 in
theorem eachK_1 (pr : Option Bm) (k : Nat) (p0 q0 : ByteArray) (hpr : pr = some (p0,q0)) (p q : ByteArray) (rv pv : Value) (eR : List Bm) (eP : List ByteArray) (bk : Bool) (b : Nat) (A : Nat -> Addr) (m : Int) (W : World) (hs : slR ((p,q),rv,pv,bk)) (sh : ShE ((p,q),eR,eP,bk)) (S : Te W A m) (h : mErr (p,q) = 0) (hr : MsAt W rv eR) (hpk : TxAt W pv eP) (bb oo n c : Nat) (hn : k < n) (hn2 : n <= 1000000) (hq0 : q0.size < 999999) (hl : W.cell? ⟨b,0,none⟩ = some (.slice (some ⟨bb,oo,none⟩) n c)) (hx : W.cell? ⟨bb,oo + k * 5,none⟩ = some (.string p0)) (hy : W.cell? ⟨bb,oo + k * 5 + 1,none⟩ = some (.string q0)) :
  Calls Tryz.prog 132 #[.int .i64 ((k : Int) + 1),.agg #[.string p,.string q,rv,pv,.bool bk],.pointer (some ⟨b,0,none⟩)] W fun e w'=>e = .returned (errA A (entW pr ((p,q),eR,eP,bk))) /\ Below W.heap.size W w':=by
 obtain ⟨⟨ra,rn,rc,hrv⟩,pa,pn,pc,hpv⟩:=hs
 simp only at hrv hpv
 subst hrv
 subst hpv
 have hrl : rn = eR.length:=by obtain ⟨_,_,h,_⟩:=hr; injection h
 subst hrl
 have HB0:=hid ((Below.refl W.heap.size W).alloc (Nat.le_refl _) (.cells #[.string p,.string q,.slice ra eR.length rc,.slice pa pn pc,.bool bk] 54))
 have HM:=hid (mcheck_any p q A m _ (by have:=sh.p; simp only at this; omega) (by have:=sh.v; simp only at this; omega) (S.below HB0.out))
 have hme : mErr (p,q) = modErr p.data.toList q.data.toList:=rfl
 rw [<- hme,h,errA0] at HM
 have HS:=hid S
 have HSH:=hid sh
 have HR:=hid hr
 have HPK:=hid hpk
 have H:=hid h
 have HGX:=hid (fun w1 (hb : Below (W.alloc (.cells #[.string p,.string q,.slice ra eR.length rc,.slice pa pn pc,.bool bk] 54)).heap.size (W.alloc (.cells #[.string p,.string q,.slice ra eR.length rc,.slice pa pn pc,.bool bk] 54)) w1)=>show w1.heap[W.heap.size]? = some (.cells #[.string p,.string q,.slice ra eR.length rc,.slice pa pn pc,.bool bk] 54 (0,0)) by rw [hb.block _ (by simp)]; exact heap_alloc_new W _)
 have HL:=hid hl
 have HXX:=hid hx
 have HYY:=hid hy
 clear S sh hr hpk h hme hl hx hy
 have hk0 : (0 : Int) < (k : Int) + 1:=by omega
 have hk1 : (k : Int) + 1 - 1 = (k : Int):=by omega
 have hkn : (k : Int) < (n : Int):=by omega
 go_enter Tryz.func132,Tryz.ntmps132
 go_wp2_with fail
 refine HM.out.mono ?_
 rintro e wz ⟨rfl,hb⟩
 have HBz:=hid (HB0.out.trans (hb.mono HB0.out.size))
 have HEz:=hid (HGX.out wz hb)
 have hl:=cell_below HBz.out HL.out
 have hx:=cell_below HBz.out HXX.out
 have hy:=cell_below HBz.out HYY.out
 have HAH:=hid (fun X (hX : Below wz.heap.size wz X)=>ahead_any p0 q0 p q A m X hq0 HSH.out.v ((HS.out.below HBz.out).below hX))
 have hma : mAhead (p0,q0) (p,q) = aheadB p0.data.toList q0.data.toList p.data.toList q.data.toList:=rfl
 rw [<- hma] at HAH
 clear hb HM HGX hma
 have x0 : wz.cell? ⟨W.heap.size,0,none⟩ = some (.string p):=by rw [Lib.cell_of_heap HEz.out]; rfl
 have x1 : wz.cell? ⟨W.heap.size,1,none⟩ = some (.string q):=by rw [Lib.cell_of_heap HEz.out]; rfl
 have x2 : wz.cell? ⟨W.heap.size,2,none⟩ = some (.slice ra eR.length rc):=by rw [Lib.cell_of_heap HEz.out]; rfl
 have x3 : wz.cell? ⟨W.heap.size,3,none⟩ = some (.slice pa pn pc):=by rw [Lib.cell_of_heap HEz.out]; rfl
 have x4 : wz.cell? ⟨W.heap.size,4,none⟩ = some (.bool bk):=by rw [Lib.cell_of_heap HEz.out]; rfl
 have gw : IntKind.i64.wrap (k : Int) = (k : Int):=by rw [IntKind.wrap_i64]; omega
 have gk : (0 : Int) <= (k : Int):=by omega
 cases hah : mAhead (p0,q0) (p,q)
 ·rw [hah] at HAH
  have HX:=hid (show entW pr ((p,q),eR,eP,bk) = 8 by rw [hpr]; exact entW_order H.out hah)
  clear hah
  go_wp2_with fail
  go_region_with (go_at_call 76; refine (HAH.out _ (below_drawn _ 1)).mono ?_; rintro e wa ⟨rfl,hb⟩; have HB1:=hid ((HBz.out.trans ((below_drawn _ 1).mono HBz.out.size)).trans (hb.mono HBz.out.size)); have g7:=(HS.out.below HB1.out).sen.g7; clear hb)
  all_goals
   go_wp2_with fail
   go_ret
   exact ⟨by rw [HX.out]; rfl,HB1.out⟩
 ·rw [hah] at HAH
  have HLL:=hid (show entW pr ((p,q),eR,eP,bk) = entR ((p,q),eR,eP,bk) by rw [hpr]; exact entW_some H.out hah)
  clear hah
  go_wp2_with fail
  go_region_with (go_at_call 76; refine (HAH.out _ (below_drawn _ 1)).mono ?_; rintro e wa ⟨rfl,hb⟩; have HB1:=hid ((HBz.out.trans ((below_drawn _ 1).mono HBz.out.size)).trans (hb.mono HBz.out.size)); have HE1:=hid (show wa.heap[W.heap.size]? = some (.cells #[.string p,.string q,.slice ra eR.length rc,.slice pa pn pc,.bool bk] 54 (0,0)) by rw [hb.block _ (lt_of_blk HEz.out)]; exact HEz.out); clear hb x0 x1 x2 x3 x4 hl hx hy)
  all_goals
   have y0 : wa.cell? ⟨W.heap.size,0,none⟩ = some (.string p):=by rw [Lib.cell_of_heap HE1.out]; rfl
   have y1 : wa.cell? ⟨W.heap.size,1,none⟩ = some (.string q):=by rw [Lib.cell_of_heap HE1.out]; rfl
   have y2 : wa.cell? ⟨W.heap.size,2,none⟩ = some (.slice ra eR.length rc):=by rw [Lib.cell_of_heap HE1.out]; rfl
   have y3 : wa.cell? ⟨W.heap.size,3,none⟩ = some (.slice pa pn pc):=by rw [Lib.cell_of_heap HE1.out]; rfl
   have y4 : wa.cell? ⟨W.heap.size,4,none⟩ = some (.bool bk):=by rw [Lib.cell_of_heap HE1.out]; rfl
   by_cases hf : 20 < eR.length
   ·have q2 : (20 : Int) < (eR.length : Int):=by omega
    have HX:=hid (show entW pr ((p,q),eR,eP,bk) = 7 by rw [HLL.out]; exact entR_full hf)
    have g6:=(HS.out.below HB1.out).sen.g6
    clear hf
    go_wp2_with fail
    go_ret
    exact ⟨by rw [HX.out]; rfl,HB1.out⟩
   ·have q2 : ¬ (20 : Int) < (eR.length : Int):=by omega
    have HF:=hid hf
    have HRQ:=hid (reqs_any p eR _ A m wa HSH.out.rn HSH.out.rs (HS.out.below HB1.out) (HR.out.below HB1.out))
    clear hf
    go_wp2_with fail
    refine HRQ.out.mono ?_
    rintro e wb ⟨u,rfl,he,hb⟩
    have HB2:=hid (HB1.out.trans (hb.mono HB1.out.size))
    have HE2:=hid (show wb.heap[W.heap.size]? = some (.cells #[.string p,.string q,.slice ra eR.length rc,.slice pa pn pc,.bool bk] 54 (0,0)) by rw [hb.block _ (lt_of_blk HE1.out)]; exact HE1.out)
    clear y0 y1 y2 y3 y4 HRQ
    have z0 : wb.cell? ⟨W.heap.size,0,none⟩ = some (.string p):=by rw [Lib.cell_of_heap HE2.out]; rfl
    have z1 : wb.cell? ⟨W.heap.size,1,none⟩ = some (.string q):=by rw [Lib.cell_of_heap HE2.out]; rfl
    have z2 : wb.cell? ⟨W.heap.size,2,none⟩ = some (.slice ra eR.length rc):=by rw [Lib.cell_of_heap HE2.out]; rfl
    have z3 : wb.cell? ⟨W.heap.size,3,none⟩ = some (.slice pa pn pc):=by rw [Lib.cell_of_heap HE2.out]; rfl
    have z4 : wb.cell? ⟨W.heap.size,4,none⟩ = some (.bool bk):=by rw [Lib.cell_of_heap HE2.out]; rfl
    cases hfe : fstE (reqE p eR) eR.length with
    | none=>
     rw [hfe] at he
     have hc:=codeE_none hfe
     have he : u = errA A (codeE (reqE p eR) eR.length):=he
     rw [hc,errA0] at he
     subst he
     have HX:=hid (show entW pr ((p,q),eR,eP,bk) = packErr (bl eP) by rw [HLL.out]; exact entR_pack HF.out hc)
     have HPP:=hid (packs_any eP _ A m wb HSH.out.pn HSH.out.ps (HS.out.below HB2.out) (HPK.out.below HB2.out))
     clear hb hc hfe
     go_wp2_with fail
     refine HPP.out.mono ?_
     rintro e wc ⟨rfl,hb⟩
     have HB3:=hid (HB2.out.trans (hb.mono HB2.out.size))
     clear hb
     go_wp2_with fail
     go_ret
     exact ⟨by rw [HX.out]; rfl,HB3.out⟩
    | some j=>
     rw [hfe] at he
     have hc : codeE (reqE p eR) eR.length ≠ 0:=he.1
     have HX:=hid (show entW pr ((p,q),eR,eP,bk) = codeE (reqE p eR) eR.length by rw [HLL.out]; exact entR_req HF.out hc)
     have HBA:=hid (bare_any u _ _ A m wb (HS.out.below HB2.out) he hc)
     obtain ⟨_,fb,hu,_⟩:=he
     subst hu
     clear hb hc hfe
     go_wp2_with fail
     refine HBA.out.mono ?_
     rintro e wc ⟨rfl,hb⟩
     have HB3:=hid (HB2.out.trans (hb.mono HB2.out.size))
     clear hb
     go_wp2_with fail
     go_ret
     exact ⟨by rw [HX.out]; rfl,HB3.out⟩
end Ve
end Go.Proofs.YtjbmjnbkibmkpaaGreatDoor
