
import Derived.Test.YtjbmjnbkibmkpaaGreatDoorGt8
import Derived.Test.YtjbmjnbkibmkpaaGreatDoorGt5
import Derived.Test.YtjbmjnbkibmkpaaGreatDoorGt4
import Derived.Test.YtjbmjnbkibmkpaaGreatDoorGt3
import Derived.Deep.RegionHeld
set_option maxHeartbeats 8000000
namespace Go.Proofs.YtjbmjnbkibmkpaaGreatDoor
open Go.RowKit
namespace Ve
def entE (L : List Ent) (i : Nat) : Nat:=match L[i]? with
 | none=>0
 | some e=>entW (if i = 0 then none else (L[i - 1]?).map (·.1)) e
theorem entE_0 {L : List Ent} (h : 0 < L.length) : entE L 0 = entW none L[0]:=by unfold entE; rw [List.getElem?_eq_getElem h]; rfl
theorem entE_1 {L : List Ent} {k : Nat} (h : k + 1 < L.length) : entE L (k + 1) = entW (some (L[k]'(by omega)).1) L[k + 1]:=by
 unfold entE
 rw [List.getElem?_eq_getElem h]
 simp only [Nat.add_sub_cancel,List.getElem?_eq_getElem (show k < L.length by omega)]
 rw [if_neg (by omega)]; rfl
def reqE2 (Q : List Raw) (L : List Ent) (i : Nat) : Nat:=match L[i]? with
 | none=>0
 | some e=>codeE (nonE Q e.2.1) e.2.1.length
theorem reqE2_at {Q : List Raw} {L : List Ent} {i : Nat} (h : i < L.length) : reqE2 Q L i = codeE (nonE Q L[i].2.1) L[i].2.1.length:=by unfold reqE2; rw [List.getElem?_eq_getElem h]
def chk (Q : List Raw) (L : List Ent) : Nat × Option Nat:=if 100 < L.length then (7,none) else match fstE (entE L) L.length with
 | some i=>(entE L i,some i)
 | none=>(codeE (reqE2 Q L) L.length,fstE (reqE2 Q L) L.length)
theorem chk_full {Q : List Raw} {L : List Ent} (h : 100 < L.length) : chk Q L = (7,none):=by unfold chk; rw [if_pos h]
theorem chk_each {Q : List Raw} {L : List Ent} {i : Nat} (h : ¬ 100 < L.length) (hi : fstE (entE L) L.length = some i) : chk Q L = (entE L i,some i):=by unfold chk; rw [if_neg h,hi]
theorem chk_reqs {Q : List Raw} {L : List Ent} (h : ¬ 100 < L.length) (hi : fstE (entE L) L.length = none) : chk Q L = (codeE (reqE2 Q L) L.length,fstE (reqE2 Q L) L.length):=by unfold chk; rw [if_neg h,hi]
theorem eachK_any (Q : List Raw) (L : List Ent) (v : Value) (b : Nat) (A : Nat -> Addr) (m : Int) (W : World) (hL : L.length <= 1000000) (sh : ∀ e,e ∈ L -> ShE e) (S : Te W A m) (h1 : W.cell? ⟨b,0,none⟩ = some v) (I : Ixs W v Q L) (i : Nat) (hi : i < Q.length) :
  Calls Tryz.prog 132 (#[.int .i64 (i : Int),rawV Q[i]] ++ #[.pointer (some ⟨b,0,none⟩)]) W fun e w'=>e = .returned (errA A (entE L i)) /\ Below W.heap.size W w':=by
 have hiL : i < L.length:=by rw [<- I.ln]; exact hi
 have ok:=I.ok i hi hiL
 have she:=sh L[i] (List.getElem_mem hiL)
 obtain ⟨a,c,hv,_,hs,hc⟩:=id I.es
 have hsl:=hs Q[i] (List.getElem_mem hi)
 cases i with
 | zero=>
  rw [entE_0 hiL]
  generalize hq : Q[0] = r at *
  generalize he : L[0] = e at *
  obtain ⟨⟨p,q⟩,rv,pv,bk⟩:=r
  obtain ⟨⟨p',q'⟩,eR,eP,bk'⟩:=e
  obtain ⟨hm,hrq,hpk,hbk⟩:=ok
  simp only at hm hrq hpk hbk
  subst hbk
  obtain ⟨rfl,rfl⟩ : p = p' /\ q = q':=by injection hm with h1 h2; exact ⟨h1,h2⟩
  by_cases hb : mErr (p,q) = 0
  ·exact eachK_0 none rfl p q rv pv eR eP bk b A m W hsl she S hb hrq hpk
  ·rw [entW_bad hb]
   exact eachK_bad p q rv pv bk 0 b A m W hsl she.p she.v S hb
 | succ k=>
  rw [entE_1 hiL]
  have hkq : k < Q.length:=by omega
  have hkL : k < L.length:=by omega
  have okk:=(I.ok k hkq hkL).m
  have shk:=sh L[k] (List.getElem_mem hkL)
  obtain ⟨bb,oo,ha,hcc⟩:=hc (by intro h; rw [h] at hkq; simp at hkq)
  obtain ⟨y0,y1,_⟩:=hcc k hkq
  generalize hq : Q[k + 1] = r at *
  generalize he : L[k + 1] = e at *
  generalize hpr : L[k].1 = pr at *
  obtain ⟨⟨p,q⟩,rv,pv,bk⟩:=r
  obtain ⟨⟨p',q'⟩,eR,eP,bk'⟩:=e
  obtain ⟨p0,q0⟩:=pr
  obtain ⟨hm,hrq,hpk,hbk⟩:=ok
  simp only at hm hrq hpk hbk
  subst hbk
  obtain ⟨rfl,rfl⟩ : p = p' /\ q = q':=by injection hm with h1 h2; exact ⟨h1,h2⟩
  by_cases hb : mErr (p,q) = 0
  ·refine eachK_1 (some (p0,q0)) k p0 q0 rfl p q rv pv eR eP bk b A m W hsl she S hb hrq hpk bb oo Q.length c hkq (by rw [I.ln]; exact hL) ?_ ?_ ?_ ?_
   ·have:=shk.v; rw [hpr] at this; exact this
   ·rw [h1,hv,ha]
   ·rw [okk] at y0; exact y0
   ·rw [okk] at y1; exact y1
  ·rw [entW_bad hb]
   exact eachK_bad p q rv pv bk (k + 1) b A m W hsl she.p she.v S hb
theorem each_any (Q : List Raw) (L : List Ent) (v : Value) (A : Nat -> Addr) (m : Int) (w : World) (hL : L.length <= 1000000) (sh : ∀ e,e ∈ L -> ShE e) (S : Te w A m) (I : Ixs w v Q L) :
  Calls Tryz.prog 89 #[v] w fun e w'=>∃ x,e = .returned x /\ ErrAt w' A x (codeE (entE L) L.length) (fstE (entE L) L.length) /\ Below w.heap.size w w':=by
 obtain ⟨a,c,hv1,_⟩:=id I.es
 subst hv1
 have HB0:=hid ((Below.refl w.heap.size w).alloc (Nat.le_refl _) (.cells #[.slice a Q.length c] 22))
 have eg : ∀ args w,(callFunc 132 args).run Tryz.prog w = .ok (.enter 132 args) w:=enters_of Tryz.func132 (by kernel_rfl) rfl
 have HF:=hid (firstE_any 132 #[.pointer (some ⟨w.heap.size,0,none⟩)] (entE L) Q _ A (w.alloc (.cells #[.slice a Q.length c] 22)) eg (by rw [I.ln]; exact hL) (I.es.below HB0.out) (fun i hi W hW=>
  eachK_any Q L _ w.heap.size A m W hL sh ((S.below HB0.out).below hW) (cell_below hW (by simp)) ((I.below HB0.out).below hW) i hi))
 have HLN:=hid I.ln
 clear S I eg
 go_enter Tryz.func89,Tryz.ntmps89
 go_wp2_with fail
 refine HF.out.mono ?_
 rintro e w1 ⟨u,rfl,he,hb⟩
 have HB:=hid (HB0.out.trans (hb.mono HB0.out.size))
 rw [HLN.out] at he
 have HE:=hid he
 clear hb he
 go_wp2_with fail
 go_ret
 exact ⟨_,rfl,HE.out,HB.out⟩
theorem icheck_any (Q : List Raw) (L : List Ent) (v : Value) (A : Nat -> Addr) (m : Int) (w : World) (hL : L.length <= 1000000) (sh : ∀ e,e ∈ L -> ShE e) (S : Te w A m) (I : Ixs w v Q L) :
  Calls Tryz.prog 44 #[v] w fun e w'=>∃ x,e = .returned x /\ ErrAt w' A x (chk Q L).1 (chk Q L).2 /\ Below w.heap.size w w':=by
 obtain ⟨a,c,hv1,_,hs,_⟩:=id I.es
 subst hv1
 have HB0:=hid ((Below.refl w.heap.size w).alloc (Nat.le_refl _) (.cells #[.slice a Q.length c] 22))
 have HEA:=hid (each_any Q L _ A m _ hL sh (S.below HB0.out) (I.below HB0.out))
 have hln:=I.ln
 have HS:=hid S
 have HI:=hid I
 have HSL:=hid hs
 have HSH:=hid sh
 have c0 : (w.alloc (.cells #[.slice a Q.length c] 22)).cell? ⟨w.heap.size,0,none⟩ = some (.slice a Q.length c):=by simp
 have HC0:=hid c0
 rw [hln] at c0
 have eg : ∀ args w,(callFunc 91 args).run Tryz.prog w = .ok (.enter 91 args) w:=enters_of Tryz.func91 (by kernel_rfl) rfl
 have HEG:=hid eg
 clear S I hs sh eg
 by_cases h1 : 100 < L.length
 ·have q1 : (100 : Int) < (L.length : Int):=by omega
  have g6:=(HS.out.below HB0.out).sen.g6
  rw [chk_full h1,hln]
  rw [hln] at HB0
  clear h1 HEA
  go_enter Tryz.func44,Tryz.ntmps44
  rw [hln] at g6
  go_wp2_with fail
  go_ret
  exact ⟨_,rfl,rfl,HB0.out⟩
 ·have q1 : ¬ (100 : Int) < (L.length : Int):=by omega
  have H1:=hid h1
  rw [hln] at HB0 HEA ⊢
  clear h1
  go_enter Tryz.func44,Tryz.ntmps44
  go_wp2_with fail
  refine HEA.out.mono ?_
  rintro e w1 ⟨x,rfl,he,hb⟩
  have HB1:=hid (HB0.out.trans (hb.mono HB0.out.size))
  have c1:=cell_below hb c0
  have HC1:=hid c1
  clear hb HEA
  cases hf : fstE (entE L) L.length with
  | some i=>
   rw [hf,codeE_some hf] at he
   have HX:=hid (chk_each (Q:=Q) H1.out hf)
   have HE:=hid he
   obtain ⟨_,fb,hu,_⟩:=he
   subst hu
   clear hf
   go_wp2_with fail
   go_ret
   exact ⟨_,rfl,by rw [HX.out]; exact HE.out,HB1.out⟩
  | none=>
   rw [hf,codeE_none hf] at he
   have he : x = errA A 0:=he
   rw [errA0] at he
   subst he
   have HX:=hid (chk_reqs (Q:=Q) H1.out hf)
   have HF:=hid (firstE_any 91 #[.pointer (some ⟨w.heap.size,0,none⟩)] (reqE2 Q L) Q (.slice a Q.length c) A w1 HEG.out (by rw [hln]; exact hL) ((HI.out.es).below HB1.out) (fun i hi W hW=>by
    have hiL : i < L.length:=by rw [<- hln]; exact hi
    rw [reqE2_at hiL]
    exact checkK_any Q Q[i] L[i].2.1 i w.heap.size (.slice a Q.length c) A m W (by rw [hln]; exact hL) (HSH.out L[i] (List.getElem_mem hiL)).rn ((HS.out.below HB1.out).below hW) (cell_below hW (by rw [hln]; exact HC1.out)) ((HI.out.es.below HB1.out).below hW) (HSL.out Q[i] (List.getElem_mem hi)) ((HI.out.ok i hi hiL).rq.below (HB1.out.trans (hW.mono HB1.out.size)))))
   rw [hln] at HF
   clear hf
   go_wp2_with fail
   refine HF.out.mono ?_
   rintro e w2 ⟨x,rfl,he,hb⟩
   have HB2:=hid (HB1.out.trans (hb.mono HB1.out.size))
   have HE:=hid he
   clear hb he
   go_wp2_with fail
   go_ret
   exact ⟨_,rfl,by rw [HX.out]; exact HE.out,HB2.out⟩
end Ve
end Go.Proofs.YtjbmjnbkibmkpaaGreatDoor


namespace Go.Proofs.YtjbmjnbkibmkpaaGreatDoor
open Go.RowKit
namespace Ve
theorem cbt : ∀ (a b c : List UInt8),Lib.compareBytes a b < 0 -> Lib.compareBytes b c < 0 -> Lib.compareBytes a c < 0:=by
 intro a
 induction a with
 | nil=>
  intro b c h1 h2
  cases c with
  | nil=>cases b <;> simp [Lib.compareBytes] at h2
  | cons z c=>simp [Lib.compareBytes]
 | cons x a ih=>
  intro b c h1 h2
  cases b with
  | nil=>simp [Lib.compareBytes] at h1
  | cons y b=>
   cases c with
   | nil=>simp [Lib.compareBytes] at h2
   | cons z c=>
    simp only [Lib.compareBytes] at h1 h2 ⊢
    by_cases e1 : x < y
    ·by_cases e2 : y < z
     ·rw [if_pos (UInt8.lt_trans e1 e2)]; omega
     ·rw [if_neg e2] at h2
      by_cases e3 : z < y
      ·rw [if_pos e3] at h2; omega
      ·have : y = z:=UInt8.le_antisymm (UInt8.not_lt.1 e3) (UInt8.not_lt.1 e2)
       subst this
       rw [if_pos e1]; omega
    ·rw [if_neg e1] at h1
     by_cases e2 : y < x
     ·rw [if_pos e2] at h1; omega
     ·have : x = y:=UInt8.le_antisymm (UInt8.not_lt.1 e2) (UInt8.not_lt.1 e1)
      subst this
      rw [if_neg e2] at h1
      by_cases e3 : x < z
      ·rw [if_pos e3]; omega
      ·rw [if_neg e3] at h2 ⊢
       by_cases e4 : z < x
       ·rw [if_pos e4] at h2; omega
       ·rw [if_neg e4] at h2 ⊢
        exact ih b c h1 h2
def lt (a b : ByteArray) : Bool:=decide (Lib.compareBytes a.data.toList b.data.toList < 0)
theorem lt_trans {a b c : ByteArray} (h1 : lt a b = true) (h2 : lt b c = true) : lt a c = true:=decide_eq_true (cbt _ _ _ (of_decide_eq_true h1) (of_decide_eq_true h2))
theorem lt_irrefl (a : ByteArray) : lt a a = false:=by
 unfold lt; rw [(cb_zero _ _).2 rfl]; rfl
theorem lt_asymm {a b : ByteArray} (h : lt a b = true) : lt b a = false:=by
 cases h2 : lt b a
 ·rfl
 ·have:=lt_trans h h2
  rw [lt_irrefl] at this; cases this
theorem lt_three (a b : ByteArray) : lt a b = true \/ a = b \/ lt b a = true:=by
 rcases cb_range a.data.toList b.data.toList with h | h | h
 ·exact Or.inl (decide_eq_true (by omega))
 ·exact Or.inr (Or.inl (str_ext ((cb_zero _ _).1 h)))
 ·refine Or.inr (Or.inr (decide_eq_true ?_))
  rw [cb_swap]; omega
theorem noLess_lt (a b : ByteArray) : noLess a b = !lt a b:=rfl
def rising (R : List Bm) : Prop:=R.Pairwise (fun a b=>lt a.1 b.1 = true)
end Ve
end Go.Proofs.YtjbmjnbkibmkpaaGreatDoor


namespace Go.Proofs.YtjbmjnbkibmkpaaGreatDoor
namespace Ve
theorem ordPart_swap (a b : List UInt8) : ordPart b a = -ordPart a b:=by
 unfold ordPart
 cases h1 : digs a <;> cases h2 : digs b
 ·simp only [Bool.false_eq_true,if_false]; exact cb_swap a b
 ·simp
 ·simp
 ·simp only [if_true]; exact fst_swap (ci_swap _ _) (cb_swap _ _)
theorem ordPart_zero (a b : List UInt8) : ordPart a b = 0 ↔ a = b:=by
 unfold ordPart
 cases h1 : digs a <;> cases h2 : digs b
 ·simp only [Bool.false_eq_true,if_false]; exact cb_zero a b
 ·simp only [Bool.false_eq_true,if_false,if_true]
  constructor
  ·intro h; cases h
  ·intro h; subst h; rw [h1] at h2; cases h2
 ·simp only [Bool.false_eq_true,if_false,if_true]
  constructor
  ·intro h; cases h
  ·intro h; subst h; rw [h1] at h2; cases h2
 ·simp only [if_true]
  rw [fst_zero,cb_zero]
  constructor
  ·intro h; exact h.2
  ·intro h; subst h; exact ⟨ci_self _,rfl⟩
theorem ordPs_swap : ∀ (a b : List (List UInt8)),ordPs b a = -ordPs a b
 | [],[]=>rfl
 | [],_ :: _=>rfl
 | _ :: _,[]=>rfl
 | x :: xs,y :: ys=>fst_swap (ordPart_swap x y) (ordPs_swap xs ys)
theorem ordPs_zero : ∀ (a b : List (List UInt8)),ordPs a b = 0 ↔ a = b
 | [],[]=>by simp [ordPs]
 | [],_ :: _=>by simp [ordPs]
 | _ :: _,[]=>by simp [ordPs]
 | x :: xs,y :: ys=>by
  unfold ordPs
  rw [fst_zero,ordPart_zero,ordPs_zero xs ys]
  simp
theorem ordPre_swap (a b : List (List UInt8)) : ordPre b a = -ordPre a b:=by
 unfold ordPre
 by_cases h : a = [] \/ b = []
 ·rw [if_pos h,if_pos h.symm]; exact ci_swap _ _
 ·rw [if_neg h,if_neg (fun k=>h k.symm)]; exact ordPs_swap a b
theorem ordPre_zero (a b : List (List UInt8)) : ordPre a b = 0 ↔ a = b:=by
 unfold ordPre
 by_cases h : a = [] \/ b = []
 ·rw [if_pos h,ci_zero]
  constructor
  ·intro e
   rcases h with h | h
   ·subst h; simp at e; exact e.symm
   ·subst h; simp at e; exact List.length_eq_zero_iff.1 (by omega)
  ·intro e; subst e; rfl
 ·rw [if_neg h]; exact ordPs_zero a b
theorem ordV_swap (s t : List UInt8) : ordV t s = -ordV s t:=
 fst_swap (ci_swap _ _) (fst_swap (ci_swap _ _) (fst_swap (ci_swap _ _) (ordPre_swap _ _)))
theorem ordV_zero {s t : List UInt8} (hs : verErr s = 0) (ht : verErr t = 0) : ordV s t = 0 ↔ s = t:=by
 unfold ordV ordN
 rw [fst_zero,fst_zero,fst_zero,ci_zero,ci_zero,ci_zero,ordPre_zero]
 constructor
 ·rintro ⟨h0,h1,h2,h3⟩
  rw [<- text_back s hs,<- text_back t ht,h0,h1,h2,h3]
 ·intro h; subst h; exact ⟨rfl,rfl,rfl,rfl⟩
theorem ordV_range (s t : List UInt8) : ordV s t = -1 \/ ordV s t = 0 \/ ordV s t = 1:=ordN_range _ _ _ _ _ _ _ _
end Ve
end Go.Proofs.YtjbmjnbkibmkpaaGreatDoor


namespace Go.Proofs.YtjbmjnbkibmkpaaGreatDoor
namespace Ve
theorem fst_lt {a b : Int} : fst a b < 0 ↔ a < 0 \/ a = 0 /\ b < 0:=by
 unfold fst
 by_cases h : a = 0
 ·rw [if_pos h]; subst h; simp
 ·rw [if_neg h]; simp [h]
theorem lex_trans {a1 a2 a3 b1 b2 b3 : Int} (h12 : a1 < 0 -> a2 < 0 -> a3 < 0) (h0l : a1 = 0 -> a3 = a2) (h0r : a2 = 0 -> a3 = a1) (hb : a1 = 0 -> a2 = 0 -> b1 < 0 -> b2 < 0 -> b3 < 0) :
  fst a1 b1 < 0 -> fst a2 b2 < 0 -> fst a3 b3 < 0:=by
 rw [fst_lt,fst_lt,fst_lt]
 rintro (h1 | ⟨h1,k1⟩) (h2 | ⟨h2,k2⟩)
 ·exact Or.inl (h12 h1 h2)
 ·exact Or.inl (by rw [h0r h2]; exact h1)
 ·exact Or.inl (by rw [h0l h1]; exact h2)
 ·exact Or.inr ⟨by rw [h0l h1]; exact h2,hb h1 h2 k1 k2⟩
theorem ci_trans {x y z : Int} (h1 : Lib.compareInt x y < 0) (h2 : Lib.compareInt y z < 0) : Lib.compareInt x z < 0:=by
 have e1 : x < y:=by
  unfold Lib.compareInt at h1
  split at h1
  ·assumption
  ·split at h1 <;> omega
 have e2 : y < z:=by
  unfold Lib.compareInt at h2
  split at h2
  ·assumption
  ·split at h2 <;> omega
 rw [ci_lt (by omega)]; decide
theorem cb_trans : ∀ (a b c : List UInt8),Lib.compareBytes a b < 0 -> Lib.compareBytes b c < 0 -> Lib.compareBytes a c < 0
 | [],[],_,h,_=>by simp [Lib.compareBytes] at h
 | [],_ :: _,[],_,h=>by simp [Lib.compareBytes] at h
 | [],_ :: _,_ :: _,_,_=>by simp [Lib.compareBytes]
 | _ :: _,[],_,h,_=>by simp [Lib.compareBytes] at h
 | _ :: _,_ :: _,[],_,h=>by simp [Lib.compareBytes] at h
 | x :: a,y :: b,z :: c,h1,h2=>by
  unfold Lib.compareBytes at h1 h2 ⊢
  by_cases h3 : x < y
  ·by_cases h4 : y < z
   ·rw [if_pos (UInt8.lt_trans h3 h4)]; decide
   ·rw [if_neg h4] at h2
    by_cases h5 : z < y
    ·rw [if_pos h5] at h2; omega
    ·have:=u8_eq h4 h5
     subst this
     rw [if_pos h3]; decide
  ·rw [if_neg h3] at h1
   by_cases h4 : y < x
   ·rw [if_pos h4] at h1; omega
   ·rw [if_neg h4] at h1
    have:=u8_eq h3 h4
    subst this
    by_cases h5 : x < z
    ·rw [if_pos h5]; decide
    ·rw [if_neg h5] at h2 ⊢
     by_cases h6 : z < x
     ·rw [if_pos h6] at h2; omega
     ·rw [if_neg h6] at h2 ⊢
      exact cb_trans a b c h1 h2
theorem ordPart_trans {a b c : List UInt8} (h1 : ordPart a b < 0) (h2 : ordPart b c < 0) : ordPart a c < 0:=by
 unfold ordPart at *
 cases ha : digs a <;> cases hb : digs b <;> cases hc : digs c <;> rw [ha,hb] at h1 <;> rw [hb,hc] at h2
 ·exact cb_trans _ _ _ h1 h2
 ·exact absurd (show (1 : Int) < 0 from h2) (by decide)
 ·exact absurd (show (1 : Int) < 0 from h1) (by decide)
 ·exact absurd (show (1 : Int) < 0 from h1) (by decide)
 ·show (-1 : Int) < 0; decide
 ·exact absurd (show (1 : Int) < 0 from h2) (by decide)
 ·show (-1 : Int) < 0; decide
 ·refine lex_trans (fun h k=>ci_trans h k) ?_ ?_ (fun _ _ h k=>cb_trans _ _ _ h k) h1 h2
  ·intro h; rw [(ci_zero _ _).1 h]
  ·intro h; rw [(ci_zero _ _).1 h]
theorem ordPs_trans : ∀ (a b c : List (List UInt8)),ordPs a b < 0 -> ordPs b c < 0 -> ordPs a c < 0
 | [],[],_,h,_=>by simp [ordPs] at h
 | [],_ :: _,[],_,h=>by simp [ordPs] at h
 | [],_ :: _,_ :: _,_,_=>by simp [ordPs]
 | _ :: _,[],_,h,_=>by simp [ordPs] at h
 | _ :: _,_ :: _,[],_,h=>by simp [ordPs] at h
 | x :: a,y :: b,z :: c,h1,h2=>by
  unfold ordPs at h1 h2 ⊢
  refine lex_trans (fun h k=>ordPart_trans h k) ?_ ?_ (fun _ _ h k=>ordPs_trans a b c h k) h1 h2
  ·intro h; rw [(ordPart_zero _ _).1 h]
  ·intro h; rw [(ordPart_zero _ _).1 h]
theorem ordPre_trans {a b c : List (List UInt8)} (h1 : ordPre a b < 0) (h2 : ordPre b c < 0) : ordPre a c < 0:=by
 unfold ordPre at *
 by_cases ha : a = []
 ·subst ha
  rw [if_pos (Or.inl rfl)] at h1
  exfalso
  have : ¬ Lib.compareInt (b.length : Int) (([] : List (List UInt8)).length : Int) < 0:=by
   unfold Lib.compareInt
   split
   ·rename_i h; simp at h; omega
   ·split <;> omega
  exact this h1
 ·by_cases hb : b = []
  ·subst hb
   rw [if_pos (Or.inl rfl)] at h2
   exfalso
   have : ¬ Lib.compareInt (c.length : Int) (([] : List (List UInt8)).length : Int) < 0:=by
    unfold Lib.compareInt
    split
    ·rename_i h; simp at h; omega
    ·split <;> omega
   exact this h2
  ·by_cases hc : c = []
   ·subst hc
    rw [if_pos (Or.inr rfl)]
    rw [ci_lt (by have:=List.length_pos_iff.2 ha; simp; omega)]; decide
   ·rw [if_neg (by rintro (h | h); exact ha h; exact hb h)] at h1
    rw [if_neg (by rintro (h | h); exact hb h; exact hc h)] at h2
    rw [if_neg (by rintro (h | h); exact ha h; exact hc h)]
    exact ordPs_trans a b c h1 h2
theorem ordV_trans {s t u : List UInt8} (h1 : ordV s t < 0) (h2 : ordV t u < 0) : ordV s u < 0:=by
 unfold ordV ordN at *
 refine lex_trans (fun h k=>ci_trans h k) ?_ ?_ (fun _ _=>lex_trans (fun h k=>ci_trans h k) ?_ ?_ (fun _ _=>lex_trans (fun h k=>ci_trans h k) ?_ ?_ (fun _ _ h k=>ordPre_trans h k))) h1 h2
 all_goals (intro h; rw [(ci_zero _ _).1 h])
theorem ordV_irr {s t : List UInt8} (h : ordV s t < 0) : ¬ ordV t s < 0:=by rw [ordV_swap s t]; omega
def rises (l : List (List UInt8)) : Prop:=l.Pairwise fun s t=>ordV s t < 0
end Ve
end Go.Proofs.YtjbmjnbkibmkpaaGreatDoor


namespace Go.Proofs.YtjbmjnbkibmkpaaGreatDoor
open Go.RowKit
namespace Ve
theorem mAhead_trans {a b c : Bm} (h1 : mAhead a b = true) (h2 : mAhead b c = true) : mAhead a c = true:=by
 unfold mAhead aheadB at *
 by_cases e1 : a.1.data.toList = b.1.data.toList
 ·rw [if_pos e1] at h1
  rw [e1]
  by_cases e2 : b.1.data.toList = c.1.data.toList
  ·rw [if_pos e2] at h2 ⊢
   unfold lessB at *
   simp only [Bool.and_eq_true,decide_eq_true_eq] at *
   exact ⟨h1.1,h2.2.1,ordV_trans h1.2.2 h2.2.2⟩
  ·rw [if_neg e2] at h2 ⊢; exact h2
 ·rw [if_neg e1] at h1
  by_cases e2 : b.1.data.toList = c.1.data.toList
  ·rw [<- e2,if_neg e1]; exact h1
  ·rw [if_neg e2] at h2
   have h3:=cbt _ _ _ (of_decide_eq_true h1) (of_decide_eq_true h2)
   by_cases e3 : a.1.data.toList = c.1.data.toList
   ·rw [e3] at h3
    have:=lt_irrefl c.1
    unfold lt at this
    exact absurd h3 (of_decide_eq_false this)
   ·rw [if_neg e3]; exact decide_eq_true h3
theorem mAhead_irr (a : Bm) : mAhead a a = false:=by
 unfold mAhead aheadB
 rw [if_pos rfl]
 unfold lessB
 have : ¬ ordV a.2.data.toList a.2.data.toList < 0:=fun h=>ordV_irr h h
 rw [decide_eq_false this,Bool.and_false,Bool.and_false]
theorem chk_each0 {Q : List Raw} {L : List Ent} (h : (chk Q L).1 = 0) : L.length <= 100 /\ ∀ i,i < L.length -> entE L i = 0:=by
 by_cases h1 : 100 < L.length
 ·rw [chk_full h1] at h; exact absurd h (by decide)
 ·refine ⟨by omega,?_⟩
  cases hf : fstE (entE L) L.length with
  | some i=>
   rw [chk_each h1 hf] at h
   exact absurd h (fstE_of_some hf).2.1
  | none=>exact fstE_of_none hf
theorem entE_mod {L : List Ent} {i : Nat} (hi : i < L.length) (h : entE L i = 0) : mErr L[i].1 = 0:=by
 by_cases hm : mErr L[i].1 = 0
 ·exact hm
 ·unfold entE at h
  rw [List.getElem?_eq_getElem hi] at h
  simp only at h
  rw [entW_bad hm] at h
  exact absurd h hm
theorem entE_ahead {L : List Ent} {k : Nat} (hk : k + 1 < L.length) (h : entE L (k + 1) = 0) : mAhead (L[k]'(by omega)).1 L[k + 1].1 = true:=by
 have hm:=entE_mod hk h
 rw [entE_1 hk] at h
 cases ha : mAhead (L[k]'(by omega)).1 L[k + 1].1
 ·rw [entW_order hm ha] at h; exact absurd h (by decide)
 ·rfl
theorem ahead_all {L : List Ent} (h : ∀ i,i < L.length -> entE L i = 0) : ∀ (d i : Nat) (hi : i + d + 1 < L.length),mAhead (L[i]'(by omega)).1 (L[i + d + 1]'hi).1 = true
 | 0,i,hi=>entE_ahead hi (h _ hi)
 | d + 1,i,hi=>mAhead_trans (ahead_all h d i (by omega)) (entE_ahead (k:=i + d + 1) hi (h _ hi))
structure Good (Q : List Raw) : Prop where
 ver : ∀ r,r ∈ Q -> verErr r.1.2.data.toList = 0
 path : ∀ r,r ∈ Q -> pathErr r.1.1.data.toList = 0
 one : ∀ i j (hi : i < Q.length) (hj : j < Q.length),Q[i].1 = Q[j].1 -> i = j
theorem mErr_zero {m : Bm} (h : mErr m = 0) : pathErr m.1.data.toList = 0 /\ verErr m.2.data.toList = 0:=by
 unfold mErr modErr at h
 by_cases h0 : pathErr m.1.data.toList = 0
 ·rw [if_pos h0] at h
  by_cases h1 : verErr m.2.data.toList = 0
  ·exact ⟨h0,h1⟩
  ·rw [if_neg h1] at h; exact absurd h h1
 ·rw [if_neg h0] at h; exact absurd h h0
theorem good_of {w : World} {v : Value} {Q : List Raw} {L : List Ent} (I : Ixs w v Q L) (h : (chk Q L).1 = 0) : Good Q:=by
 obtain ⟨_,he⟩:=chk_each0 h
 have hm : ∀ i (hi : i < Q.length),Q[i].1 = (L[i]'(by rw [<- I.ln]; exact hi)).1:=fun i hi=>(I.ok i hi (by rw [<- I.ln]; exact hi)).m
 have hz : ∀ i (hi : i < Q.length),pathErr Q[i].1.1.data.toList = 0 /\ verErr Q[i].1.2.data.toList = 0:=fun i hi=>by
  rw [hm i hi]; exact mErr_zero (entE_mod _ (he i (by rw [<- I.ln]; exact hi)))
 refine ⟨fun r hr=>?_,fun r hr=>?_,?_⟩
 ·obtain ⟨i,hi,rfl⟩:=List.getElem_of_mem hr
  exact (hz i hi).2
 ·obtain ⟨i,hi,rfl⟩:=List.getElem_of_mem hr
  exact (hz i hi).1
 ·have key : ∀ i j (hi : i < Q.length) (hj : j < Q.length),i < j -> Q[i].1 ≠ Q[j].1:=fun i j hi hj hij e=>by
   have ha:=ahead_all he (j - i - 1) i (by rw [<- I.ln]; omega)
   have hjj : i + (j - i - 1) + 1 = j:=by omega
   simp only [hjj] at ha
   rw [<- hm i hi,<- hm j hj,e,mAhead_irr] at ha
   cases ha
  intro i j hi hj e
  rcases Nat.lt_trichotomy i j with h1 | h1 | h1
  ·exact absurd e (key i j hi hj h1)
  ·exact h1
  ·exact absurd e.symm (key j i hj hi h1)
theorem Good.same {Q : List Raw} (g : Good Q) {r s : Raw} (hr : r ∈ Q) (hs : s ∈ Q) (h : r.1 = s.1) : r = s:=by
 obtain ⟨i,hi,rfl⟩:=List.getElem_of_mem hr
 obtain ⟨j,hj,rfl⟩:=List.getElem_of_mem hs
 have:=g.one i j hi hj h
 subst this; rfl
end Ve
end Go.Proofs.YtjbmjnbkibmkpaaGreatDoor


namespace Go.Proofs.YtjbmjnbkibmkpaaGreatDoor
open Go.RowKit
namespace Ve
abbrev vb (m : Bm) : List UInt8:=m.2.data.toList
theorem ahead_same {a b : Bm} (h : a.1 = b.1) : mAhead a b = lessB (vb a) (vb b):=by
 unfold mAhead aheadB
 rw [if_pos (by rw [h])]
theorem ahead_other {a b : Bm} (h : a.1 ≠ b.1) : mAhead a b = lt a.1 b.1:=by
 unfold mAhead aheadB
 rw [if_neg (fun e=>h (str_ext e))]
 rfl
theorem less_right {s t : List UInt8} (hs : verErr s = 0) (ht : verErr t = 0) : lessB s t = decide (ordV s t < 0):=by
 unfold lessB
 simp [hs,ht]
def nfC (a b : Bm) : Int:=if a.1 = b.1 then (if mAhead b a then -1 else if mAhead a b then 1 else 0) else Lib.compareBytes a.1.data.toList b.1.data.toList
structure Rt (m : Bm) : Prop where
 ok : mErr m = 0
 p : m.1.size < 999999
 v : m.2.size < 999999
theorem Rt.ver {m : Bm} (h : Rt m) : verErr (vb m) = 0:=(mErr_zero h.ok).2
theorem nf_lt {a b : Bm} (ha : Rt a) (hb : Rt b) : nfC a b < 0 ↔ (lt a.1 b.1 = true \/ (a.1 = b.1 /\ ordV (vb b) (vb a) < 0)):=by
 unfold nfC
 by_cases h : a.1 = b.1
 ·rw [if_pos h,ahead_same h.symm,ahead_same h,less_right hb.ver ha.ver,less_right ha.ver hb.ver]
  have hl : ¬ lt a.1 b.1 = true:=by rw [h,lt_irrefl]; simp
  by_cases h1 : ordV (vb b) (vb a) < 0
  ·simp [h1,h]
  ·by_cases h2 : ordV (vb a) (vb b) < 0
   ·simp [h1,h2,hl]
   ·simp [h1,h2,hl]
 ·rw [if_neg h]
  unfold lt
  simp [h]
theorem ordV_le_trans {s t u : List UInt8} (hs : verErr s = 0) (ht : verErr t = 0) (hu : verErr u = 0) (h1 : ordV s t <= 0) (h2 : ordV t u <= 0) : ordV s u <= 0:=by
 rcases Int.lt_or_eq_of_le h1 with a | a
 ·rcases Int.lt_or_eq_of_le h2 with b | b
  ·exact Int.le_of_lt (ordV_trans a b)
  ·rw [<- (ordV_zero ht hu).1 b]; exact h1
 ·rw [(ordV_zero hs ht).1 a]; exact h2
theorem ordV_total {s t : List UInt8} (h : ¬ ordV s t < 0) : ordV t s <= 0:=by rw [ordV_swap s t]; omega
def nfW (a b : Bm) : Prop:=lt a.1 b.1 = true \/ (a.1 = b.1 /\ ordV (vb b) (vb a) <= 0)
theorem nf_not {a b : Bm} (ha : Rt a) (hb : Rt b) (h : ¬ nfC b a < 0) : nfW a b:=by
 rw [nf_lt hb ha] at h
 rcases lt_three a.1 b.1 with h1 | h1 | h1
 ·exact Or.inl h1
 ·refine Or.inr ⟨h1,ordV_total fun h2=>h (Or.inr ⟨h1.symm,h2⟩)⟩
 ·exact absurd (Or.inl h1) h
theorem nf_irr {a : Bm} (ha : Rt a) : ¬ nfC a a < 0:=by
 rw [nf_lt ha ha]
 rintro (h | ⟨_,h⟩)
 ·rw [lt_irrefl] at h; cases h
 ·rw [(ordV_zero ha.ver ha.ver).2 rfl] at h; omega
theorem nf_trans {a b c : Bm} (ha : Rt a) (hb : Rt b) (hc : Rt c) (h1 : nfC a b < 0) (h2 : nfC b c < 0) : nfC a c < 0:=by
 rw [nf_lt ha hb] at h1
 rw [nf_lt hb hc] at h2
 rw [nf_lt ha hc]
 rcases h1 with h1 | ⟨e1,h1⟩
 ·rcases h2 with h2 | ⟨e2,h2⟩
  ·exact Or.inl (lt_trans h1 h2)
  ·rw [<- e2]; exact Or.inl h1
 ·rcases h2 with h2 | ⟨e2,h2⟩
  ·rw [e1]; exact Or.inl h2
  ·exact Or.inr ⟨e1.trans e2,ordV_trans h2 h1⟩
theorem nfW_trans {a b c : Bm} (ha : Rt a) (hb : Rt b) (hc : Rt c) (h1 : nfW a b) (h2 : nfW b c) : nfW a c:=by
 rcases h1 with h1 | ⟨e1,h1⟩
 ·rcases h2 with h2 | ⟨e2,h2⟩
  ·exact Or.inl (lt_trans h1 h2)
  ·rw [nfW,<- e2]; exact Or.inl h1
 ·rcases h2 with h2 | ⟨e2,h2⟩
  ·rw [nfW,e1]; exact Or.inl h2
  ·exact Or.inr ⟨e1.trans e2,ordV_le_trans hc.ver hb.ver ha.ver h2 h1⟩
theorem nfW_not {a b : Bm} (ha : Rt a) (hb : Rt b) (h : nfW a b) : ¬ nfC b a < 0:=by
 rw [nf_lt hb ha]
 rintro (h2 | ⟨e,h2⟩)
 ·rcases h with h | ⟨e,_⟩
  ·rw [lt_asymm h] at h2; cases h2
  ·rw [e,lt_irrefl] at h2; cases h2
 ·rcases h with h | ⟨_,h⟩
  ·rw [e,lt_irrefl] at h; cases h
  ·rw [ordV_swap (vb b) (vb a)] at h2; omega
structure Jn (D E : List Bm) : Prop where
 ri : rising E
 sub : ∀ e,e ∈ E -> e ∈ D /\ mErr e = 0
 top : ∀ x,x ∈ D -> mErr x = 0 -> ∃ e,e ∈ E /\ e.1 = x.1 /\ ordV (vb x) (vb e) <= 0
theorem rising_same {E : List Bm} (h : rising E) {a b : Bm} (ha : a ∈ E) (hb : b ∈ E) (e : a.1 = b.1) : a = b:=by
 obtain ⟨i,hi,rfl⟩:=List.getElem_of_mem ha
 obtain ⟨j,hj,rfl⟩:=List.getElem_of_mem hb
 have hp:=List.pairwise_iff_getElem.1 h
 rcases Nat.lt_trichotomy i j with h1 | h1 | h1
 ·have:=hp i j hi hj h1
  rw [e,lt_irrefl] at this; cases this
 ·subst h1; rfl
 ·have:=hp j i hj hi h1
  rw [e,lt_irrefl] at this; cases this
theorem rising_ext : ∀ {E F : List Bm},rising E -> rising F -> (∀ m,m ∈ E ↔ m ∈ F) -> E = F
 | [],[],_,_,_=>rfl
 | [],f :: F,_,_,h=>by have:=(h f).2 (by simp); cases this
 | e :: E,[],_,_,h=>by have:=(h e).1 (by simp); cases this
 | e :: E,f :: F,hE,hF,h=>by
  obtain ⟨hE1,hE2⟩:=List.pairwise_cons.1 hE
  obtain ⟨hF1,hF2⟩:=List.pairwise_cons.1 hF
  have hef : e = f:=by
   rcases List.mem_cons.1 ((h e).1 (by simp)) with a | a
   ·exact a
   ·rcases List.mem_cons.1 ((h f).2 (by simp)) with b | b
    ·exact b.symm
    ·have h1:=hF1 e a
     have h2:=hE1 f b
     rw [lt_asymm h1] at h2; cases h2
  subst hef
  have : E = F:=rising_ext hE2 hF2 fun m=>by
   constructor
   ·intro hm
    rcases List.mem_cons.1 ((h m).1 (List.mem_cons_of_mem _ hm)) with a | a
    ·subst a; have:=hE1 m hm; rw [lt_irrefl] at this; cases this
    ·exact a
   ·intro hm
    rcases List.mem_cons.1 ((h m).2 (List.mem_cons_of_mem _ hm)) with a | a
    ·subst a; have:=hF1 m hm; rw [lt_irrefl] at this; cases this
    ·exact a
  rw [this]
theorem ver_same {a b : Bm} (ha : mErr a = 0) (hb : mErr b = 0) (e : a.1 = b.1) (h1 : ordV (vb a) (vb b) <= 0) (h2 : ordV (vb b) (vb a) <= 0) : a = b:=by
 have h0 : ordV (vb a) (vb b) = 0:=by rw [ordV_swap (vb a) (vb b)] at h2; omega
 have:=(ordV_zero (mErr_zero ha).2 (mErr_zero hb).2).1 h0
 exact Prod.ext e (str_ext this)
theorem Jn.one {D D' E F : List Bm} (hE : Jn D E) (hF : Jn D' F) (h : ∀ m,mErr m = 0 -> (m ∈ D ↔ m ∈ D')) : E = F:=by
 refine rising_ext hE.ri hF.ri fun m=>?_
 have go : ∀ {D D' E F : List Bm},Jn D E -> Jn D' F -> (∀ m,mErr m = 0 -> (m ∈ D ↔ m ∈ D')) -> ∀ m,m ∈ E -> m ∈ F:=by
  intro D D' E F hE hF h m hm
  obtain ⟨h1,h2⟩:=hE.sub m hm
  obtain ⟨f,hf,e1,h3⟩:=hF.top m ((h m h2).1 h1) h2
  obtain ⟨h4,h5⟩:=hF.sub f hf
  obtain ⟨g,hg,e2,h6⟩:=hE.top f ((h f h5).2 h4) h5
  have hgm : g = m:=rising_same hE.ri hg hm (e2.trans e1)
  subst hgm
  rw [ver_same h2 h5 e1.symm h3 h6]; exact hf
 exact ⟨go hE hF h m,go hF hE (fun m hm=>(h m hm).symm) m⟩
def atP (B : List Bm) (p : ByteArray) : Option Bm:=B.find? fun x=>decide (x.1 = p)
theorem atP_rising {E : List Bm} (h : rising E) {e : Bm} (he : e ∈ E) : atP E e.1 = some e:=by
 unfold atP
 cases hf : E.find? fun x=>decide (x.1 = e.1) with
 | none=>
  have:=List.find?_eq_none.1 hf e he
  simp at this
 | some x=>
  have h1:=List.find?_some hf
  have h2:=List.mem_of_find?_eq_some hf
  have h3 : x.1 = e.1:=by simpa using h1
  rw [rising_same h h2 he h3]
end Ve
end Go.Proofs.YtjbmjnbkibmkpaaGreatDoor


namespace Go.Proofs.YtjbmjnbkibmkpaaGreatDoor
open Go.RowKit
namespace Ve
def idxB (P : Bm -> Bool) (L : List Bm) : Int:=if L.any P then (L.findIdx P : Int) else -1
theorem idxB_hit {P : Bm -> Bool} {L : List Bm} {k : Nat} (hk : k < L.length) (h0 : ∀ j (hj : j < L.length),j < k -> P L[j] = false) (h : P L[k] = true) : idxB P L = (k : Int):=by
 unfold idxB
 rw [if_pos (List.any_eq_true.2 ⟨L[k],List.getElem_mem hk,h⟩),(List.findIdx_eq hk).2 ⟨h,fun j hj=>h0 j (by omega) hj⟩]
theorem idxB_not {P : Bm -> Bool} {L : List Bm} (h0 : ∀ j (hj : j < L.length),P L[j] = false) : idxB P L = -1:=by
 unfold idxB
 rw [if_neg]
 intro h
 obtain ⟨x,hx,h1⟩:=List.any_eq_true.1 h
 obtain ⟨j,hj,rfl⟩:=List.getElem_of_mem hx
 rw [h0 j hj] at h1; cases h1
theorem idxB_next {P : Bm -> Bool} {L : List Bm} {k : Nat} (hk : k < L.length) (h0 : ∀ j (hj : j < L.length),j < k -> P L[j] = false) (h : P L[k] = false) : ∀ j (hj : j < L.length),j < k + 1 -> P L[j] = false:=fun j hj hjk=>by
 rcases Nat.lt_or_ge j k with h1 | h1
 ·exact h0 j hj h1
 ·have : j = k:=by omega
  subst this; exact h
theorem idxB_kind (P : Bm -> Bool) (L : List Bm) : (idxB P L = -1 /\ ∀ x,x ∈ L -> P x = false) \/ ∃ k,∃ hk : k < L.length,idxB P L = (k : Int) /\ P L[k] = true /\ ∀ j (hj : j < L.length),j < k -> P L[j] = false:=by
 by_cases h : L.any P
 ·refine Or.inr ⟨L.findIdx P,List.findIdx_lt_length.2 (List.any_eq_true.1 h),by unfold idxB; rw [if_pos h],List.findIdx_getElem,fun j hj hjk=>?_⟩
  have:=List.not_of_lt_findIdx hjk
  simpa using this
 ·refine Or.inl ⟨by unfold idxB; rw [if_neg h],fun x hx=>?_⟩
  cases hp : P x
  ·rfl
  ·exact absurd (List.any_eq_true.2 ⟨x,hx,hp⟩) h
set_option maxRecDepth 100000 in
theorem idxM_some (K : Nat) (cb : Array Value) (P : Bm -> Bool) (L : List Bm) (b o c : Nat) (w : World) (eg : ∀ args w,(callFunc K args).run Tryz.prog w = .ok (.enter K args) w) (hL : L.length <= 1000000)
  (hc : ∀ j (h : j < L.length),w.cell? ⟨b,o + j * 2,none⟩ = some (.string L[j].1) /\ w.cell? ⟨b,o + j * 2 + 1,none⟩ = some (.string L[j].2))
  (hK : ∀ i (h : i < L.length) W,Below w.heap.size w W -> Calls Tryz.prog K (#[.agg #[.string L[i].1,.string L[i].2]] ++ cb) W fun e w'=>e = .returned (.bool (P L[i])) /\ Below W.heap.size W w') :
  Calls Tryz.prog 97 #[.slice (some ⟨b,o,none⟩) L.length c,.func (.func K) #[] cb] w fun e w'=>e = .returned (.int .i64 (idxB P L)) /\ Below w.heap.size w w':=by
 have HK:=hid hK
 have HC:=hid hc
 generalize hr : idxB P L = r
 have HR:=hid hr
 clear hK hc hr
 go_enter Tryz.func97,Tryz.ntmps97
 go_wp2_with fail
 go_loopw [8] (fun i wr=>∃ k : Nat,k <= L.length /\ i = .int .i64 k /\ Hid (∀ j (h : j < L.length),j < k -> P L[j] = false) /\ Hid (Below w.heap.size w wr)) (fun i _=>L.length - (intOf i).toNat)
 case atStart=>exact ⟨0,Nat.zero_le _,rfl,hid (fun j _ hj=>absurd hj (by omega)),hid (Below.refl _ _)⟩
 case round=>
  obtain ⟨k,hk,rfl,HA,HB⟩:=hrel
  by_cases hlt : k < L.length
  ·have HP:=hid (HK.out k hlt wr HB.out)
   have x0:=cell_below HB.out (HC.out k hlt).1
   have x1:=cell_below HB.out (HC.out k hlt).2
   have hkI : (k : Int) < (L.length : Int):=by omega
   have HLT:=hid hlt
   have HF:=hid (fun h=>idxB_hit hlt HA.out h)
   have HN:=hid (fun h=>idxB_next hlt HA.out h)
   generalize hx : L[k] = x at *
   cases hp : P x
   ·rw [hp] at HP
    have HN2:=hid (HN.out hp)
    clear hp hx hlt
    go_wp2_with fail
    refine HP.out.mono ?_
    rintro e w1 ⟨rfl,hb⟩
    have HB1:=hid (HB.out.trans (hb.mono HB.out.size))
    clear hb
    go_wp2_with fail
    go_roundw
    case rel=>exact ⟨k + 1,by have:=HLT.out; omega,by go_num,HN2,HB1⟩
    case measure=>have:=HLT.out; simp [intOf]; omega
   ·rw [hp] at HP
    have HF2:=hid (HF.out hp)
    clear hp hx hlt
    go_wp2_with fail
    refine HP.out.mono ?_
    rintro e w1 ⟨rfl,hb⟩
    have HB1:=hid (HB.out.trans (hb.mono HB.out.size))
    clear hb
    go_wp2_with fail
    go_ret
    exact ⟨by rw [<- HR.out,HF2.out]; rfl,HB1.out⟩
  ·have HF:=hid (idxB_not (P:=P) (L:=L) (fun j hj=>HA.out j hj (by omega)))
   go_wp2_with fail
   go_ret
   exact ⟨by rw [<- HR.out,HF.out]; rfl,HB.out⟩
theorem idxM_none (K : Nat) (cb : Array Value) (a : Option Addr) (c : Nat) (w : World) :
  Calls Tryz.prog 97 #[.slice a 0 c,.func (.func K) #[] cb] w fun e w'=>e = .returned (.int .i64 (-1)) /\ Below w.heap.size w w':=by
 go_enter Tryz.func97,Tryz.ntmps97
 go_wp2_with fail
 go_loopw [8] (fun i wr=>i = .int .i64 0 /\ wr = w) (fun i _=>0)
 case atStart=>exact ⟨rfl,rfl⟩
 case round=>
  obtain ⟨rfl,rfl⟩:=hrel
  go_wp2_with fail
  go_ret
  exact ⟨rfl,Below.refl _ _⟩
theorem idxM_any (K : Nat) (cb : Array Value) (P : Bm -> Bool) (L : List Bm) (v : Value) (w : World) (eg : ∀ args w,(callFunc K args).run Tryz.prog w = .ok (.enter K args) w) (hL : L.length <= 1000000) (hv : MsAt w v L)
  (hK : ∀ i (h : i < L.length) W,Below w.heap.size w W -> Calls Tryz.prog K (#[.agg #[.string L[i].1,.string L[i].2]] ++ cb) W fun e w'=>e = .returned (.bool (P L[i])) /\ Below W.heap.size W w') :
  Calls Tryz.prog 97 #[v,.func (.func K) #[] cb] w fun e w'=>e = .returned (.int .i64 (idxB P L)) /\ Below w.heap.size w w':=by
 obtain ⟨a,c,rfl,_,h⟩:=hv
 cases L with
 | nil=>exact idxM_none K cb a c w
 | cons x r=>
  obtain ⟨b,o,rfl,h2⟩:=h (by simp)
  exact idxM_some K cb P (x :: r) b o c w eg hL h2 hK
theorem hasM_any (K : Nat) (cb : Array Value) (P : Bm -> Bool) (L : List Bm) (v : Value) (w : World) (eg : ∀ args w,(callFunc K args).run Tryz.prog w = .ok (.enter K args) w) (hL : L.length <= 1000000) (hv : MsAt w v L)
  (hK : ∀ i (h : i < L.length) W,Below w.heap.size w W -> Calls Tryz.prog K (#[.agg #[.string L[i].1,.string L[i].2]] ++ cb) W fun e w'=>e = .returned (.bool (P L[i])) /\ Below W.heap.size W w') :
  Calls Tryz.prog 48 #[v,.func (.func K) #[] cb] w fun e w'=>e = .returned (.bool (L.any P)) /\ Below w.heap.size w w':=by
 obtain ⟨va,vn,vc,hv1⟩:=hv.slice
 have HI:=hid (idxM_any K cb P L v w eg hL hv hK)
 have HX:=hid (show decide (0 <= idxB P L) = L.any P by
  unfold idxB
  cases h : L.any P
  ·simp
  ·simp)
 generalize L.any P = z at *
 generalize idxB P L = x at *
 subst hv1
 clear hK hv eg
 by_cases h0 : 0 <= x
 ·go_enter Tryz.func48,Tryz.ntmps48
  go_wp2_with fail
  refine HI.out.mono ?_
  rintro e w1 ⟨rfl,hb⟩
  have HB:=hid hb
  clear hb
  go_wp2_with fail
  go_ret
  exact ⟨ret_bool (by rw [<- HX.out]; simp [h0]),HB.out⟩
 ·go_enter Tryz.func48,Tryz.ntmps48
  go_wp2_with fail
  refine HI.out.mono ?_
  rintro e w1 ⟨rfl,hb⟩
  have HB:=hid hb
  clear hb
  go_wp2_with fail
  go_ret
  exact ⟨ret_bool (by rw [<- HX.out]),HB.out⟩
end Ve
end Go.Proofs.YtjbmjnbkibmkpaaGreatDoor


namespace Go.Proofs.YtjbmjnbkibmkpaaGreatDoor
open Go.RowKit
namespace Ve
end Ve
end Go.Proofs.YtjbmjnbkibmkpaaGreatDoor


namespace Go.Proofs.YtjbmjnbkibmkpaaGreatDoor
open Go.RowKit
namespace Ve
end Ve
end Go.Proofs.YtjbmjnbkibmkpaaGreatDoor


namespace Go.Proofs.YtjbmjnbkibmkpaaGreatDoor
open Go.RowKit
namespace Ve
end Ve
end Go.Proofs.YtjbmjnbkibmkpaaGreatDoor


namespace Go.Proofs.YtjbmjnbkibmkpaaGreatDoor
open Go.RowKit
namespace Ve
end Ve
end Go.Proofs.YtjbmjnbkibmkpaaGreatDoor


namespace Go.Proofs.YtjbmjnbkibmkpaaGreatDoor
open Go.RowKit
namespace Ve
def maxB (s t : ByteArray) : ByteArray:=
 if verErr s.data.toList = 0 then (if verErr t.data.toList = 0 then (if ordV s.data.toList t.data.toList < 0 then t else s) else s) else if verErr t.data.toList = 0 then t else ⟨#[]⟩
theorem check_any (s : ByteArray) (aT aB : Addr) (m : Int) (w : World) (hs : s.size < 4294967281) (S : Vs w aT aB m) :
  Calls Tryz.prog 16 #[.string s] w fun e w'=>e = .returned (errV aT aB (verErr s.data.toList)) /\ Below w.heap.size w w':=by
 have HC:=hid (vsplit_any s aT aB m w hs S)
 clear S
 go_enter Tryz.func16,Tryz.ntmps16
 go_wp2_with fail
 refine HC.out.mono ?_
 rintro e w1 ⟨h1,hb⟩
 have HB:=hid hb
 clear hb
 rcases h1 with ⟨h0,rfl⟩ | ⟨h0,v,X,rfl,_,hst⟩
 ·obtain ⟨a,ha⟩:=errV_ne aT aB h0
  have HE:=hid ha
  rw [ha]
  clear h0 ha
  go_wp2_with fail
  go_ret
  exact ⟨by rw [HE.out]; rfl,HB.out.alloc HB.out.size _⟩
 ·obtain ⟨p,n,c,rfl⟩:=hst.slice
  have HE:=hid (show errV aT aB (verErr s.data.toList) = .nilIface by rw [h0]; rfl)
  clear h0 hst
  go_wp2_with fail
  go_ret
  exact ⟨by rw [HE.out]; rfl,HB.out.alloc HB.out.size _⟩
theorem max_11a (k : Int) (x y z x' y' z' : Int) (X Y : List ByteArray) (s t : ByteArray) (aT aB : Addr) (m : Int) (w : World) (S : Vs w aT aB m) (hk : k < 0)
  (hA : Calls Tryz.prog 35 #[.string s] w fun e w'=>GoodP w w' e x y z X) (hT : ∀ W,Vs W aT aB m -> Calls Tryz.prog 35 #[.string t] W fun e w'=>GoodP W w' e x' y' z' Y)
  (hC : ∀ W va vb,StrsAt W va X -> StrsAt W vb Y -> Calls Tryz.prog 171 #[.agg #[.int .i64 x,.int .i64 y,.int .i64 z,va],.agg #[.int .i64 x',.int .i64 y',.int .i64 z',vb]] W fun e w'=>e = .returned (.int .i64 k) /\ Below W.heap.size W w') :
  Calls Tryz.prog 143 #[.string s,.string t] w fun e w'=>e = .returned (.string t) /\ Below w.heap.size w w':=by
 have HC:=hid hC
 clear hC
 have HA:=hid hA
 have HT:=hid hT
 have HS:=hid S
 clear hA hT S
 go_enter Tryz.func143,Tryz.ntmps143
 go_wp2_with fail
 refine HA.out.mono ?_
 rintro e w1 ⟨v,rfl,hst,hb1⟩
 obtain ⟨pa,na,ca,rfl⟩:=hst.slice
 have HST:=hid hst
 clear hst
 have HB1:=hid hb1
 have HB2:=hid ((Below.refl w1.heap.size w1).alloc (Nat.le_refl _) (.cells #[.int .i64 x,.int .i64 y,.int .i64 z,.slice pa na ca] 66))
 have HS1:=hid ((HS.out.below hb1).below HB2.out)
 clear hb1
 go_wp2_with fail
 refine (HT.out _ HS1.out).mono ?_
 rintro e w2 ⟨v,rfl,hst,hb2⟩
 obtain ⟨pb,nb,cb,rfl⟩:=hst.slice
 have HTT:=hid hst
 clear hst
 obtain ⟨⟨r0,r1,r2,r3⟩,rf,rz⟩:=res4 (hb2.mono (by simp))
 have HB12:=hid (HB2.out.trans (hb2.mono (by simp)))
 have HB3:=hid (HB1.out.trans (HB12.out.mono HB1.out.size))
 have HBA:=hid ((Below.refl w2.heap.size w2).alloc (Nat.le_refl _) (.cells #[.int .i64 x',.int .i64 y',.int .i64 z',.slice pb nb cb] 66))
 have HB4:=hid (HB3.out.trans (HBA.out.mono HB3.out.size))
 clear hb2
 have HSA:=hid ((HST.out.below HB12.out).below HBA.out)
 have HSB:=hid (HTT.out.below HBA.out)
 go_wp2_with fail
 refine (HC.out _ _ _ HSA.out HSB.out).mono ?_
 rintro e w3 ⟨rfl,hb3⟩
 have HB5:=hid (HB4.out.trans (hb3.mono HB4.out.size))
 clear hb3
 go_wp2_with fail
 go_ret
 exact ⟨rfl,HB5.out⟩
theorem max_11b (k : Int) (x y z x' y' z' : Int) (X Y : List ByteArray) (s t : ByteArray) (aT aB : Addr) (m : Int) (w : World) (S : Vs w aT aB m) (hk : ¬ k < 0)
  (hA : Calls Tryz.prog 35 #[.string s] w fun e w'=>GoodP w w' e x y z X) (hT : ∀ W,Vs W aT aB m -> Calls Tryz.prog 35 #[.string t] W fun e w'=>GoodP W w' e x' y' z' Y)
  (hC : ∀ W va vb,StrsAt W va X -> StrsAt W vb Y -> Calls Tryz.prog 171 #[.agg #[.int .i64 x,.int .i64 y,.int .i64 z,va],.agg #[.int .i64 x',.int .i64 y',.int .i64 z',vb]] W fun e w'=>e = .returned (.int .i64 k) /\ Below W.heap.size W w') :
  Calls Tryz.prog 143 #[.string s,.string t] w fun e w'=>e = .returned (.string s) /\ Below w.heap.size w w':=by
 have HC:=hid hC
 clear hC
 have HA:=hid hA
 have HT:=hid hT
 have HS:=hid S
 clear hA hT S
 go_enter Tryz.func143,Tryz.ntmps143
 go_wp2_with fail
 refine HA.out.mono ?_
 rintro e w1 ⟨v,rfl,hst,hb1⟩
 obtain ⟨pa,na,ca,rfl⟩:=hst.slice
 have HST:=hid hst
 clear hst
 have HB1:=hid hb1
 have HB2:=hid ((Below.refl w1.heap.size w1).alloc (Nat.le_refl _) (.cells #[.int .i64 x,.int .i64 y,.int .i64 z,.slice pa na ca] 66))
 have HS1:=hid ((HS.out.below hb1).below HB2.out)
 clear hb1
 go_wp2_with fail
 refine (HT.out _ HS1.out).mono ?_
 rintro e w2 ⟨v,rfl,hst,hb2⟩
 obtain ⟨pb,nb,cb,rfl⟩:=hst.slice
 have HTT:=hid hst
 clear hst
 obtain ⟨⟨r0,r1,r2,r3⟩,rf,rz⟩:=res4 (hb2.mono (by simp))
 have HB12:=hid (HB2.out.trans (hb2.mono (by simp)))
 have HB3:=hid (HB1.out.trans (HB12.out.mono HB1.out.size))
 have HBA:=hid ((Below.refl w2.heap.size w2).alloc (Nat.le_refl _) (.cells #[.int .i64 x',.int .i64 y',.int .i64 z',.slice pb nb cb] 66))
 have HB4:=hid (HB3.out.trans (HBA.out.mono HB3.out.size))
 clear hb2
 have HSA:=hid ((HST.out.below HB12.out).below HBA.out)
 have HSB:=hid (HTT.out.below HBA.out)
 go_wp2_with fail
 refine (HC.out _ _ _ HSA.out HSB.out).mono ?_
 rintro e w3 ⟨rfl,hb3⟩
 have HB5:=hid (HB4.out.trans (hb3.mono HB4.out.size))
 clear hb3
 go_wp2_with fail
 go_ret
 exact ⟨rfl,HB5.out⟩
theorem max_10 (x y z : Int) (X : List ByteArray) (s t : ByteArray) (aT aB : Addr) (m : Int) (w : World) (S : Vs w aT aB m)
  (hA : Calls Tryz.prog 35 #[.string s] w fun e w'=>GoodP w w' e x y z X) (hT : ∀ W,Vs W aT aB m -> Calls Tryz.prog 35 #[.string t] W fun e w'=>BadP W w' e) :
  Calls Tryz.prog 143 #[.string s,.string t] w fun e w'=>e = .returned (.string s) /\ Below w.heap.size w w':=by
 have HA:=hid hA
 have HT:=hid hT
 have HS:=hid S
 clear hA hT S
 go_enter Tryz.func143,Tryz.ntmps143
 go_wp2_with fail
 refine HA.out.mono ?_
 rintro e w1 ⟨v,rfl,hst,hb1⟩
 obtain ⟨pa,na,ca,rfl⟩:=hst.slice
 have HST:=hid hst
 clear hst
 have HB1:=hid hb1
 have HB2:=hid ((Below.refl w1.heap.size w1).alloc (Nat.le_refl _) (.cells #[.int .i64 x,.int .i64 y,.int .i64 z,.slice pa na ca] 66))
 have HS1:=hid ((HS.out.below hb1).below HB2.out)
 clear hb1
 go_wp2_with fail
 refine (HT.out _ HS1.out).mono ?_
 rintro e w2 ⟨a2,rfl,hb2⟩
 obtain ⟨⟨r0,r1,r2,r3⟩,rf,rz⟩:=res4 (hb2.mono (by simp))
 have HB12:=hid (HB2.out.trans (hb2.mono (by simp)))
 have HB3:=hid (HB1.out.trans (HB12.out.mono HB1.out.size))
 have HBA:=hid ((Below.refl w2.heap.size w2).alloc (Nat.le_refl _) (.cells #[.int .i64 0,.int .i64 0,.int .i64 0,.slice none 0 0] 66))
 have HB4:=hid (HB3.out.trans (HBA.out.mono HB3.out.size))
 clear hb2
 go_wp2_with fail
 go_ret
 exact ⟨rfl,HB4.out⟩
theorem max_01 (x' y' z' : Int) (Y : List ByteArray) (s t : ByteArray) (aT aB : Addr) (m : Int) (w : World) (S : Vs w aT aB m)
  (hA : Calls Tryz.prog 35 #[.string s] w fun e w'=>BadP w w' e) (hT : ∀ W,Vs W aT aB m -> Calls Tryz.prog 35 #[.string t] W fun e w'=>GoodP W w' e x' y' z' Y) :
  Calls Tryz.prog 143 #[.string s,.string t] w fun e w'=>e = .returned (.string t) /\ Below w.heap.size w w':=by
 have HA:=hid hA
 have HT:=hid hT
 have HS:=hid S
 clear hA hT S
 go_enter Tryz.func143,Tryz.ntmps143
 go_wp2_with fail
 refine HA.out.mono ?_
 rintro e w1 ⟨a1,rfl,hb1⟩
 have HB1:=hid hb1
 have HB2:=hid ((Below.refl w1.heap.size w1).alloc (Nat.le_refl _) (.cells #[.int .i64 0,.int .i64 0,.int .i64 0,.slice none 0 0] 66))
 have HS1:=hid ((HS.out.below hb1).below HB2.out)
 clear hb1
 go_wp2_with fail
 refine (HT.out _ HS1.out).mono ?_
 rintro e w2 ⟨v,rfl,hst,hb2⟩
 obtain ⟨pb,nb,cb,rfl⟩:=hst.slice
 have HTT:=hid hst
 clear hst
 obtain ⟨⟨r0,r1,r2,r3⟩,rf,rz⟩:=res4 (hb2.mono (by simp))
 have HB12:=hid (HB2.out.trans (hb2.mono (by simp)))
 have HB3:=hid (HB1.out.trans (HB12.out.mono HB1.out.size))
 have HBA:=hid ((Below.refl w2.heap.size w2).alloc (Nat.le_refl _) (.cells #[.int .i64 x',.int .i64 y',.int .i64 z',.slice pb nb cb] 66))
 have HB4:=hid (HB3.out.trans (HBA.out.mono HB3.out.size))
 clear hb2
 go_wp2_with fail
 go_ret
 exact ⟨rfl,HB4.out⟩
theorem max_00 (s t : ByteArray) (aT aB : Addr) (m : Int) (w : World) (S : Vs w aT aB m)
  (hA : Calls Tryz.prog 35 #[.string s] w fun e w'=>BadP w w' e) (hT : ∀ W,Vs W aT aB m -> Calls Tryz.prog 35 #[.string t] W fun e w'=>BadP W w' e) :
  Calls Tryz.prog 143 #[.string s,.string t] w fun e w'=>e = .returned (.string ⟨#[]⟩) /\ Below w.heap.size w w':=by
 have HA:=hid hA
 have HT:=hid hT
 have HS:=hid S
 clear hA hT S
 go_enter Tryz.func143,Tryz.ntmps143
 go_wp2_with fail
 refine HA.out.mono ?_
 rintro e w1 ⟨a1,rfl,hb1⟩
 have HB1:=hid hb1
 have HB2:=hid ((Below.refl w1.heap.size w1).alloc (Nat.le_refl _) (.cells #[.int .i64 0,.int .i64 0,.int .i64 0,.slice none 0 0] 66))
 have HS1:=hid ((HS.out.below hb1).below HB2.out)
 clear hb1
 go_wp2_with fail
 refine (HT.out _ HS1.out).mono ?_
 rintro e w2 ⟨a2,rfl,hb2⟩
 obtain ⟨⟨r0,r1,r2,r3⟩,rf,rz⟩:=res4 (hb2.mono (by simp))
 have HB12:=hid (HB2.out.trans (hb2.mono (by simp)))
 have HB3:=hid (HB1.out.trans (HB12.out.mono HB1.out.size))
 have HBA:=hid ((Below.refl w2.heap.size w2).alloc (Nat.le_refl _) (.cells #[.int .i64 0,.int .i64 0,.int .i64 0,.slice none 0 0] 66))
 have HB4:=hid (HB3.out.trans (HBA.out.mono HB3.out.size))
 clear hb2
 go_wp2_with fail
 go_ret
 exact ⟨rfl,HB4.out⟩
theorem max_any (s t : ByteArray) (aT aB : Addr) (m : Int) (w : World) (hs : s.size < 999999) (ht : t.size < 999999) (S : Vs w aT aB m) :
  Calls Tryz.prog 143 #[.string s,.string t] w fun e w'=>e = .returned (.string (maxB s t)) /\ Below w.heap.size w w':=by
 obtain ⟨X,hX⟩ : ∃ X,bl X = preOf s.data.toList:=⟨_,bl_strs _⟩
 obtain ⟨Y,hY⟩ : ∃ X,bl X = preOf t.data.toList:=⟨_,bl_strs _⟩
 obtain ⟨lX,pX⟩:=pre_bounds hs hX
 obtain ⟨lY,pY⟩:=pre_bounds ht hY
 unfold maxB
 by_cases h1 : verErr s.data.toList = 0
 all_goals by_cases h2 : verErr t.data.toList = 0
 ·rw [if_pos h1,if_pos h2]
  have hC : ∀ W va vb,StrsAt W va X -> StrsAt W vb Y -> Calls Tryz.prog 171 #[.agg #[.int .i64 (nAt s.data.toList 0),.int .i64 (nAt s.data.toList 1),.int .i64 (nAt s.data.toList 2),va],.agg #[.int .i64 (nAt t.data.toList 0),.int .i64 (nAt t.data.toList 1),.int .i64 (nAt t.data.toList 2),vb]] W fun e w'=>e = .returned (.int .i64 (ordV s.data.toList t.data.toList)) /\ Below W.heap.size W w':=by
   intro W va vb ha hb
   unfold ordV
   rw [<- hX,<- hY]
   exact compare_any _ _ _ _ _ _ va vb X Y W lX lY pX pY ha hb
  by_cases hk : ordV s.data.toList t.data.toList < 0
  ·rw [if_pos hk]
   exact max_11a _ _ _ _ _ _ _ X Y s t aT aB m w S hk (vsplit_is s aT aB m w (by omega) S h1 X hX) (fun W SW=>vsplit_is t aT aB m W (by omega) SW h2 Y hY) hC
  ·rw [if_neg hk]
   exact max_11b _ _ _ _ _ _ _ X Y s t aT aB m w S hk (vsplit_is s aT aB m w (by omega) S h1 X hX) (fun W SW=>vsplit_is t aT aB m W (by omega) SW h2 Y hY) hC
 ·rw [if_pos h1,if_neg h2]
  exact max_10 _ _ _ X s t aT aB m w S (vsplit_is s aT aB m w (by omega) S h1 X hX) (fun W SW=>vsplit_not t aT aB m W (by omega) SW h2)
 ·rw [if_neg h1,if_pos h2]
  exact max_01 _ _ _ Y s t aT aB m w S (vsplit_not s aT aB m w (by omega) S h1) (fun W SW=>vsplit_is t aT aB m W (by omega) SW h2 Y hY)
 ·rw [if_neg h1,if_neg h2]
  exact max_00 s t aT aB m w S (vsplit_not s aT aB m w (by omega) S h1) (fun W SW=>vsplit_not t aT aB m W (by omega) SW h2)
end Ve
end Go.Proofs.YtjbmjnbkibmkpaaGreatDoor


namespace Go.Proofs.YtjbmjnbkibmkpaaGreatDoor
open Go.RowKit
namespace Ve
theorem owned_slice {w : World} {base n : Nat} {e : TypeId} {v : Value} {xs : List Value} (h : w.ownsRow base e 1 v n xs) : ∃ a n c,v = .slice a n c:=by
 obtain ⟨_,⟨hv,_⟩ | ⟨g',cap',cur,hv,_⟩⟩:=h
 ·exact ⟨_,_,_,hv⟩
 ·exact ⟨_,_,_,hv⟩
end Ve
end Go.Proofs.YtjbmjnbkibmkpaaGreatDoor
