
import Derived.Test.YtjbmjnbkibmkpaaGreatDoorGt22
import Derived.Test.YtjbmjnbkibmkpaaGreatDoorGt21
import Derived.Test.YtjbmjnbkibmkpaaGreatDoorGt9
import Derived.Test.YtjbmjnbkibmkpaaGreatDoorGt14
import Derived.Test.YtjbmjnbkibmkpaaGreatDoorGt19
import Derived.Test.YtjbmjnbkibmkpaaGreatDoorGt10
import Derived.Test.YtjbmjnbkibmkpaaGreatDoorGt12
import Derived.Test.YtjbmjnbkibmkpaaGreatDoorGt5
set_option maxHeartbeats 8000000
namespace Go.Proofs.YtjbmjnbkibmkpaaGreatDoor
open Go.RowKit Go.Maps
namespace Ve
def rnk (r : Raw) : Nat:=if r.2.2.2 then 0 else if 0 < (preOf r.1.2.data.toList).length then 1 else 2
theorem rnk_b {r : Raw} (h : r.2.2.2 = true) : rnk r = 0:=if_pos h
theorem rnk_p {r : Raw} (h : r.2.2.2 = false) (hp : 0 < (preOf r.1.2.data.toList).length) : rnk r = 1:=by unfold rnk; rw [if_neg (by rw [h]; simp),if_pos hp]
theorem rnk_n {r : Raw} (h : r.2.2.2 = false) (hp : ¬ 0 < (preOf r.1.2.data.toList).length) : rnk r = 2:=by unfold rnk; rw [if_neg (by rw [h]; simp),if_neg hp]
theorem rnk_le (r : Raw) : rnk r <= 2:=by
 unfold rnk
 split
 ·omega
 ·split <;> omega
def rkV (Q : List Raw) (t v : ByteArray) : Nat:=match Q.find? (fun r=>decide (r.1.1 = t /\ r.1.2 = v)) with
 | some r=>rnk r
 | none=>0
def likS (Q : List Raw) (t : ByteArray) (s : ByteArray × Int) (v : ByteArray) : ByteArray × Int:=if s.2 <= (rkV Q t v : Int) then (v,(rkV Q t v : Int)) else s
def likN (Q : List Raw) (t : ByteArray) (X : List ByteArray) (i : Nat) : ByteArray × Int:=(X.take i).foldl (likS Q t) (⟨#[]⟩,-1)
theorem likN_next {Q : List Raw} {t : ByteArray} {X : List ByteArray} {i : Nat} (h : i < X.length) : likN Q t X (i + 1) = likS Q t (likN Q t X i) X[i]:=by
 unfold likN
 rw [List.take_succ_eq_append_getElem h,List.foldl_append]; rfl
structure Lik (Q : List Raw) (t : ByteArray) (X : List ByteArray) (i : Nat) (s : ByteArray × Int) : Prop where
 z : i = 0 -> s = (⟨#[]⟩,-1)
 p : 0 < i -> ∃ j,∃ hj : j < X.length,j < i /\ s = (X[j],(rkV Q t X[j] : Int)) /\ (∀ k (hk : k < X.length),k < i -> rkV Q t X[k] <= rkV Q t X[j]) /\ ∀ k (hk : k < X.length),k < i -> j < k -> rkV Q t X[k] < rkV Q t X[j]
theorem likN_is {Q : List Raw} {t : ByteArray} {X : List ByteArray} : ∀ i,i <= X.length -> Lik Q t X i (likN Q t X i)
 | 0,_=>⟨fun _=>rfl,fun h=>absurd h (Nat.lt_irrefl _)⟩
 | i + 1,hi=>by
  have h : i < X.length:=hi
  have ih:=likN_is (Q:=Q) (t:=t) (X:=X) i (Nat.le_of_lt h)
  rw [likN_next h]
  refine ⟨fun e=>by omega,fun _=>?_⟩
  unfold likS
  by_cases h0 : i = 0
  ·rw [ih.z h0]
   rw [if_pos (show (-1 : Int) <= (rkV Q t X[i] : Int) by omega)]
   refine ⟨i,h,by omega,rfl,fun k hk hki=>?_,fun k hk hki hik=>by omega⟩
   have : k = i:=by omega
   subst this; exact Nat.le_refl _
  ·obtain ⟨j,hj,hji,hs,h1,h2⟩:=ih.p (by omega)
   rw [hs]
   by_cases hc : ((rkV Q t X[j] : Nat) : Int) <= (rkV Q t X[i] : Int)
   ·rw [if_pos hc]
    refine ⟨i,h,by omega,rfl,fun k hk hki=>?_,fun k hk hki hik=>by omega⟩
    rcases Nat.lt_or_ge k i with h3 | h3
    ·have:=h1 k hk h3; omega
    ·have : k = i:=by omega
     subst this; exact Nat.le_refl _
   ·rw [if_neg hc]
    refine ⟨j,hj,by omega,rfl,fun k hk hki=>?_,fun k hk hki hjk=>?_⟩
    ·rcases Nat.lt_or_ge k i with h3 | h3
     ·exact h1 k hk h3
     ·have : k = i:=by omega
      subst this; omega
    ·rcases Nat.lt_or_ge k i with h3 | h3
     ·exact h2 k hk h3 hjk
     ·have : k = i:=by omega
      subst this; omega
theorem rkV_at {Q : List Raw} (g : Good Q) {r : Raw} (hr : r ∈ Q) : rkV Q r.1.1 r.1.2 = rnk r:=by
 unfold rkV
 cases hf : Q.find? (fun x=>decide (x.1.1 = r.1.1 /\ x.1.2 = r.1.2)) with
 | none=>
  have:=List.find?_eq_none.1 hf r hr
  simp at this
 | some s=>
  have h1:=List.find?_some hf
  have h2:=List.mem_of_find?_eq_some hf
  have h3 : s.1.1 = r.1.1 /\ s.1.2 = r.1.2:=by simpa using h1
  rw [g.same h2 hr (Prod.ext h3.1 h3.2)]
theorem rnk_best {Q R : List Raw} (g : Good Q) (hR : ∀ r,r ∈ R -> r ∈ Q) {r : Raw} (hr : r ∈ R) : r ∈ bestR R ↔ ∀ s,s ∈ R -> rnk s <= rnk r:=by
 have hv : ∀ s,s ∈ R -> (isD s = true ↔ (preOf s.1.2.data.toList).length = 0):=fun s hs=>by
  unfold isD preB
  rw [decide_eq_true (g.ver s (hR s hs)),Bool.true_and]
  simp
 have k2 : ∀ s,s ∈ R -> (rnk s = 2 ↔ isS s = true /\ isD s = true):=fun s hs=>by
  rw [hv s hs]
  unfold isS
  cases hb : s.2.2.2
  ·by_cases hp : 0 < (preOf s.1.2.data.toList).length
   ·rw [rnk_p hb hp]
    exact ⟨fun h=>absurd h (by decide),fun h=>absurd h.2 (by omega)⟩
   ·rw [rnk_n hb hp]
    exact ⟨fun _=>⟨rfl,by omega⟩,fun _=>rfl⟩
  ·rw [rnk_b hb]
   exact ⟨fun h=>absurd h (by decide),fun h=>absurd h.1 (by decide)⟩
 have k1 : ∀ s,s ∈ R -> (0 < rnk s ↔ isS s = true):=fun s _=>by
  unfold isS
  cases hb : s.2.2.2
  ·by_cases hp : 0 < (preOf s.1.2.data.toList).length
   ·rw [rnk_p hb hp]; exact ⟨fun _=>rfl,fun _=>by decide⟩
   ·rw [rnk_n hb hp]; exact ⟨fun _=>rfl,fun _=>by decide⟩
  ·rw [rnk_b hb]; exact ⟨fun h=>absurd h (by decide),fun h=>absurd h (by decide)⟩
 have k3:=rnk_le
 unfold bestR
 by_cases hd : 0 < ((R.filter isS).filter isD).length
 ·rw [if_pos hd]
  obtain ⟨x,hx⟩:=List.exists_mem_of_length_pos hd
  obtain ⟨hx1,hx2⟩:=List.mem_filter.1 hx
  obtain ⟨hx3,hx4⟩:=List.mem_filter.1 hx1
  have hx5:=(k2 x hx3).2 ⟨hx4,hx2⟩
  constructor
  ·intro h s hs
   obtain ⟨h1,h2⟩:=List.mem_filter.1 h
   obtain ⟨h3,h4⟩:=List.mem_filter.1 h1
   rw [(k2 r h3).2 ⟨h4,h2⟩]; exact k3 s
  ·intro h
   have:=h x hx3
   have h2:=(k2 r hr).1 (by have:=k3 r; omega)
   exact List.mem_filter.2 ⟨List.mem_filter.2 ⟨hr,h2.1⟩,h2.2⟩
 ·rw [if_neg hd]
  have hno : ∀ s,s ∈ R -> rnk s ≠ 2:=fun s hs h=>hd (List.length_pos_of_mem (List.mem_filter.2 ⟨List.mem_filter.2 ⟨hs,((k2 s hs).1 h).1⟩,((k2 s hs).1 h).2⟩))
  by_cases hs2 : 0 < (R.filter isS).length
  ·rw [if_pos hs2]
   obtain ⟨x,hx⟩:=List.exists_mem_of_length_pos hs2
   obtain ⟨hx1,hx2⟩:=List.mem_filter.1 hx
   have hx3:=(k1 x hx1).2 hx2
   constructor
   ·intro h s hs
    obtain ⟨h1,h2⟩:=List.mem_filter.1 h
    have a1:=(k1 r h1).2 h2
    have a2:=k3 s
    have a3:=hno s hs
    omega
   ·intro h
    have:=h x hx1
    exact List.mem_filter.2 ⟨hr,(k1 r hr).1 (by omega)⟩
  ·rw [if_neg hs2]
   constructor
   ·intro _ s hs
    have : ¬ 0 < rnk s:=fun h=>hs2 (List.length_pos_of_mem (List.mem_filter.2 ⟨hs,(k1 s hs).1 h⟩))
    omega
   ·intro _; exact hr
end Ve
end Go.Proofs.YtjbmjnbkibmkpaaGreatDoor


namespace Go.Proofs.YtjbmjnbkibmkpaaGreatDoor
open Go.RowKit Go.Maps
namespace Ve
end Ve
end Go.Proofs.YtjbmjnbkibmkpaaGreatDoor


namespace Go.Proofs.YtjbmjnbkibmkpaaGreatDoor
open Go.RowKit Go.Maps
namespace Ve
end Ve
end Go.Proofs.YtjbmjnbkibmkpaaGreatDoor


namespace Go.Proofs.YtjbmjnbkibmkpaaGreatDoor
open Go.RowKit Go.Maps
namespace Ve
def likSL (Q : List Raw) (t : ByteArray) (s : ByteArray × Int) (v : ByteArray) : ByteArray × Int:=if s.2 < (rkV Q t v : Int) then (v,(rkV Q t v : Int)) else s
def likNL (Q : List Raw) (t : ByteArray) (X : List ByteArray) (i : Nat) : ByteArray × Int:=(X.take i).foldl (likSL Q t) (⟨#[]⟩,-1)
theorem likNL_next {Q : List Raw} {t : ByteArray} {X : List ByteArray} {i : Nat} (h : i < X.length) : likNL Q t X (i + 1) = likSL Q t (likNL Q t X i) X[i]:=by
 unfold likNL
 rw [List.take_succ_eq_append_getElem h,List.foldl_append]; rfl
structure LikL (Q : List Raw) (t : ByteArray) (X : List ByteArray) (i : Nat) (s : ByteArray × Int) : Prop where
 z : i = 0 -> s = (⟨#[]⟩,-1)
 p : 0 < i -> ∃ j,∃ hj : j < X.length,j < i /\ s = (X[j],(rkV Q t X[j] : Int)) /\ (∀ k (hk : k < X.length),k < i -> rkV Q t X[k] <= rkV Q t X[j]) /\ ∀ k (hk : k < X.length),k < j -> rkV Q t X[k] < rkV Q t X[j]
theorem likNL_is {Q : List Raw} {t : ByteArray} {X : List ByteArray} : ∀ i,i <= X.length -> LikL Q t X i (likNL Q t X i)
 | 0,_=>⟨fun _=>rfl,fun h=>absurd h (Nat.lt_irrefl _)⟩
 | i + 1,hi=>by
  have h : i < X.length:=hi
  have ih:=likNL_is (Q:=Q) (t:=t) (X:=X) i (Nat.le_of_lt h)
  rw [likNL_next h]
  refine ⟨fun e=>by omega,fun _=>?_⟩
  unfold likSL
  by_cases h0 : i = 0
  ·rw [ih.z h0]
   rw [if_pos (show (-1 : Int) < (rkV Q t X[i] : Int) by omega)]
   refine ⟨i,h,by omega,rfl,fun k hk hki=>?_,fun k hk hki=>by omega⟩
   have : k = i:=by omega
   subst this; exact Nat.le_refl _
  ·obtain ⟨j,hj,hji,hs,h1,h2⟩:=ih.p (by omega)
   rw [hs]
   by_cases hc : ((rkV Q t X[j] : Nat) : Int) < (rkV Q t X[i] : Int)
   ·rw [if_pos hc]
    refine ⟨i,h,by omega,rfl,fun k hk hki=>?_,fun k hk hki=>?_⟩
    ·rcases Nat.lt_or_ge k i with h3 | h3
     ·have:=h1 k hk h3; omega
     ·have : k = i:=by omega
      subst this; exact Nat.le_refl _
    ·have:=h1 k hk hki; omega
   ·rw [if_neg hc]
    refine ⟨j,hj,by omega,rfl,fun k hk hki=>?_,fun k hk hkj=>h2 k hk hkj⟩
    rcases Nat.lt_or_ge k i with h3 | h3
    ·exact h1 k hk h3
    ·have : k = i:=by omega
     subst this; omega
end Ve
end Go.Proofs.YtjbmjnbkibmkpaaGreatDoor


namespace Go.Proofs.YtjbmjnbkibmkpaaGreatDoor
open Go.RowKit Go.Maps
namespace Ve
def okQ (q now v : ByteArray) : Bool:=
 if isWd q then (if q = bPatch /\ verErr now.data.toList = 0 then decide (nAt v.data.toList 0 = nAt now.data.toList 0) && decide (nAt v.data.toList 1 = nAt now.data.toList 1) && !lessB v.data.toList now.data.toList else true) else suitB q v
def someQ (q now : ByteArray) (X : List ByteArray) : List ByteArray:=X.filter (okQ q now)
theorem okQ_suit {q now v : ByteArray} (h : isWd q = false) : okQ q now v = suitB q v:=by unfold okQ; rw [if_neg (by rw [h]; simp)]
theorem okQ_any {q now v : ByteArray} (h : isWd q = true) (h2 : ¬ (q = bPatch /\ verErr now.data.toList = 0)) : okQ q now v = true:=by unfold okQ; rw [if_pos h,if_neg h2]
theorem okQ_patch {now v : ByteArray} (h2 : verErr now.data.toList = 0) : okQ bPatch now v = (decide (nAt v.data.toList 0 = nAt now.data.toList 0) && decide (nAt v.data.toList 1 = nAt now.data.toList 1) && !lessB v.data.toList now.data.toList):=by
 unfold okQ
 rw [if_pos (by unfold isWd; simp),if_pos ⟨rfl,h2⟩]
def leastQ (q : ByteArray) : Bool:=decide ((sgn q).1 = sGt) || decide ((sgn q).1 = sGe)
def likG (Q : List Raw) (t : ByteArray) (b : Bool) (X : List ByteArray) : ByteArray:=if b then (likNL Q t X X.length).1 else (likN Q t X X.length).1
def pkB (Q : List Raw) (t q now : ByteArray) (X : List ByteArray) : ByteArray:=likG Q t (leastQ q) (someQ q now X)
def pkF (Q : List Raw) (L : List Ent) (t q now : ByteArray) (X : List ByteArray) : Nat × Option Nat:=
 if qErr q ≠ 0 then (qErr q,none) else if (chk Q L).1 ≠ 0 then chk Q L else if q = bNone then (0,none) else if pkB Q t q now X = bE then (5,none) else (0,none)
def pkV (Q : List Raw) (L : List Ent) (t q now : ByteArray) (X : List ByteArray) : ByteArray:=
 if qErr q ≠ 0 then bE else if (chk Q L).1 ≠ 0 then bE else if q = bNone then bNone else if pkB Q t q now X = bE then bE else if q = bUpgrade then maxB (pkB Q t q now X) now else pkB Q t q now X
theorem pkF_q {Q : List Raw} {L : List Ent} {t q now : ByteArray} {X : List ByteArray} (h : qErr q ≠ 0) : pkF Q L t q now X = (qErr q,none):=if_pos h
theorem pkV_q {Q : List Raw} {L : List Ent} {t q now : ByteArray} {X : List ByteArray} (h : qErr q ≠ 0) : pkV Q L t q now X = bE:=if_pos h
theorem pkF_c {Q : List Raw} {L : List Ent} {t q now : ByteArray} {X : List ByteArray} (h : ¬ qErr q ≠ 0) (h1 : (chk Q L).1 ≠ 0) : pkF Q L t q now X = chk Q L:=by unfold pkF; rw [if_neg h,if_pos h1]
theorem pkV_c {Q : List Raw} {L : List Ent} {t q now : ByteArray} {X : List ByteArray} (h : ¬ qErr q ≠ 0) (h1 : (chk Q L).1 ≠ 0) : pkV Q L t q now X = bE:=by unfold pkV; rw [if_neg h,if_pos h1]
theorem pkF_n {Q : List Raw} {L : List Ent} {t q now : ByteArray} {X : List ByteArray} (h : ¬ qErr q ≠ 0) (h1 : ¬ (chk Q L).1 ≠ 0) (h2 : q = bNone) : pkF Q L t q now X = (0,none):=by unfold pkF; rw [if_neg h,if_neg h1,if_pos h2]
theorem pkV_n {Q : List Raw} {L : List Ent} {t q now : ByteArray} {X : List ByteArray} (h : ¬ qErr q ≠ 0) (h1 : ¬ (chk Q L).1 ≠ 0) (h2 : q = bNone) : pkV Q L t q now X = bNone:=by unfold pkV; rw [if_neg h,if_neg h1,if_pos h2]
theorem pkF_m {Q : List Raw} {L : List Ent} {t q now : ByteArray} {X : List ByteArray} (h : ¬ qErr q ≠ 0) (h1 : ¬ (chk Q L).1 ≠ 0) (h2 : ¬ q = bNone) : pkF Q L t q now X = if pkB Q t q now X = bE then (5,none) else (0,none):=by unfold pkF; rw [if_neg h,if_neg h1,if_neg h2]
theorem pkV_m {Q : List Raw} {L : List Ent} {t q now : ByteArray} {X : List ByteArray} (h : ¬ qErr q ≠ 0) (h1 : ¬ (chk Q L).1 ≠ 0) (h2 : ¬ q = bNone) : pkV Q L t q now X = if pkB Q t q now X = bE then bE else if q = bUpgrade then maxB (pkB Q t q now X) now else pkB Q t q now X:=by unfold pkV; rw [if_neg h,if_neg h1,if_neg h2]
end Ve
end Go.Proofs.YtjbmjnbkibmkpaaGreatDoor


namespace Go.Proofs.YtjbmjnbkibmkpaaGreatDoor
open Go.RowKit Go.Maps
namespace Ve
theorem pw_ext {α : Type} {r : α -> α -> Prop} (irr : ∀ a,¬ r a a) (asy : ∀ a b,r a b -> ¬ r b a) : ∀ {E F : List α},E.Pairwise r -> F.Pairwise r -> (∀ m,m ∈ E ↔ m ∈ F) -> E = F
 | [],[],_,_,_=>rfl
 | [],f :: F,_,_,h=>by have:=(h f).2 (by simp); cases this
 | e :: E,[],_,_,h=>by have:=(h e).1 (by simp); cases this
 | e :: E,f :: F,hE,hF,h=>by
  obtain ⟨hE1,hE2⟩:=List.pairwise_cons.1 hE
  obtain ⟨hF1,hF2⟩:=List.pairwise_cons.1 hF
  have hef : e = f:=by
   rcases List.mem_cons.1 ((h e).1 (by simp)) with a | a
   ·exact a
   ·rcases List.mem_cons.1 ((h f).2 (by simp)) with b | b
    ·exact b.symm
    ·exact absurd (hE1 f b) (asy _ _ (hF1 e a))
  subst hef
  have : E = F:=pw_ext irr asy hE2 hF2 fun m=>by
   constructor
   ·intro hm
    rcases List.mem_cons.1 ((h m).1 (List.mem_cons_of_mem _ hm)) with a | a
    ·subst a; exact absurd (hE1 m hm) (irr _)
    ·exact a
   ·intro hm
    rcases List.mem_cons.1 ((h m).2 (List.mem_cons_of_mem _ hm)) with a | a
    ·subst a; exact absurd (hF1 m hm) (irr _)
    ·exact a
  rw [this]
theorem kept_one {L : List ByteArray} {n : Nat} {X Y : List ByteArray} (hX : Kept L n X) (hY : Kept L n Y) : X = Y:=by
 have h : bl X = bl Y:=pw_ext (r:=fun s t=>ordV s t < 0) (fun a h=>ordV_irr h h) (fun a b h=>ordV_irr h) hX.1 hY.1 fun t=>by rw [hX.2,hY.2]
 exact (List.map_inj_right (fun x y e=>str_ext e)).1 h
end Ve
end Go.Proofs.YtjbmjnbkibmkpaaGreatDoor


namespace Go.Proofs.YtjbmjnbkibmkpaaGreatDoor
open Go.RowKit Go.Maps
namespace Ve
end Ve
end Go.Proofs.YtjbmjnbkibmkpaaGreatDoor


namespace Go.Proofs.YtjbmjnbkibmkpaaGreatDoor
open Go.RowKit Go.Maps
namespace Ve
def shortQ (Q : List Raw) : Prop:=∀ r,r ∈ Q -> r.1.1.size <= 80 /\ r.1.2.size <= 80
def look (Q : List Raw) (L : List Ent) (q : ByteArray) : Prop:=qErr q = 0 /\ (chk Q L).1 = 0 /\ ¬ q = bNone
def CheckC : Prop:=∀ (q : ByteArray) (A : Nat -> Addr) (m : Int) (w : World),q.size <= 100 -> Te w A m ->
 Calls Tryz.prog 33 #[.string q] w fun e w'=>e = .returned (errA A (qErr q)) /\ Below w.heap.size w w'
def PickC (T : World -> Prop) : Prop:=∀ (Q : List Raw) (L : List Ent) (t q now : ByteArray) (v : Value) (A : Nat -> Addr) (m : Int) (w : World),L.length <= 200 -> (∀ e,e ∈ L -> ShE e) -> shortQ Q -> t.size <= 100 -> q.size <= 100 -> now.size <= 100 -> Te w A m -> T w -> Ixs w v Q L ->
 Calls Tryz.prog 101 #[v,.string t,.string q,.string now] w fun e w'=>∃ X x,(look Q L q -> Kept (verL (ofP t Q)) (verL (ofP t Q)).length X) /\ e = .returned (.tuple #[.string (pkV Q L t q now X),x]) /\ ErrAt w' A x (pkF Q L t q now X).1 (pkF Q L t q now X).2 /\ Below w.heap.size w w'
theorem pk_any {Q : List Raw} {L : List Ent} {t q now : ByteArray} {X X' : List ByteArray} (h : look Q L q -> X = X') : pkF Q L t q now X = pkF Q L t q now X' /\ pkV Q L t q now X = pkV Q L t q now X':=by
 by_cases hq : qErr q ≠ 0
 ·exact ⟨by rw [pkF_q hq,pkF_q hq],by rw [pkV_q hq,pkV_q hq]⟩
 by_cases hc : (chk Q L).1 ≠ 0
 ·exact ⟨by rw [pkF_c hq hc,pkF_c hq hc],by rw [pkV_c hq hc,pkV_c hq hc]⟩
 by_cases hn : q = bNone
 ·exact ⟨by rw [pkF_n hq hc hn,pkF_n hq hc hn],by rw [pkV_n hq hc hn,pkV_n hq hc hn]⟩
 rw [h ⟨by simpa using hq,by simpa using hc,hn⟩]
 exact ⟨rfl,rfl⟩
end Ve
end Go.Proofs.YtjbmjnbkibmkpaaGreatDoor


namespace Go.Proofs.YtjbmjnbkibmkpaaGreatDoor
open Go.RowKit Go.Maps
namespace Ve
theorem ordV_three {s t : List UInt8} (hs : verErr s = 0) (ht : verErr t = 0) : ordV s t < 0 \/ s = t \/ ordV t s < 0:=by
 rcases ordV_range s t with h | h | h
 ·exact Or.inl (by omega)
 ·exact Or.inr (Or.inl ((ordV_zero hs ht).1 h))
 ·exact Or.inr (Or.inr (by rw [ordV_swap s t]; omega))
theorem sorted_ex : ∀ L : List ByteArray,(∀ x,x ∈ L -> verErr x.data.toList = 0) -> ∃ X : List ByteArray,rises (bl X) /\ ∀ t,t ∈ bl X ↔ t ∈ bl L
 | [],_=>⟨[],List.Pairwise.nil,fun t=>Iff.rfl⟩
 | x :: L,h=>by
  obtain ⟨X,h1,h2⟩:=sorted_ex L fun y hy=>h y (List.mem_cons_of_mem _ hy)
  have hx:=h x (List.mem_cons_self ..)
  have hv : ∀ y,y ∈ X -> verErr y.data.toList = 0:=fun y hy=>by
   have:=(h2 y.data.toList).1 (List.mem_map.2 ⟨y,hy,rfl⟩)
   obtain ⟨z,hz,e⟩:=List.mem_map.1 this
   rw [<- e]; exact h z (List.mem_cons_of_mem _ hz)
  let lo:=X.filter fun y=>decide (ordV y.data.toList x.data.toList < 0)
  let hi:=X.filter fun y=>decide (ordV x.data.toList y.data.toList < 0)
  have hr : X.Pairwise fun a b=>ordV a.data.toList b.data.toList < 0:=by
   have:=h1
   unfold rises bl at this
   exact List.pairwise_map.1 this
  refine ⟨lo ++ (x :: hi),?_,fun t=>?_⟩
  ·unfold rises bl
   rw [List.pairwise_map,List.pairwise_append]
   refine ⟨List.Pairwise.filter _ hr,List.pairwise_cons.2 ⟨fun b hb=>of_decide_eq_true (List.mem_filter.1 hb).2,List.Pairwise.filter _ hr⟩,fun a ha b hb=>?_⟩
   have ha2:=of_decide_eq_true (List.mem_filter.1 ha).2
   rcases List.mem_cons.1 hb with rfl | hb
   ·exact ha2
   ·exact ordV_trans ha2 (of_decide_eq_true (List.mem_filter.1 hb).2)
  ·constructor
   ·intro ht
    obtain ⟨y,hy,rfl⟩:=List.mem_map.1 ht
    rcases List.mem_append.1 hy with hy | hy
    ·exact List.mem_cons_of_mem _ ((h2 _).1 (List.mem_map.2 ⟨y,(List.mem_filter.1 hy).1,rfl⟩))
    ·rcases List.mem_cons.1 hy with rfl | hy
     ·exact List.mem_cons_self ..
     ·exact List.mem_cons_of_mem _ ((h2 _).1 (List.mem_map.2 ⟨y,(List.mem_filter.1 hy).1,rfl⟩))
   ·intro ht
    rcases List.mem_cons.1 ht with rfl | ht
    ·exact List.mem_map.2 ⟨x,List.mem_append_right _ (List.mem_cons_self ..),rfl⟩
    ·obtain ⟨y,hy,rfl⟩:=List.mem_map.1 ((h2 t).2 ht)
     refine List.mem_map.2 ?_
     rcases ordV_three (hv y hy) hx with h3 | h3 | h3
     ·exact ⟨y,List.mem_append_left _ (List.mem_filter.2 ⟨hy,decide_eq_true h3⟩),rfl⟩
     ·exact ⟨x,List.mem_append_right _ (List.mem_cons_self ..),h3.symm⟩
     ·exact ⟨y,List.mem_append_right _ (List.mem_cons_of_mem _ (List.mem_filter.2 ⟨hy,decide_eq_true h3⟩)),rfl⟩
theorem kept_ex {L : List ByteArray} (h : ∀ x,x ∈ L -> verErr x.data.toList = 0) : ∃ X,Kept L L.length X:=by
 obtain ⟨X,h1,h2⟩:=sorted_ex L h
 refine ⟨X,h1,fun t=>?_⟩
 rw [h2,List.take_length]
 refine ⟨fun ht=>⟨ht,?_⟩,fun ht=>ht.1⟩
 obtain ⟨y,hy,rfl⟩:=List.mem_map.1 ht
 exact h y hy
end Ve
end Go.Proofs.YtjbmjnbkibmkpaaGreatDoor


namespace Go.Proofs.YtjbmjnbkibmkpaaGreatDoor
open Go.RowKit Go.Maps
namespace Ve
def fitR (q now : ByteArray) (Q : List Raw) : List Raw:=Q.filter fun r=>okQ q now r.1.2
theorem Good.filter {Q : List Raw} (g : Good Q) (P : Raw -> Bool) : Good (Q.filter P):=by
 have hp : (Q.filter P).Pairwise fun r s=>r.1 ≠ s.1:=List.Pairwise.sublist List.filter_sublist g.pair
 refine ⟨fun r hr=>g.ver r (List.mem_filter.1 hr).1,fun r hr=>g.path r (List.mem_filter.1 hr).1,fun i j hi hj e=>?_⟩
 rcases Nat.lt_trichotomy i j with h | h | h
 ·exact absurd e (List.pairwise_iff_getElem.1 hp i j hi hj h)
 ·exact h
 ·exact absurd e.symm (List.pairwise_iff_getElem.1 hp j i hj hi h)
theorem ris_lt {X : List ByteArray} (h : rises (bl X)) {i j : Nat} (hi : i < X.length) (hj : j < X.length) (hij : i < j) : ordV X[i].data.toList X[j].data.toList < 0:=by
 have hbl : (bl X).length = X.length:=bl_len X
 have h4:=List.pairwise_iff_getElem.1 h i j (by omega) (by omega) hij
 rw [bl_get hi,bl_get hj] at h4
 exact h4
theorem kept_fit {Q : List Raw} (g : Good Q) {t q now : ByteArray} {X : List ByteArray} (hK : Kept (verL (ofP t Q)) (verL (ofP t Q)).length X) :
  Kept (verL (ofP t (fitR q now Q))) (verL (ofP t (fitR q now Q))).length (someQ q now X):=by
 have g' : Good (fitR q now Q):=g.filter _
 refine ⟨?_,fun s=>?_⟩
 ·have:=hK.1
  unfold rises bl at this ⊢
  exact List.pairwise_map.2 (List.Pairwise.filter _ (List.pairwise_map.1 this))
 ·rw [List.take_length]
  constructor
  ·intro hs
   obtain ⟨x,hx,rfl⟩:=List.mem_map.1 hs
   obtain ⟨hx1,hx2⟩:=List.mem_filter.1 hx
   obtain ⟨r,hr,e⟩:=kept_has g ofP_sub hK hx1
   have h1:=g.ofP_mem.1 hr
   have hr' : r ∈ ofP t (fitR q now Q):=g'.ofP_mem.2 ⟨List.mem_filter.2 ⟨h1.1,by rw [e]; exact hx2⟩,h1.2⟩
   refine ⟨List.mem_map.2 ⟨x,List.mem_map.2 ⟨r,hr',e⟩,rfl⟩,?_⟩
   rw [<- e]; exact g.ver r h1.1
  ·rintro ⟨hs,_⟩
   obtain ⟨x,hx,rfl⟩:=List.mem_map.1 hs
   obtain ⟨r,hr,rfl⟩:=List.mem_map.1 hx
   have h1:=g'.ofP_mem.1 hr
   have h2:=List.mem_filter.1 h1.1
   have h3:=kept_in g ofP_sub hK (g.ofP_mem.2 ⟨h2.1,h1.2⟩)
   exact List.mem_map.2 ⟨r.1.2,List.mem_filter.2 ⟨h3,h2.2⟩,rfl⟩
theorem rkV_fit {Q : List Raw} (g : Good Q) {t q now : ByteArray} {X : List ByteArray} (hK : Kept (verL (ofP t Q)) (verL (ofP t Q)).length X) {v : ByteArray} (hv : v ∈ someQ q now X) : rkV Q t v = rkV (fitR q now Q) t v:=by
 have g' : Good (fitR q now Q):=g.filter _
 obtain ⟨hx1,hx2⟩:=List.mem_filter.1 hv
 obtain ⟨r,hr,rfl⟩:=kept_has g ofP_sub hK hx1
 have h1:=g.ofP_mem.1 hr
 have h2:=rkV_at g h1.1
 have h3:=rkV_at g' (show r ∈ fitR q now Q from List.mem_filter.2 ⟨h1.1,hx2⟩)
 rw [h1.2] at h2 h3
 rw [h2,h3]
theorem foldl_on {α β : Type} {f f' : α -> β -> α} : ∀ (l : List β) (s : α),(∀ v,v ∈ l -> ∀ s,f s v = f' s v) -> l.foldl f s = l.foldl f' s
 | [],_,_=>rfl
 | x :: l,s,h=>by
  rw [List.foldl_cons,List.foldl_cons,h x (List.mem_cons_self ..)]
  exact foldl_on l _ fun v hv=>h v (List.mem_cons_of_mem _ hv)
theorem lik_fit {Q : List Raw} (g : Good Q) {t q now : ByteArray} {X : List ByteArray} (hK : Kept (verL (ofP t Q)) (verL (ofP t Q)).length X) (b : Bool) : likG Q t b (someQ q now X) = likG (fitR q now Q) t b (someQ q now X):=by
 unfold likG likN likNL
 rw [List.take_length]
 rw [foldl_on (f:=likS Q t) (f':=likS (fitR q now Q) t) _ _ fun v hv s=>by unfold likS; rw [rkV_fit g hK hv]]
 rw [foldl_on (f:=likSL Q t) (f':=likSL (fitR q now Q) t) _ _ fun v hv s=>by unfold likSL; rw [rkV_fit g hK hv]]
def headT (X : List ByteArray) : ByteArray:=X.head?.getD ⟨#[]⟩
theorem headT_get {X : List ByteArray} (h : 0 < X.length) : headT X = X[0]:=by
 cases X with
 | nil=>simp at h
 | cons x r=>rfl
theorem kept_void {Q : List Raw} (g : Good Q) {t : ByteArray} {X Y : List ByteArray} (hK : Kept (verL (ofP t Q)) (verL (ofP t Q)).length X) (hY : Kept (verL (bestR (ofP t Q))) (verL (bestR (ofP t Q))).length Y) : X = [] ↔ Y = []:=by
 constructor
 ·intro hX
  subst hX
  have hne : ofP t Q = []:=by
   rw [List.eq_nil_iff_forall_not_mem]
   intro r hr
   have:=kept_in g ofP_sub hK hr
   cases this
  have hb : bestR (ofP t Q) = []:=by rw [hne]; rfl
  rw [List.eq_nil_iff_forall_not_mem]
  intro y hy
  obtain ⟨r,hr,_⟩:=kept_has g (R:=bestR (ofP t Q)) (fun r hr=>ofP_sub r (bestR_sub hr)) hY hy
  rw [hb] at hr; cases hr
 ·intro hY0
  subst hY0
  rw [List.eq_nil_iff_forall_not_mem]
  intro x hx
  obtain ⟨r,hr,_⟩:=kept_has g ofP_sub hK hx
  obtain ⟨s,hs⟩:=List.exists_mem_of_ne_nil _ (bestR_ne (List.ne_nil_of_mem hr))
  have:=kept_in g (R:=bestR (ofP t Q)) (fun r hr=>ofP_sub r (bestR_sub hr)) hY hs
  cases this
theorem most_in {Q : List Raw} (g : Good Q) {t : ByteArray} {X Y : List ByteArray} (hK : Kept (verL (ofP t Q)) (verL (ofP t Q)).length X) (hY : Kept (verL (bestR (ofP t Q))) (verL (bestR (ofP t Q))).length Y) {j : Nat} (hj : j < X.length) :
  (∀ k (hk : k < X.length),rkV Q t X[k] <= rkV Q t X[j]) ↔ X[j] ∈ Y:=by
 have hrank : ∀ s,s ∈ ofP t Q -> rkV Q t s.1.2 = rnk s:=fun s hs=>by
  have h:=g.ofP_mem.1 hs
  rw [<- h.2]; exact rkV_at g h.1
 have hsub : ∀ r,r ∈ bestR (ofP t Q) -> r ∈ Q:=fun r hr=>ofP_sub r (bestR_sub hr)
 obtain ⟨r,hr,er⟩:=kept_has g ofP_sub hK (List.getElem_mem hj)
 have hb : r ∈ bestR (ofP t Q) ↔ ∀ k (hk : k < X.length),rkV Q t X[k] <= rkV Q t X[j]:=by
  rw [rnk_best g ofP_sub hr]
  constructor
  ·intro h k hk
   obtain ⟨s,hs,es⟩:=kept_has g ofP_sub hK (List.getElem_mem hk)
   have:=h s hs
   rw [<- hrank s hs,<- hrank r hr,es,er] at this
   exact this
  ·intro h s hs
   obtain ⟨k,hk,e⟩:=List.getElem_of_mem (kept_in g ofP_sub hK hs)
   have:=h k hk
   rw [e,hrank s hs,<- er,hrank r hr] at this
   exact this
 rw [<- hb]
 constructor
 ·intro h
  rw [<- er]; exact kept_in g hsub hY h
 ·intro h
  obtain ⟨s,hs,es⟩:=kept_has g hsub hY h
  have h1:=g.ofP_mem.1 (bestR_sub hs)
  have h2:=g.ofP_mem.1 hr
  rw [g.same h2.1 h1.1 (Prod.ext (h2.2.trans h1.2.symm) (er.trans es.symm))]
  exact hs
theorem best_mem {Q : List Raw} (g : Good Q) {t : ByteArray} {X Y : List ByteArray} (hK : Kept (verL (ofP t Q)) (verL (ofP t Q)).length X) (hY : Kept (verL (bestR (ofP t Q))) (verL (bestR (ofP t Q))).length Y) {y : ByteArray} (hy : y ∈ Y) : y ∈ X:=by
 obtain ⟨s,hs,rfl⟩:=kept_has g (R:=bestR (ofP t Q)) (fun r hr=>ofP_sub r (bestR_sub hr)) hY hy
 exact kept_in g ofP_sub hK (bestR_sub hs)
theorem lik_top {Q : List Raw} (g : Good Q) {t : ByteArray} {X Y : List ByteArray} (hK : Kept (verL (ofP t Q)) (verL (ofP t Q)).length X) (hY : Kept (verL (bestR (ofP t Q))) (verL (bestR (ofP t Q))).length Y) : (likN Q t X X.length).1 = lastT Y:=by
 by_cases h0 : X = []
 ·rw [(kept_void g hK hY).1 h0,h0]; rfl
 ·have hX:=List.length_pos_iff.2 h0
  have hYp : 0 < Y.length:=List.length_pos_iff.2 fun h=>h0 ((kept_void g hK hY).2 h)
  obtain ⟨j,hj,_,hs,h1,h2⟩:=(likN_is (Q:=Q) (t:=t) (X:=X) X.length (Nat.le_refl _)).p hX
  rw [hs,lastT_get hYp]
  obtain ⟨i,hi,ei⟩:=List.getElem_of_mem ((most_in g hK hY hj).1 fun k hk=>h1 k hk hk)
  obtain ⟨k,hk,ek⟩:=List.getElem_of_mem (best_mem g hK hY (List.getElem_mem (l:=Y) (n:=Y.length - 1) (by omega)))
  have hm:=(most_in g hK hY hk).2 (by rw [ek]; exact List.getElem_mem _)
  have hkj : ¬ j < k:=fun h=>by have a:=h2 k hk hk h; have b:=hm j hj; omega
  show X[j] = Y[Y.length - 1]
  by_cases hil : i = Y.length - 1
  ·subst hil; exact ei.symm
  ·have o1:=ris_lt hY.1 hi (show Y.length - 1 < Y.length by omega) (by omega)
   rw [ei,<- ek] at o1
   by_cases hkj2 : k = j
   ·subst hkj2; exact ek
   ·exact absurd (ris_lt hK.1 hk hj (by omega)) (ordV_irr o1)
theorem lik_low {Q : List Raw} (g : Good Q) {t : ByteArray} {X Y : List ByteArray} (hK : Kept (verL (ofP t Q)) (verL (ofP t Q)).length X) (hY : Kept (verL (bestR (ofP t Q))) (verL (bestR (ofP t Q))).length Y) : (likNL Q t X X.length).1 = headT Y:=by
 by_cases h0 : X = []
 ·rw [(kept_void g hK hY).1 h0,h0]; rfl
 ·have hX:=List.length_pos_iff.2 h0
  have hYp : 0 < Y.length:=List.length_pos_iff.2 fun h=>h0 ((kept_void g hK hY).2 h)
  obtain ⟨j,hj,_,hs,h1,h2⟩:=(likNL_is (Q:=Q) (t:=t) (X:=X) X.length (Nat.le_refl _)).p hX
  rw [hs,headT_get hYp]
  obtain ⟨i,hi,ei⟩:=List.getElem_of_mem ((most_in g hK hY hj).1 fun k hk=>h1 k hk hk)
  obtain ⟨k,hk,ek⟩:=List.getElem_of_mem (best_mem g hK hY (List.getElem_mem (l:=Y) (n:=0) hYp))
  have hm:=(most_in g hK hY hk).2 (by rw [ek]; exact List.getElem_mem _)
  have hkj : ¬ k < j:=fun h=>by have a:=h2 k hk h; have b:=hm j hj; omega
  show X[j] = Y[0]
  by_cases hil : i = 0
  ·subst hil; exact ei.symm
  ·have o1:=ris_lt hY.1 hYp hi (by omega)
   rw [ei,<- ek] at o1
   by_cases hkj2 : k = j
   ·subst hkj2; exact ek
   ·exact absurd (ris_lt hK.1 hj hk (by omega)) (ordV_irr o1)
theorem pkB_is {Q : List Raw} (g : Good Q) {t q now : ByteArray} {X Y : List ByteArray} (hK : Kept (verL (ofP t Q)) (verL (ofP t Q)).length X) (hY : Kept (verL (bestR (ofP t (fitR q now Q)))) (verL (bestR (ofP t (fitR q now Q)))).length Y) :
  pkB Q t q now X = if leastQ q then headT Y else lastT Y:=by
 have g' : Good (fitR q now Q):=g.filter _
 unfold pkB
 rw [lik_fit g hK]
 have hK':=kept_fit (q:=q) (now:=now) g hK
 unfold likG
 rw [lik_top g' hK' hY,lik_low g' hK' hY]
theorem ver_some {Q : List Raw} {t : ByteArray} {Y : List ByteArray} (hY : Kept (verL (bestR (ofP t Q))) (verL (bestR (ofP t Q))).length Y) {y : ByteArray} (hy : y ∈ Y) : verErr y.data.toList = 0:=by
 have:=(hY.2 y.data.toList).1 (List.mem_map.2 ⟨y,hy,rfl⟩)
 exact this.2
theorem ver_ne {y : ByteArray} (h : verErr y.data.toList = 0) : ¬ y = bE:=fun e=>by subst e; exact absurd h (by decide)
theorem pkB_none {Q : List Raw} (g : Good Q) {t q now : ByteArray} {X : List ByteArray} (hK : Kept (verL (ofP t Q)) (verL (ofP t Q)).length X) (hY : Kept (verL (bestR (ofP t (fitR q now Q)))) (verL (bestR (ofP t (fitR q now Q)))).length []) : pkB Q t q now X = bE:=by
 rw [pkB_is g hK hY]
 split <;> rfl
theorem pkB_some {Q : List Raw} (g : Good Q) {t q now : ByteArray} {X Y : List ByteArray} (hK : Kept (verL (ofP t Q)) (verL (ofP t Q)).length X) (hY : Kept (verL (bestR (ofP t (fitR q now Q)))) (verL (bestR (ofP t (fitR q now Q)))).length Y) (h : 0 < Y.length) : ¬ pkB Q t q now X = bE:=by
 rw [pkB_is g hK hY]
 split
 ·rw [headT_get h]; exact ver_ne (ver_some hY (List.getElem_mem _))
 ·rw [lastT_get h]; exact ver_ne (ver_some hY (List.getElem_mem _))
theorem least_beg (q : ByteArray) : begB q sGt = leastQ q:=by
 have key : ∀ l : List UInt8,(Lib.hasPrefix l [62] = true -> Lib.hasPrefix l [60,61] = false /\ Lib.hasPrefix l [60] = false) /\ (Lib.hasPrefix l [62] = false -> Lib.hasPrefix l [62,61] = false):=fun l=>by
  unfold Lib.hasPrefix
  cases l with
  | nil=>exact ⟨fun h=>absurd h (by decide),fun _=>rfl⟩
  | cons b r=>
   simp only [List.isPrefixOf,Bool.and_true]
   constructor
   ·intro h
    have : (62 : UInt8) = b:=by simpa using h
    subst this
    exact ⟨rfl,rfl⟩
   ·intro h
    rw [h]; rfl
 obtain ⟨k1,k2⟩:=key q.data.toList
 unfold leastQ sgn
 unfold begB
 have e1 : sLe.data.toList = [60,61]:=rfl
 have e2 : sGe.data.toList = [62,61]:=rfl
 have e3 : sLt.data.toList = [60]:=rfl
 have e4 : sGt.data.toList = [62]:=rfl
 rw [e1,e2,e3,e4]
 cases h : Lib.hasPrefix q.data.toList [62]
 ·rw [k2 h]
  cases Lib.hasPrefix q.data.toList [60,61] <;> cases Lib.hasPrefix q.data.toList [60] <;> simp [sg_ne1,sg_ne3,sg_ne5.symm,sg_ne8,sg_ne10.symm,sg_ne7.symm]
 ·rw [(k1 h).1,(k1 h).2]
  cases Lib.hasPrefix q.data.toList [62,61] <;> simp
theorem sgn_word {q : ByteArray} (h : isWd q = true) : sgn q = (bE,q):=by
 unfold isWd at h
 simp only [Bool.or_eq_true,decide_eq_true_eq] at h
 rcases h with ((h | h) | h) | h <;> subst h <;> rfl
theorem cut_more (a b : List UInt8) : (cutAt 46 a).length <= (cutAt 46 (a ++ b)).length:=by
 induction a with
 | nil=>exact List.length_pos_iff.2 (cutAt_ne 46 _)
 | cons c r ih=>
  rw [List.cons_append]
  unfold cutAt
  split
  ·simp only [List.length_cons]; omega
  ·rw [ahead_len _ _ (cutAt_ne 46 _),ahead_len _ _ (cutAt_ne 46 _)]; exact ih
theorem ver_core {l : List UInt8} (h : verErr l = 0) : marked l = true /\ (coreOf l).length = 3 /\ numsErr (coreOf l) = 0:=by
 unfold verErr at h
 by_cases hc : marked l = false \/ (coreOf l).length ≠ 3
 ·rw [if_pos hc] at h; omega
 rw [if_neg hc] at h
 have hm : marked l = true:=by
  cases e : marked l
  ·exact absurd (Or.inl e) hc
  ·rfl
 have h3 : (coreOf l).length = 3:=by
  rcases Nat.decEq (coreOf l).length 3 with h | h
  ·exact absurd (Or.inr h) hc
  ·exact h
 refine ⟨hm,h3,?_⟩
 cases e : hasPre l
 ·rw [e] at h; exact h
 ·rw [e] at h
  have h' : worse (numsErr (coreOf l)) (pre (preOf l)) = 0:=h
  unfold worse at h'
  by_cases q : numsErr (coreOf l) = 1 \/ pre (preOf l) = 0
  ·rw [if_pos q] at h'; exact h'
  ·rw [if_neg q] at h'; exact absurd (Or.inr h') q
theorem ver_nohead {l : List UInt8} (h : verErr l = 0) : headOk l = false:=by
 obtain ⟨_,h3,_⟩:=ver_core h
 have hle : (coreOf l).length <= (headOf l).length:=by
  unfold coreOf headOf
  cases e : (one 45 (restOf l)).2.2
  ·rw [one_none e]; exact Nat.le_refl _
  ·conv=>rhs; rw [one_back e]
   exact cut_more _ _
 unfold headOk
 rw [decide_eq_false (show ¬ (headOf l).length <= 2 by omega),Bool.and_false,Bool.and_false]
theorem begin_suit {q v : ByteArray} (hs : (sgn q).1 = bE) (hv : verErr v.data.toList = 0) : beginB v q = suitB q v:=by
 by_cases h : verErr q.data.toList = 0
 ·rw [suit_ver hs h]
  unfold beginB
  rw [decide_eq_true hv,ver_nohead h,Bool.true_and,Bool.false_and,Bool.or_false]
  exact decide_eq_decide.2 ⟨fun e=>e.symm,fun e=>e.symm⟩
 ·rw [suit_beg hs h]
theorem begin_patch {now v hd : ByteArray} (hn : verErr now.data.toList = 0) (hv : verErr v.data.toList = 0)
  (hh : hd.data.toList = 118 :: (Lib.itoa (nAt now.data.toList 0) ++ 46 :: Lib.itoa (nAt now.data.toList 1))) :
  beginB v hd = (decide (nAt v.data.toList 0 = nAt now.data.toList 0) && decide (nAt v.data.toList 1 = nAt now.data.toList 1)) /\ (0 <= nAt now.data.toList 0 /\ nAt now.data.toList 0 <= 999999) /\ (0 <= nAt now.data.toList 1 /\ nAt now.data.toList 1 <= 999999):=by
 obtain ⟨_,h3,hne⟩:=ver_core hn
 generalize now.data.toList = l at *
 obtain ⟨p0,p1,p2,hco⟩ : ∃ p0 p1 p2,coreOf l = [p0,p1,p2]:=by
  match e : coreOf l,h3 with
  | [a,b,c],_=>exact ⟨a,b,c,rfl⟩
 have hz:=ncode0 hne
 rw [hco] at hz
 have n0 : nAt l 0 = (num p0).1:=by simp [nAt,numsOf,hco]
 have n1 : nAt l 1 = (num p1).1:=by simp [nAt,numsOf,hco]
 have z0:=hz p0 (by simp)
 have z1:=hz p1 (by simp)
 obtain ⟨i0,l0,u0⟩:=itoa_num p0 z0
 obtain ⟨i1,l1,u1⟩:=itoa_num p1 z1
 rw [n0,n1] at hh ⊢
 have hhd : headOf hd.data.toList = [p0,p1]:=by
  unfold headOf
  rw [hh]
  show cutAt 46 (Lib.itoa (num p0).1 ++ 46 :: Lib.itoa (num p1).1) = _
  rw [cut_step 46 _ _ (itoa_no _ l0 46 (by decide)),cut_last 46 _ (itoa_no _ l1 46 (by decide)),i0,i1]
 have hmk : marked hd.data.toList = true:=by rw [hh]; rfl
 have hnum : numsErr [p0,p1] = 0:=by
  show worse (worse 0 (num p0).2) (num p1).2 = 0
  rw [z0,z1]; rfl
 have hok : headOk hd.data.toList = true:=by
  unfold headOk
  rw [hmk,hhd,hnum]; rfl
 have hne2 : ¬ hd = v:=fun e=>by
  have:=ver_nohead hv
  rw [<- e,hok] at this; cases this
 refine ⟨?_,⟨l0,u0⟩,l1,u1⟩
 unfold beginB
 rw [decide_eq_true hv,decide_eq_false hne2,hok,hhd,Bool.true_and,Bool.false_or,Bool.true_and]
 show ([(num p0).1,(num p1).1] == [nAt v.data.toList 0,nAt v.data.toList 1]) = _
 rw [Bool.eq_iff_iff]
 simp only [beq_iff_eq,List.cons.injEq,and_true,Bool.and_eq_true,decide_eq_true_eq]
 exact ⟨fun h=>⟨h.1.symm,h.2.symm⟩,fun h=>⟨h.1.symm,h.2.symm⟩⟩
end Ve
end Go.Proofs.YtjbmjnbkibmkpaaGreatDoor


namespace Go.Proofs.YtjbmjnbkibmkpaaGreatDoor
open Go.RowKit
namespace Ve
theorem pword_any (q : ByteArray) (w : World) : Calls Tryz.prog 64 #[.string q] w fun e w'=>e = .returned (.bool (isWd q)) /\ w' = w:=by
 have HZ:=hid (show isWd q = ((q.toList == [108,97,116,101,115,116]) || (q.toList == [117,112,103,114,97,100,101]) || (q.toList == [112,97,116,99,104]) || (q.toList == [110,111,110,101])) by
  unfold isWd
  rw [eqW,eqW,eqW,eqW]
  rfl)
 generalize isWd q = z at *
 cases h1 : (q.toList == [108,97,116,101,115,116])
 ·cases h2 : (q.toList == [117,112,103,114,97,100,101])
  ·cases h3 : (q.toList == [112,97,116,99,104])
   ·cases h4 : (q.toList == [110,111,110,101])
    ·rw [h1,h2,h3,h4] at HZ
     go_enter Tryz.func64,Tryz.ntmps64
     go_wp2_with fail
     go_ret
     exact ⟨ret_bool HZ.out.symm,rfl⟩
    ·rw [h1,h2,h3,h4] at HZ
     go_enter Tryz.func64,Tryz.ntmps64
     go_wp2_with fail
     go_ret
     exact ⟨ret_bool HZ.out.symm,rfl⟩
   ·rw [h1,h2,h3] at HZ
    go_enter Tryz.func64,Tryz.ntmps64
    go_wp2_with fail
    go_ret
    exact ⟨ret_bool HZ.out.symm,rfl⟩
  ·rw [h1,h2] at HZ
   go_enter Tryz.func64,Tryz.ntmps64
   go_wp2_with fail
   go_ret
   exact ⟨ret_bool HZ.out.symm,rfl⟩
 ·rw [h1] at HZ
  go_enter Tryz.func64,Tryz.ntmps64
  go_wp2_with fail
  go_ret
  exact ⟨ret_bool HZ.out.symm,rfl⟩
theorem cutP_sign (q h : ByteArray) (w : World) : Calls Tryz.prog 67 #[.string q,.string h] w fun e w'=>∃ R,e = .returned (.tuple #[.string R,.bool (begB q h)]) /\ (begB q h = true -> R = q.extract h.size q.size) /\ w' = w:=
 (Tryz.strings_CutPrefix q h w).mono fun e w' ⟨h1,h2⟩=>⟨_,h1,fun hb=>str_ext (by
  unfold Lib.trimPrefix
  rw [if_pos (show Lib.hasPrefix q.data.toList h.data.toList = true from hb),extract_list]
  have e1 : h.data.toList.length = h.size:=len_eq h
  have e2 : q.data.toList.length = q.size:=len_eq q
  rw [e1,List.take_of_length_le (by rw [List.length_drop]; omega)]),h2⟩
set_option maxRecDepth 100000 in
theorem cs_any (q : ByteArray) (w : World) : Calls Tryz.prog 65 #[.string q] w fun e w'=>e = .returned (.tuple #[.string (sgn q).1,.string (sgn q).2]) /\ Below w.heap.size w w':=by
 have HB0:=hid ((Below.refl w.heap.size w).alloc (Nat.le_refl _) (.cells #[.string ⟨#[60,61]⟩,.string ⟨#[62,61]⟩,.string ⟨#[60]⟩,.string ⟨#[62]⟩] 9))
 have hN:=heap_alloc_new w (.cells #[.string ⟨#[60,61]⟩,.string ⟨#[62,61]⟩,.string ⟨#[60]⟩,.string ⟨#[62]⟩] 9)
 have k0 : (w.alloc (.cells #[.string ⟨#[60,61]⟩,.string ⟨#[62,61]⟩,.string ⟨#[60]⟩,.string ⟨#[62]⟩] 9)).cell? ⟨w.heap.size,0,none⟩ = some (.string ⟨#[60,61]⟩):=by rw [Lib.cell_of_heap hN]; rfl
 have k1 : (w.alloc (.cells #[.string ⟨#[60,61]⟩,.string ⟨#[62,61]⟩,.string ⟨#[60]⟩,.string ⟨#[62]⟩] 9)).cell? ⟨w.heap.size,1,none⟩ = some (.string ⟨#[62,61]⟩):=by rw [Lib.cell_of_heap hN]; rfl
 have k2 : (w.alloc (.cells #[.string ⟨#[60,61]⟩,.string ⟨#[62,61]⟩,.string ⟨#[60]⟩,.string ⟨#[62]⟩] 9)).cell? ⟨w.heap.size,2,none⟩ = some (.string ⟨#[60]⟩):=by rw [Lib.cell_of_heap hN]; rfl
 have k3 : (w.alloc (.cells #[.string ⟨#[60,61]⟩,.string ⟨#[62,61]⟩,.string ⟨#[60]⟩,.string ⟨#[62]⟩] 9)).cell? ⟨w.heap.size,3,none⟩ = some (.string ⟨#[62]⟩):=by rw [Lib.cell_of_heap hN]; rfl
 have HBG:=hid (fun h W=>cutP_sign q h W)
 clear hN
 go_enter Tryz.func65,Tryz.ntmps65
 go_wp2_with fail
 generalize w.alloc (.cells #[.string ⟨#[60,61]⟩,.string ⟨#[62,61]⟩,.string ⟨#[60]⟩,.string ⟨#[62]⟩] 9) = w1 at *
 go_loopw [10] (fun iv wr=>∃ k : Nat,k <= 4 /\ iv = .int .i64 k /\ Hid (∀ j,j < k -> begB q (sgAt j) = false) /\ wr = w1) (fun iv _=>4 - (intOf iv).toNat)
 case atStart=>exact ⟨0,by decide,rfl,hid (fun j hj=>absurd hj (Nat.not_lt_zero _)),rfl⟩
 case round=>
  obtain ⟨k,hk,rfl,HA,rfl⟩:=hrel
  rcases (by omega : k = 0 \/ k = 1 \/ k = 2 \/ k = 3 \/ k = 4) with rfl | rfl | rfl | rfl | rfl
  ·have HC:=hid (HBG.out ⟨#[60,61]⟩ wr)
   cases hb : begB q ⟨#[60,61]⟩
   ·rw [hb] at HC
    have HA2:=hid (show ∀ j,j < 1 -> begB q (sgAt j) = false from fun j hj=>by
     rcases Nat.lt_or_ge j 0 with h | h
     ·exact HA.out j h
     ·have : j = 0:=by omega
      subst this; exact hb)
    clear hb
    go_wp2_with fail
    refine HC.out.mono ?_
    rintro e w2 ⟨R,rfl,-,rfl⟩
    go_wp2_with fail
    go_roundw
    case rel=>exact ⟨1,by decide,rfl,HA2,by first | rfl | trivial⟩
    case measure=>simp [intOf]
   ·rw [hb] at HC
    have HS:=hid (sgn_0  hb)
    clear hb
    go_wp2_with fail
    refine HC.out.mono ?_
    rintro e w2 ⟨R,rfl,hR,rfl⟩
    have HR:=hid (hR (by first | rfl | trivial))
    clear hR
    go_wp2_with fail
    go_ret2
    exact ⟨by rw [HS.out,HR.out]; rfl,HB0.out⟩
  ·have HC:=hid (HBG.out ⟨#[62,61]⟩ wr)
   cases hb : begB q ⟨#[62,61]⟩
   ·rw [hb] at HC
    have HA2:=hid (show ∀ j,j < 2 -> begB q (sgAt j) = false from fun j hj=>by
     rcases Nat.lt_or_ge j 1 with h | h
     ·exact HA.out j h
     ·have : j = 1:=by omega
      subst this; exact hb)
    clear hb
    go_wp2_with fail
    refine HC.out.mono ?_
    rintro e w2 ⟨R,rfl,-,rfl⟩
    go_wp2_with fail
    go_roundw
    case rel=>exact ⟨2,by decide,rfl,HA2,by first | rfl | trivial⟩
    case measure=>simp [intOf]
   ·rw [hb] at HC
    have HS:=hid (sgn_1 (HA.out 0 (by decide)) hb)
    clear hb
    go_wp2_with fail
    refine HC.out.mono ?_
    rintro e w2 ⟨R,rfl,hR,rfl⟩
    have HR:=hid (hR (by first | rfl | trivial))
    clear hR
    go_wp2_with fail
    go_ret2
    exact ⟨by rw [HS.out,HR.out]; rfl,HB0.out⟩
  ·have HC:=hid (HBG.out ⟨#[60]⟩ wr)
   cases hb : begB q ⟨#[60]⟩
   ·rw [hb] at HC
    have HA2:=hid (show ∀ j,j < 3 -> begB q (sgAt j) = false from fun j hj=>by
     rcases Nat.lt_or_ge j 2 with h | h
     ·exact HA.out j h
     ·have : j = 2:=by omega
      subst this; exact hb)
    clear hb
    go_wp2_with fail
    refine HC.out.mono ?_
    rintro e w2 ⟨R,rfl,-,rfl⟩
    go_wp2_with fail
    go_roundw
    case rel=>exact ⟨3,by decide,rfl,HA2,by first | rfl | trivial⟩
    case measure=>simp [intOf]
   ·rw [hb] at HC
    have HS:=hid (sgn_2 (HA.out 0 (by decide)) (HA.out 1 (by decide)) hb)
    clear hb
    go_wp2_with fail
    refine HC.out.mono ?_
    rintro e w2 ⟨R,rfl,hR,rfl⟩
    have HR:=hid (hR (by first | rfl | trivial))
    clear hR
    go_wp2_with fail
    go_ret2
    exact ⟨by rw [HS.out,HR.out]; rfl,HB0.out⟩
  ·have HC:=hid (HBG.out ⟨#[62]⟩ wr)
   cases hb : begB q ⟨#[62]⟩
   ·rw [hb] at HC
    have HA2:=hid (show ∀ j,j < 4 -> begB q (sgAt j) = false from fun j hj=>by
     rcases Nat.lt_or_ge j 3 with h | h
     ·exact HA.out j h
     ·have : j = 3:=by omega
      subst this; exact hb)
    clear hb
    go_wp2_with fail
    refine HC.out.mono ?_
    rintro e w2 ⟨R,rfl,-,rfl⟩
    go_wp2_with fail
    go_roundw
    case rel=>exact ⟨4,by decide,rfl,HA2,by first | rfl | trivial⟩
    case measure=>simp [intOf]
   ·rw [hb] at HC
    have HS:=hid (sgn_3 (HA.out 0 (by decide)) (HA.out 1 (by decide)) (HA.out 2 (by decide)) hb)
    clear hb
    go_wp2_with fail
    refine HC.out.mono ?_
    rintro e w2 ⟨R,rfl,hR,rfl⟩
    have HR:=hid (hR (by first | rfl | trivial))
    clear hR
    go_wp2_with fail
    go_ret2
    exact ⟨by rw [HS.out,HR.out]; rfl,HB0.out⟩
  ·have HS:=hid (sgn_4 (HA.out 0 (by decide)) (HA.out 1 (by decide)) (HA.out 2 (by decide)) (HA.out 3 (by decide)))
   go_wp2_with fail
   go_ret2
   exact ⟨by rw [HS.out]; rfl,HB0.out⟩
theorem no_sign {q : ByteArray} (h : (sgn q).1 = bE) : (sgn q).2 = q:=by
 rcases sgn_kind q with e | e | e | e | e
 ·rw [e] at h; exact absurd h sg_ne4
 ·rw [e] at h; exact absurd h sg_ne7
 ·rw [e] at h; exact absurd h sg_ne9
 ·rw [e] at h; exact absurd h sg_ne10
 ·exact e.2
theorem bE_list (s : ByteArray) : (s.toList == ([] : List UInt8)) = decide (s = bE):=by
 rw [eqW]; rfl
set_option maxRecDepth 100000 in
theorem check_c : CheckC:=fun q A m w hq S=>by
 have HW:=hid (pword_any q w)
 have HCS:=hid (cs_any q w)
 have HZ:=hid (sgn_size q)
 have HV:=hid (fun W (h : Below w.heap.size w W)=>vcheck_is (sgn q).2 (A 0) (A 1) m W (by have:=HZ.out; omega) (S.below h).vs)
 have HH:=hid (fun W (h : Below w.heap.size w W)=>chead_any q (A 0) (A 1) m W (by omega) (S.below h).vs)
 have HG:=hid (fun W (h : Below w.heap.size w W)=>(S.below h).vs)
 obtain ⟨i9,hi9,hcmp9⟩:=Option.map_eq_some_iff.1 compS
 obtain ⟨j9,hj9,hjs9⟩:=Option.map_eq_some_iff.1 sizeS
 have HQ0:=hid (fun W=>run_eql_iface_nil_left (P:=Tryz.prog) W 311 (.pointer (some (A 0))) Tryz.underlying33)
 have HQ1:=hid (fun W=>run_eql_iface_ptr_same (P:=Tryz.prog) W (A 0) Tryz.underlying33 Tryz.underlying311 hi9 hcmp9 hj9)
 have HQ2:=hid (fun W c2 t2 c1 t1 (e2 : W.heap[(A 1).block]? = some (.cells c2 t2 (0,0))) (e1 : W.heap[(A 0).block]? = some (.cells c1 t1 (0,0)))=>run_eql_iface_ptr_other (P:=Tryz.prog) W Tryz.underlying33 Tryz.underlying311 hi9 hcmp9 hj9 (by rw [hjs9]; decide) S.vs.ne.symm e2 e1)
 clear S hi9 hcmp9 hj9 hjs9
 cases hwd : isWd q
 ·by_cases hs : (sgn q).1 = bE
  ·have hq2:=no_sign hs
   have HE:=hid (fun h3=>qErr_head hwd hs h3)
   have HE2:=hid (fun h3=>qErr_ver hwd (Or.inr h3))
   rw [hwd] at HW
   rw [hs,hq2] at HCS
   rw [hq2] at HV HE HE2
   have hbe : (bE.toList == ([] : List UInt8)) = true:=by rw [bE_list]; exact decide_eq_true rfl
   have HVE:=hid (verErr_err q.data.toList)
   have HHE:=hid (headErr_err q.data.toList)
   clear hwd hs hq2
   rcases HVE.out with hv | hv | hv
   ·have HQ:=hid (HE2.out (by rw [hv]; decide))
    rw [hv,errV0] at HV
    rw [hv] at HQ
    go_enter Tryz.func33,Tryz.ntmps33
    go_wp2_with fail
    refine HW.out.mono ?_
    rintro e w1 ⟨rfl,rfl⟩
    go_wp2_with fail
    refine HCS.out.mono ?_
    rintro e w2 ⟨rfl,hb⟩
    have HB:=hid hb
    clear hb
    go_wp2_with fail
    refine (HV.out _ HB.out).mono ?_
    rintro e w3 ⟨rfl,hb⟩
    have HB2:=hid (HB.out.trans (hb.mono HB.out.size))
    have g0:=(HG.out _ HB2.out).t
    have q0:=HQ0.out w3
    clear hb
    go_wp2_with fail
    go_ret
    exact ⟨by rw [HQ.out]; rfl,HB2.out⟩
   ·have HQ:=hid (HE.out hv)
    rw [hv,errV1] at HV
    obtain ⟨ev,hev⟩ : ∃ ev,errV (A 0) (A 1) (headErr q.data.toList) = ev:=⟨_,rfl⟩
    have HEV:=hid (show errA A (qErr q) = ev by rw [HQ.out,<- errA_V A _ HHE.out]; exact hev)
    rw [hev] at HH
    clear hev
    go_enter Tryz.func33,Tryz.ntmps33
    go_wp2_with fail
    refine HW.out.mono ?_
    rintro e w1 ⟨rfl,rfl⟩
    go_wp2_with fail
    refine HCS.out.mono ?_
    rintro e w2 ⟨rfl,hb⟩
    have HB:=hid hb
    clear hb
    go_wp2_with fail
    refine (HV.out _ HB.out).mono ?_
    rintro e w3 ⟨rfl,hb⟩
    have HB2:=hid (HB.out.trans (hb.mono HB.out.size))
    have g0:=(HG.out _ HB2.out).t
    have q1:=HQ1.out w3
    clear hb
    go_wp2_with fail
    refine (HH.out _ HB2.out).mono ?_
    rintro e w4 ⟨rfl,hb⟩
    have HB3:=hid (HB2.out.trans (hb.mono HB2.out.size))
    clear hb
    go_wp2_with fail
    go_ret
    exact ⟨by rw [HEV.out]; rfl,HB3.out⟩
   ·have HQ:=hid (HE2.out (by rw [hv]; decide))
    rw [hv,errV2] at HV
    rw [hv] at HQ
    go_enter Tryz.func33,Tryz.ntmps33
    go_wp2_with fail
    refine HW.out.mono ?_
    rintro e w1 ⟨rfl,rfl⟩
    go_wp2_with fail
    refine HCS.out.mono ?_
    rintro e w2 ⟨rfl,hb⟩
    have HB:=hid hb
    clear hb
    go_wp2_with fail
    refine (HV.out _ HB.out).mono ?_
    rintro e w3 ⟨rfl,hb⟩
    have HB2:=hid (HB.out.trans (hb.mono HB.out.size))
    have g0:=(HG.out _ HB2.out).t
    obtain ⟨c1,t1,e1⟩:=(HG.out _ HB2.out).bt
    obtain ⟨c2,t2,e2⟩:=(HG.out _ HB2.out).bb
    have q2:=HQ2.out w3 _ _ _ _ e2 e1
    clear e1 e2
    clear hb
    go_wp2_with fail
    go_ret
    exact ⟨by rw [HQ.out]; rfl,HB2.out⟩
  ·have HQ:=hid (qErr_ver hwd (Or.inl hs))
   have hbe : ((sgn q).1.toList == ([] : List UInt8)) = false:=by rw [bE_list]; exact decide_eq_false hs
   have HVE:=hid (verErr_err (sgn q).2.data.toList)
   have HEV:=hid (show errA A (qErr q) = errV (A 0) (A 1) (verErr (sgn q).2.data.toList) by rw [HQ.out,errA_V A _ HVE.out])
   rw [hwd] at HW
   obtain ⟨ev,hev⟩ : ∃ ev,errV (A 0) (A 1) (verErr (sgn q).2.data.toList) = ev:=⟨_,rfl⟩
   rw [hev] at HEV HV
   generalize (sgn q).1 = s1 at *
   generalize (sgn q).2 = s2 at *
   clear hwd hs HQ HVE hev
   go_enter Tryz.func33,Tryz.ntmps33
   go_wp2_with fail
   refine HW.out.mono ?_
   rintro e w1 ⟨rfl,rfl⟩
   go_wp2_with fail
   refine HCS.out.mono ?_
   rintro e w2 ⟨rfl,hb⟩
   have HB:=hid hb
   clear hb
   go_wp2_with fail
   refine (HV.out _ HB.out).mono ?_
   rintro e w3 ⟨rfl,hb⟩
   have HB2:=hid (HB.out.trans (hb.mono HB.out.size))
   clear hb
   go_wp2_with fail
   go_ret
   exact ⟨by rw [HEV.out]; rfl,HB2.out⟩
 ·have HE:=hid (show errA A (qErr q) = .nilIface by rw [qErr_word hwd]; rfl)
  rw [hwd] at HW
  clear hwd
  go_enter Tryz.func33,Tryz.ntmps33
  go_wp2_with fail
  refine HW.out.mono ?_
  rintro e w1 ⟨rfl,rfl⟩
  go_wp2_with fail
  go_ret
  exact ⟨by rw [HE.out]; rfl,Below.refl _ _⟩
end Ve
end Go.Proofs.YtjbmjnbkibmkpaaGreatDoor


namespace Go.Proofs.YtjbmjnbkibmkpaaGreatDoor
open Go.RowKit
namespace Ve
def argK (s : ByteArray) : Bm:=(⟨(one 64 s.data.toList).1.toArray⟩,if (one 64 s.data.toList).2.2 then ⟨(one 64 s.data.toList).2.1.toArray⟩ else bUpgrade)
def argZ (s : ByteArray) : Nat:=if 1 < s.data.toList.count 64 then 1 else if ptE (argK s).1 ≠ 0 then ptE (argK s).1 else qErr (argK s).2
def argR (s : ByteArray) : Bm:=if argZ s = 0 then argK s else (bE,bE)
theorem argZ_many {s : ByteArray} (h : 1 < s.data.toList.count 64) : argZ s = 1:=if_pos h
theorem argZ_pat {s : ByteArray} (h : ¬ 1 < s.data.toList.count 64) (h2 : ptE (argK s).1 ≠ 0) : argZ s = ptE (argK s).1:=by unfold argZ; rw [if_neg h,if_pos h2]
theorem argZ_q {s : ByteArray} (h : ¬ 1 < s.data.toList.count 64) (h2 : ¬ ptE (argK s).1 ≠ 0) : argZ s = qErr (argK s).2:=by unfold argZ; rw [if_neg h,if_neg h2]
theorem argR_bad {s : ByteArray} (h : ¬ argZ s = 0) : argR s = (bE,bE):=if_neg h
theorem argR_ok {s : ByteArray} (h : argZ s = 0) : argR s = argK s:=if_pos h
theorem cutG (s : ByteArray) (m : Int) (w : World) (hs : s.size < 4294967281) (hm : w.cell? ⟨8,0,none⟩ = some (.int .i64 m)) :
  Calls Tryz.prog 31 #[.string s,.string ⟨#[64]⟩] w fun e w'=>e = .returned (.tuple #[.string ⟨(one 64 s.data.toList).1.toArray⟩,.string ⟨(one 64 s.data.toList).2.1.toArray⟩,.bool (one 64 s.data.toList).2.2]) /\ Below w.heap.size w w':=
 (Tryz.strings_Cut s ⟨#[64]⟩ m w hs hm).mono fun e w' ⟨h1,n,h2⟩=>by
  have e0 : (⟨#[64]⟩ : ByteArray).data.toList = [64]:=rfl
  rw [e0,cut_one] at h1
  exact ⟨h1,by rw [h2]; exact below_drawn w n⟩
theorem arg_many (s : ByteArray) (A : Nat -> Addr) (m : Int) (w : World) (S : Te w A m) (h : 1 < s.data.toList.count 64) :
  Calls Tryz.prog 14 #[.string s] w fun e w'=>e = .returned (.tuple #[.string bE,.string bE,errA A 1]) /\ Below w.heap.size w w':=by
 have HC:=hid (Tryz.strings_Count_one s 64 w)
 have hz : (1 : Int) < ((Lib.countByte s.data.toList 64 : Nat) : Int):=by unfold Lib.countByte; omega
 generalize ((Lib.countByte s.data.toList 64 : Nat) : Int) = c at *
 have g:=S.sen.g0
 clear S h
 go_enter Tryz.func14,Tryz.ntmps14
 go_wp2_with fail
 refine HC.out.mono ?_
 rintro e w1 ⟨rfl,rfl⟩
 go_wp2_with fail
 go_quiet (fail)
 go_wp2_with fail
 go_ret3
 exact ⟨rfl,by first | exact Below.refl _ _ | exact below_drawn_of (Below.refl _ _) _⟩
set_option maxRecDepth 100000 in
theorem arg_no (s : ByteArray) (A : Nat -> Addr) (m : Int) (w : World) (hs : s.size < 999999) (hp : (argK s).1.size <= 100) (hq : (argK s).2.size <= 100) (S : Te w A m) (D : Ds w A) (h : ¬ 1 < s.data.toList.count 64) (hb : (one 64 s.data.toList).2.2 = false) :
  Calls Tryz.prog 14 #[.string s] w fun e w'=>e = .returned (.tuple #[.string (argR s).1,.string (argR s).2,errA A (argZ s)]) /\ Below w.heap.size w w':=by
 have HC:=hid (Tryz.strings_Count_one s 64 w)
 have hz : ¬ (1 : Int) < ((Lib.countByte s.data.toList 64 : Nat) : Int):=by unfold Lib.countByte; omega
 have HCT:=hid (cutG s m w (by omega) S.ml)
 have hk : argK s = (⟨(one 64 s.data.toList).1.toArray⟩,bUpgrade):=by unfold argK; rw [hb]; rfl
 rw [hb] at HCT
 have HPC:=hid (fun W (hW : Below w.heap.size w W)=>pchkD_any (argK s).1 A m W hp (S.below hW) (D.below hW))
 have HQC:=hid (fun W (hW : Below w.heap.size w W)=>check_c (argK s).2 A m W hq (S.below hW))
 have HZ1:=hid (fun h2=>argZ_pat (s:=s) h h2)
 have HZ2:=hid (fun h2=>argZ_q (s:=s) h h2)
 have HRB:=hid (fun h2=>argR_bad (s:=s) h2)
 have HRO:=hid (fun h2=>argR_ok (s:=s) h2)
 rw [hk] at HPC HQC HZ1 HZ2 HRO
 simp only at HPC HQC HZ1 HZ2 HRO
 generalize ((Lib.countByte s.data.toList 64 : Nat) : Int) = c at *
 generalize (⟨(one 64 s.data.toList).1.toArray⟩ : ByteArray) = p at *
 generalize (⟨(one 64 s.data.toList).2.1.toArray⟩ : ByteArray) = t at *
 generalize argZ s = z at *
 generalize argR s = r at *
 clear S D h hb hk hp hq hs
 by_cases h1 : ptE p ≠ 0
 ·have HE:=hid (HZ1.out h1)
  have HR:=hid (HRB.out (by rw [HE.out]; exact h1))
  obtain ⟨ea,hea⟩:=errA_ne A h1
  rw [hea] at HPC
  have HEA:=hid hea
  clear h1 hea HZ1 HZ2 HRB HRO HQC
  go_enter Tryz.func14,Tryz.ntmps14
  go_wp2_with fail
  refine HC.out.mono ?_
  rintro e w1 ⟨rfl,rfl⟩
  go_wp2_with fail
  refine HCT.out.mono ?_
  rintro e w2 ⟨rfl,hb⟩
  have HB:=hid hb
  clear hb
  go_wp2_with fail
  refine (HPC.out _ HB.out).mono ?_
  rintro e w3 ⟨rfl,hb⟩
  have HB2:=hid (HB.out.trans (hb.mono HB.out.size))
  clear hb
  go_wp2_with fail
  go_ret3
  exact ⟨by rw [HE.out,HR.out,HEA.out]; rfl,HB2.out⟩
 ·have HE:=hid (HZ2.out h1)
  have h0 : ptE p = 0:=by simpa using h1
  rw [h0,errA0] at HPC
  clear h0 h1 HZ1 HZ2
  by_cases h2 : qErr bUpgrade = 0
  ·have HR:=hid (HRO.out (by rw [HE.out]; exact h2))
   rw [h2,errA0] at HQC
   rw [h2] at HE
   clear h2 HRB HRO
   go_enter Tryz.func14,Tryz.ntmps14
   go_wp2_with fail
   refine HC.out.mono ?_
   rintro e w1 ⟨rfl,rfl⟩
   go_wp2_with fail
   refine HCT.out.mono ?_
   rintro e w2 ⟨rfl,hb⟩
   have HB:=hid hb
   clear hb
   go_wp2_with fail
   refine (HPC.out _ HB.out).mono ?_
   rintro e w3 ⟨rfl,hb⟩
   have HB2:=hid (HB.out.trans (hb.mono HB.out.size))
   clear hb
   go_wp2_with fail
   refine (HQC.out _ HB2.out).mono ?_
   rintro e w4 ⟨rfl,hb⟩
   have HB3:=hid (HB2.out.trans (hb.mono HB2.out.size))
   clear hb
   go_wp2_with fail
   go_ret3
   exact ⟨by first | (rw [HE.out,HR.out]; rfl) | rw [HE.out,HR.out],HB3.out⟩
  ·exact absurd (by unfold qErr; rw [if_pos (by unfold isWd; simp)]) h2
set_option maxRecDepth 100000 in
theorem arg_at (s : ByteArray) (A : Nat -> Addr) (m : Int) (w : World) (hs : s.size < 999999) (hp : (argK s).1.size <= 100) (hq : (argK s).2.size <= 100) (S : Te w A m) (D : Ds w A) (h : ¬ 1 < s.data.toList.count 64) (hb : (one 64 s.data.toList).2.2 = true) :
  Calls Tryz.prog 14 #[.string s] w fun e w'=>e = .returned (.tuple #[.string (argR s).1,.string (argR s).2,errA A (argZ s)]) /\ Below w.heap.size w w':=by
 have HC:=hid (Tryz.strings_Count_one s 64 w)
 have hz : ¬ (1 : Int) < ((Lib.countByte s.data.toList 64 : Nat) : Int):=by unfold Lib.countByte; omega
 have HCT:=hid (cutG s m w (by omega) S.ml)
 have hk : argK s = (⟨(one 64 s.data.toList).1.toArray⟩,⟨(one 64 s.data.toList).2.1.toArray⟩):=by unfold argK; rw [hb]; rfl
 rw [hb] at HCT
 have HPC:=hid (fun W (hW : Below w.heap.size w W)=>pchkD_any (argK s).1 A m W hp (S.below hW) (D.below hW))
 have HQC:=hid (fun W (hW : Below w.heap.size w W)=>check_c (argK s).2 A m W hq (S.below hW))
 have HZ1:=hid (fun h2=>argZ_pat (s:=s) h h2)
 have HZ2:=hid (fun h2=>argZ_q (s:=s) h h2)
 have HRB:=hid (fun h2=>argR_bad (s:=s) h2)
 have HRO:=hid (fun h2=>argR_ok (s:=s) h2)
 rw [hk] at HPC HQC HZ1 HZ2 HRO
 simp only at HPC HQC HZ1 HZ2 HRO
 generalize ((Lib.countByte s.data.toList 64 : Nat) : Int) = c at *
 generalize (⟨(one 64 s.data.toList).1.toArray⟩ : ByteArray) = p at *
 generalize (⟨(one 64 s.data.toList).2.1.toArray⟩ : ByteArray) = t at *
 generalize argZ s = z at *
 generalize argR s = r at *
 clear S D h hb hk hp hq hs
 by_cases h1 : ptE p ≠ 0
 ·have HE:=hid (HZ1.out h1)
  have HR:=hid (HRB.out (by rw [HE.out]; exact h1))
  obtain ⟨ea,hea⟩:=errA_ne A h1
  rw [hea] at HPC
  have HEA:=hid hea
  clear h1 hea HZ1 HZ2 HRB HRO HQC
  go_enter Tryz.func14,Tryz.ntmps14
  go_wp2_with fail
  refine HC.out.mono ?_
  rintro e w1 ⟨rfl,rfl⟩
  go_wp2_with fail
  refine HCT.out.mono ?_
  rintro e w2 ⟨rfl,hb⟩
  have HB:=hid hb
  clear hb
  go_wp2_with fail
  refine (HPC.out _ HB.out).mono ?_
  rintro e w3 ⟨rfl,hb⟩
  have HB2:=hid (HB.out.trans (hb.mono HB.out.size))
  clear hb
  go_wp2_with fail
  go_ret3
  exact ⟨by rw [HE.out,HR.out,HEA.out]; rfl,HB2.out⟩
 ·have HE:=hid (HZ2.out h1)
  have h0 : ptE p = 0:=by simpa using h1
  rw [h0,errA0] at HPC
  clear h0 h1 HZ1 HZ2
  by_cases h2 : qErr t = 0
  ·have HR:=hid (HRO.out (by rw [HE.out]; exact h2))
   rw [h2,errA0] at HQC
   rw [h2] at HE
   clear h2 HRB HRO
   go_enter Tryz.func14,Tryz.ntmps14
   go_wp2_with fail
   refine HC.out.mono ?_
   rintro e w1 ⟨rfl,rfl⟩
   go_wp2_with fail
   refine HCT.out.mono ?_
   rintro e w2 ⟨rfl,hb⟩
   have HB:=hid hb
   clear hb
   go_wp2_with fail
   refine (HPC.out _ HB.out).mono ?_
   rintro e w3 ⟨rfl,hb⟩
   have HB2:=hid (HB.out.trans (hb.mono HB.out.size))
   clear hb
   go_wp2_with fail
   refine (HQC.out _ HB2.out).mono ?_
   rintro e w4 ⟨rfl,hb⟩
   have HB3:=hid (HB2.out.trans (hb.mono HB2.out.size))
   clear hb
   go_wp2_with fail
   go_ret3
   exact ⟨by first | (rw [HE.out,HR.out]; rfl) | rw [HE.out,HR.out],HB3.out⟩
  ·have HR:=hid (HRB.out (by rw [HE.out]; exact h2))
   obtain ⟨ea,hea⟩:=errA_ne A h2
   rw [hea] at HQC
   have HEA:=hid hea
   clear h2 hea HRB HRO
   go_enter Tryz.func14,Tryz.ntmps14
   go_wp2_with fail
   refine HC.out.mono ?_
   rintro e w1 ⟨rfl,rfl⟩
   go_wp2_with fail
   refine HCT.out.mono ?_
   rintro e w2 ⟨rfl,hb⟩
   have HB:=hid hb
   clear hb
   go_wp2_with fail
   refine (HPC.out _ HB.out).mono ?_
   rintro e w3 ⟨rfl,hb⟩
   have HB2:=hid (HB.out.trans (hb.mono HB.out.size))
   clear hb
   go_wp2_with fail
   refine (HQC.out _ HB2.out).mono ?_
   rintro e w4 ⟨rfl,hb⟩
   have HB3:=hid (HB2.out.trans (hb.mono HB2.out.size))
   clear hb
   go_wp2_with fail
   go_ret3
   exact ⟨by rw [HE.out,HR.out,HEA.out]; rfl,HB3.out⟩
theorem arg_any (s : ByteArray) (A : Nat -> Addr) (m : Int) (w : World) (hs : s.size < 999999) (hp : (argK s).1.size <= 100) (hq : (argK s).2.size <= 100) (S : Te w A m) (D : Ds w A) :
  Calls Tryz.prog 14 #[.string s] w fun e w'=>e = .returned (.tuple #[.string (argR s).1,.string (argR s).2,errA A (argZ s)]) /\ Below w.heap.size w w':=by
 by_cases h : 1 < s.data.toList.count 64
 ·have hz:=argZ_many h
  rw [argR_bad (by rw [hz]; decide),hz]
  exact arg_many s A m w S h
 ·cases hb : (one 64 s.data.toList).2.2
  ·exact arg_no s A m w hs hp hq S D h hb
  ·exact arg_at s A m w hs hp hq S D h hb
end Ve
end Go.Proofs.YtjbmjnbkibmkpaaGreatDoor
