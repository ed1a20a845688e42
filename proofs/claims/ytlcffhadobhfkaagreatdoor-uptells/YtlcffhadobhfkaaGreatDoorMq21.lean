/-
  Ten TxA OrdM KeX IxPa KeR IxP LkA UpD UpB
-/
import Derived.Test.YtlcffhadobhfkaaGreatDoorChecked
import Derived.Test.YtlcffhadobhfkaaGreatDoorRows
import Derived.Stop.LaidTwo
import Derived.Deep.RegionHeldLaw
import Derived.Test.YtlcffhadobhfkaaGreatDoorMq6
import Derived.Test.YtlcffhadobhfkaaGreatDoorMq9
import Derived.Test.YtlcffhadobhfkaaGreatDoorMq2
import Derived.Test.YtlcffhadobhfkaaGreatDoorMq5
import Derived.Test.YtlcffhadobhfkaaGreatDoorMq3
import Derived.Test.YtlcffhadobhfkaaGreatDoorMq7
import Derived.Test.YtlcffhadobhfkaaGreatDoorMq16
import Derived.Test.YtlcffhadobhfkaaGreatDoorMq18
import Derived.Test.YtlcffhadobhfkaaGreatDoorMq73
import Derived.Test.YtlcffhadobhfkaaGreatDoorMq14
import Derived.Test.YtlcffhadobhfkaaGreatDoorMq19
import Derived.Test.YtlcffhadobhfkaaGreatDoorMq34
import Derived.Test.YtlcffhadobhfkaaGreatDoorMq20
import Derived.Test.YtlcffhadobhfkaaGreatDoorMq23
import Derived.Test.YtlcffhadobhfkaaGreatDoorMq35
import Derived.Test.YtlcffhadobhfkaaGreatDoorMq17
import Derived.Test.YtlcffhadobhfkaaGreatDoorMq36
import Derived.Test.YtlcffhadobhfkaaGreatDoorMq11
import Derived.Test.YtlcffhadobhfkaaGreatDoorMq22
import Derived.Test.YtlcffhadobhfkaaGreatDoorMq45
import Derived.Test.YtlcffhadobhfkaaGreatDoorMq56
import Derived.Test.YtlcffhadobhfkaaGreatDoorMq61
import Derived.Test.YtlcffhadobhfkaaGreatDoorMq37
namespace Go.Proofs.YtlcffhadobhfkaaGreatDoor
open Go.ChangeShapes Go.WideShapes Go.ChangeAt Go.RowKit
namespace Ve
theorem gPt : (Tryz.prog.globals[(14 : Nat)]?).map (·.type) = some 315:=by kernel_rfl
theorem cellsU : Tryz.prog.cellsOf 230 = 1:=by kernel_rfl
theorem cellsPow : Tryz.prog.cellsOf 315 = 20:=by kernel_rfl
theorem tx_cellK {W : World} {a : Option Addr} {n c : Nat} {X : List ByteArray} (h : TxAt W (.slice a n c) X) {k : Nat} (hk : k < X.length) : ∃ b o,a = some ⟨b,o,none⟩ /\ W.cell? ⟨b,o + k,none⟩ = some (.string X[k]):=by
  obtain ⟨a',c',e,_,h⟩:=h
  injection e with e1 e2 e3
  subst e1
  obtain ⟨b',o',e4,h4⟩:=h (by intro h0; rw [h0] at hk; simp at hk)
  exact ⟨b',o',e4,h4 k hk⟩
theorem rises_ins {A B : List (List UInt8)} {x : List UInt8} (h : rises (A ++ B)) (ha : ∀ a,a ∈ A -> ordV a x < 0) (hb : ∀ b,B.head? = some b -> ordV x b < 0) : rises (A ++ x :: B):=by
  unfold rises at *
  rw [List.pairwise_append] at h ⊢
  obtain ⟨h1,h2,h3⟩:=h
  have hB : ∀ b,b ∈ B -> ordV x b < 0:=by
    cases B with
    | nil=>intro b hb; cases hb
    | cons b r=>
      have hb0:=hb b rfl
      intro c hc
      rcases List.mem_cons.1 hc with e | hc
      · rw [e]; exact hb0
      · exact ordV_trans hb0 ((List.pairwise_cons.1 h2).1 c hc)
  refine ⟨h1,List.pairwise_cons.2 ⟨hB,h2⟩,fun a ha' c hc=>?_⟩
  rcases List.mem_cons.1 hc with e | hc
  · rw [e]; exact ha a ha'
  · exact h3 a ha' c hc
theorem bl_get {X : List ByteArray} {j : Nat} (h : j < X.length) : (bl X)[j]'(by rw [bl_len]; exact h) = X[j].data.toList:=by simp [bl]
theorem kept_no {L : List ByteArray} {k : Nat} {X : List ByteArray} (hk : k < L.length) (h : Kept L k X) (hv : verErr L[k].data.toList ≠ 0) : Kept L (k + 1) X:=by
  refine ⟨h.1,fun t=>?_⟩
  rw [h.2 t,bl_take_snoc L k hk,List.mem_append,List.mem_singleton]
  constructor
  · rintro ⟨a,b⟩; exact ⟨Or.inl a,b⟩
  · rintro ⟨a | a,b⟩
    · exact ⟨a,b⟩
    · rw [a] at b; exact absurd b hv
theorem kept_old {L : List ByteArray} {k : Nat} {X : List ByteArray} (hk : k < L.length) (h : Kept L k X) (hm : L[k].data.toList ∈ bl X) : Kept L (k + 1) X:=by
  refine ⟨h.1,fun t=>?_⟩
  rw [bl_take_snoc L k hk,List.mem_append,List.mem_singleton]
  constructor
  · intro ht
    exact ⟨Or.inl ((h.2 t).1 ht).1,((h.2 t).1 ht).2⟩
  · rintro ⟨a | a,b⟩
    · exact (h.2 t).2 ⟨a,b⟩
    · rw [a]; exact hm
theorem kept_new {L : List ByteArray} {k : Nat} {X : List ByteArray} (hk : k < L.length) (h : Kept L k X) (hv : verErr L[k].data.toList = 0) {j : Nat} (hj : j ≤ X.length) (hlt : ∀ t (ht : t < X.length), t < j → ordV X[t].data.toList L[k].data.toList < 0)
    (hge : ∀ (ht : j < X.length),¬ ordV X[j].data.toList L[k].data.toList < 0 /\ X[j].data.toList ≠ L[k].data.toList) : Kept L (k + 1) (X.take j ++ L[k] :: X.drop j):=by
  have e : bl (X.take j ++ L[k] :: X.drop j) = (bl X).take j ++ L[k].data.toList :: (bl X).drop j:=by simp [bl]
  refine ⟨?_,fun t=>?_⟩
  · rw [e]
    refine rises_ins (by rw [List.take_append_drop]; exact h.1) ?_ ?_
    · intro a ha
      obtain ⟨i,hi,e2⟩:=List.mem_iff_getElem.1 ha
      rw [List.getElem_take] at e2
      simp [bl_len] at hi
      rw [bl_get (by omega)] at e2
      rw [<- e2]; exact hlt i (by omega) (by omega)
    · intro b hb
      rw [List.head?_drop] at hb
      obtain ⟨hl,e2⟩:=List.getElem?_eq_some_iff.1 hb
      rw [bl_len] at hl
      rw [bl_get hl] at e2
      obtain ⟨h1,h2⟩:=hge hl
      rw [e2] at h1 h2
      have hbv : verErr b = 0:=((h.2 b).1 (by rw [<- e2]; exact bl_mem (List.getElem_mem hl))).2
      rw [ordV_swap b]
      rcases ordV_range b L[k].data.toList with r | r | r
      · omega
      · exact absurd ((ordV_zero hbv hv).1 r) h2
      · omega
  · rw [e,List.mem_append,List.mem_cons,bl_take_snoc L k hk,List.mem_append,List.mem_singleton]
    have hm:=h.2 t
    rw [<- List.take_append_drop j (bl X),List.mem_append] at hm
    constructor
    · rintro (a | a | a)
      · exact ⟨Or.inl (hm.1 (Or.inl a)).1,(hm.1 (Or.inl a)).2⟩
      · rw [a]; exact ⟨Or.inr rfl,hv⟩
      · exact ⟨Or.inl (hm.1 (Or.inr a)).1,(hm.1 (Or.inr a)).2⟩
    · rintro ⟨a | a,b⟩
      · rcases hm.2 ⟨a,b⟩ with c | c
        · exact Or.inl c
        · exact Or.inr (Or.inr c)
      · exact Or.inr (Or.inl a)
open Go.Maps
theorem ordV_three {s t : List UInt8} (hs : verErr s = 0) (ht : verErr t = 0) : ordV s t < 0 \/ s = t \/ ordV t s < 0:=by
  rcases ordV_range s t with h | h | h
  · exact Or.inl (by omega)
  · exact Or.inr (Or.inl ((ordV_zero hs ht).1 h))
  · exact Or.inr (Or.inr (by rw [ordV_swap s t]; omega))
theorem sorted_ex : ∀ L : List ByteArray, (∀ x, x ∈ L → verErr x.data.toList = 0) → ∃ X : List ByteArray, rises (bl X) ∧ ∀ t, t ∈ bl X ↔ t ∈ bl L
  | [],_=>⟨[],List.Pairwise.nil,fun t=>Iff.rfl⟩
  | x :: L, h => by
    obtain ⟨X,h1,h2⟩:=sorted_ex L fun y hy=>h y (List.mem_cons_of_mem _ hy)
    have hx:=h x (List.mem_cons_self ..)
    have hv : ∀ y,y ∈ X -> verErr y.data.toList = 0:=fun y hy=>by
      have:=(h2 y.data.toList).1 (List.mem_map.2 ⟨y,hy,rfl⟩)
      obtain ⟨z,hz,e⟩:=List.mem_map.1 this
      rw [<- e]; exact h z (List.mem_cons_of_mem _ hz)
    let lo:=X.filter fun y=>decide (ordV y.data.toList x.data.toList < 0)
    let hi:=X.filter fun y=>decide (ordV x.data.toList y.data.toList < 0)
    have hr : X.Pairwise fun a b=>ordV a.data.toList b.data.toList < 0:=by
      have:=h1
      unfold rises bl at this
      exact List.pairwise_map.1 this
    refine ⟨lo ++ (x :: hi),?_,fun t=>?_⟩
    · unfold rises bl
      rw [List.pairwise_map,List.pairwise_append]
      refine ⟨List.Pairwise.filter _ hr,List.pairwise_cons.2 ⟨fun b hb=>of_decide_eq_true (List.mem_filter.1 hb).2,List.Pairwise.filter _ hr⟩,fun a ha b hb=>?_⟩
      have ha2:=of_decide_eq_true (List.mem_filter.1 ha).2
      rcases List.mem_cons.1 hb with rfl | hb
      · exact ha2
      · exact ordV_trans ha2 (of_decide_eq_true (List.mem_filter.1 hb).2)
    · constructor
      · intro ht
        obtain ⟨y,hy,rfl⟩:=List.mem_map.1 ht
        rcases List.mem_append.1 hy with hy | hy
        · exact List.mem_cons_of_mem _ ((h2 _).1 (List.mem_map.2 ⟨y,(List.mem_filter.1 hy).1,rfl⟩))
        · rcases List.mem_cons.1 hy with rfl | hy
          · exact List.mem_cons_self ..
          · exact List.mem_cons_of_mem _ ((h2 _).1 (List.mem_map.2 ⟨y,(List.mem_filter.1 hy).1,rfl⟩))
      · intro ht
        rcases List.mem_cons.1 ht with rfl | ht
        · exact List.mem_map.2 ⟨x,List.mem_append_right _ (List.mem_cons_self ..),rfl⟩
        · obtain ⟨y,hy,rfl⟩:=List.mem_map.1 ((h2 t).2 ht)
          refine List.mem_map.2 ?_
          rcases ordV_three (hv y hy) hx with h3 | h3 | h3
          · exact ⟨y,List.mem_append_left _ (List.mem_filter.2 ⟨hy,decide_eq_true h3⟩),rfl⟩
          · exact ⟨x,List.mem_append_right _ (List.mem_cons_self ..),h3.symm⟩
          · exact ⟨y,List.mem_append_right _ (List.mem_cons_of_mem _ (List.mem_filter.2 ⟨hy,decide_eq_true h3⟩)),rfl⟩
theorem kept_ex {L : List ByteArray} (h : ∀ x,x ∈ L -> verErr x.data.toList = 0) : ∃ X,Kept L L.length X:=by
  obtain ⟨X,h1,h2⟩:=sorted_ex L h
  refine ⟨X,h1,fun t=>?_⟩
  rw [h2,List.take_length]
  refine ⟨fun ht=>⟨ht,?_⟩,fun ht=>ht.1⟩
  obtain ⟨y,hy,rfl⟩:=List.mem_map.1 ht
  exact h y hy
theorem Good.find {Q : List Raw} (g : Good Q) {r : Raw} (hr : r ∈ Q) : ∃ n,∃ hn : n < Q.length,idxOf (isM r.1) Q = (n : Int) /\ Q[n] = r:=by
  obtain ⟨i,hi,e⟩:=List.getElem_of_mem hr
  refine ⟨i,hi,idx_hit hi (fun j hj hji=>?_) (by rw [e]; unfold isM; simp),e⟩
  unfold isM
  rw [decide_eq_false]
  rintro ⟨h1,h2⟩
  have:=g.one j i hj hi (by rw [e]; exact Prod.ext h1 h2)
  omega
def keyR (r : Raw) : Bm × Bool:=(r.1,r.2.2.2)
def bestK (K : List (Bm × Bool)) : List (Bm × Bool):=if 0 < ((K.filter fun k=>!k.2).filter fun k=>!preB k.1.2).length then (K.filter fun k=>!k.2).filter fun k=>!preB k.1.2 else if 0 < (K.filter fun k=>!k.2).length then K.filter fun k=>!k.2 else K
theorem key_filter (P : Bm × Bool -> Bool) (p : Raw -> Bool) (h : ∀ r,p r = P (keyR r)) (Q : List Raw) : (Q.filter p).map keyR = (Q.map keyR).filter P:=by
  rw [List.filter_map]
  congr 1
  apply List.filter_congr
  intro r _
  exact h r
theorem key_best (R : List Raw) : (bestR R).map keyR = bestK (R.map keyR):=by
  have e1:=key_filter (fun k=>!k.2) isS (fun _=>rfl) R
  have e2:=key_filter (fun k=>!preB k.1.2) isD (fun _=>rfl) (R.filter isS)
  rw [e1] at e2
  unfold bestR bestK
  rw [<- e2,<- e1,List.length_map,List.length_map]
  split
  · rfl
  · split <;> rfl
theorem key_ver (R : List Raw) : verL R = (R.map keyR).map fun k=>k.1.2:=by
  unfold verL
  rw [List.map_map]; rfl
theorem key_mod {Q Q' : List Raw} (h : Q.map keyR = Q'.map keyR) : Q.map (fun r=>r.1) = Q'.map (fun r=>r.1):=by
  have:=congrArg (List.map Prod.fst) h
  rw [List.map_map,List.map_map] at this
  exact this
theorem keys_of {w : World} {v : Value} {Q : List Raw} {L : List Ent} (I : Ixs w v Q L) : Q.map keyR = L.map fun e=>(e.1,e.2.2.2):=by
  apply List.ext_getElem
  · simp [I.ln]
  · intro j h1 h2
    have hq : j < Q.length:=by simpa using h1
    have hl : j < L.length:=by rw [<- I.ln]; exact hq
    simp only [List.getElem_map]
    have h:=I.ok j hq hl
    exact Prod.ext h.m h.bk
theorem rises_nd {l : List (List UInt8)} (h : rises l) : l.Nodup:=List.Pairwise.imp (fun {a b} h e=>by subst e; exact ordV_irr h h) h
theorem one_of {Q : List Raw} (g : Good Q) {t v : ByteArray} {X : List ByteArray} (hK : Kept (verL (ofP t Q)) (verL (ofP t Q)).length X) (hv : v ∈ X) : ∃ n,One Q t v n:=by
  obtain ⟨r,hr,e⟩:=kept_has g ofP_sub hK hv
  have hrq:=g.ofP_mem.1 hr
  obtain ⟨n,hn,hi,hq⟩:=g.find hrq.1
  have hm : r.1 = (t,v):=Prod.ext hrq.2 e
  exact ⟨n,hn,by rw [<- hm]; exact hi,by rw [<- e]; exact g.ver r hrq.1,by rw [hq]; exact hr,by rw [hq]; exact e⟩
def rnk (r : Raw) : Nat:=if r.2.2.2 then 0 else if 0 < (preOf r.1.2.data.toList).length then 1 else 2
theorem rnk_b {r : Raw} (h : r.2.2.2 = true) : rnk r = 0:=if_pos h
theorem rnk_p {r : Raw} (h : r.2.2.2 = false) (hp : 0 < (preOf r.1.2.data.toList).length) : rnk r = 1:=by unfold rnk; rw [if_neg (by rw [h]; simp),if_pos hp]
theorem rnk_n {r : Raw} (h : r.2.2.2 = false) (hp : ¬ 0 < (preOf r.1.2.data.toList).length) : rnk r = 2:=by unfold rnk; rw [if_neg (by rw [h]; simp),if_neg hp]
theorem rnk_le (r : Raw) : rnk r <= 2:=by
  unfold rnk
  split
  · omega
  · split <;> omega
def rkV (Q : List Raw) (t v : ByteArray) : Nat:=match Q.find? (fun r=>decide (r.1.1 = t /\ r.1.2 = v)) with
  | some r=>rnk r
  | none=>0
def likS (Q : List Raw) (t : ByteArray) (s : ByteArray × Int) (v : ByteArray) : ByteArray × Int:=if s.2 <= (rkV Q t v : Int) then (v,(rkV Q t v : Int)) else s
def likN (Q : List Raw) (t : ByteArray) (X : List ByteArray) (i : Nat) : ByteArray × Int:=(X.take i).foldl (likS Q t) (⟨#[]⟩,-1)
theorem likN_next {Q : List Raw} {t : ByteArray} {X : List ByteArray} {i : Nat} (h : i < X.length) : likN Q t X (i + 1) = likS Q t (likN Q t X i) X[i]:=by
  unfold likN
  rw [List.take_succ_eq_append_getElem h,List.foldl_append]; rfl
structure Lik (Q : List Raw) (t : ByteArray) (X : List ByteArray) (i : Nat) (s : ByteArray × Int) : Prop where
  z : i = 0 -> s = (⟨#[]⟩,-1)
  p : 0 < i -> ∃ j,∃ hj : j < X.length,j < i /\ s = (X[j],(rkV Q t X[j] : Int)) /\ (∀ k (hk : k < X.length),k < i -> rkV Q t X[k] <= rkV Q t X[j]) /\ ∀ k (hk : k < X.length),k < i -> j < k -> rkV Q t X[k] < rkV Q t X[j]
theorem likN_is {Q : List Raw} {t : ByteArray} {X : List ByteArray} : ∀ i, i ≤ X.length → Lik Q t X i (likN Q t X i)
  | 0,_=>⟨fun _=>rfl,fun h=>absurd h (Nat.lt_irrefl _)⟩
  | i + 1, hi => by
    have h : i < X.length:=hi
    have ih:=likN_is (Q:=Q) (t:=t) (X:=X) i (Nat.le_of_lt h)
    rw [likN_next h]
    refine ⟨fun e=>by omega,fun _=>?_⟩
    unfold likS
    by_cases h0 : i = 0
    · rw [ih.z h0]
      rw [if_pos (show (-1 : Int) <= (rkV Q t X[i] : Int) by omega)]
      refine ⟨i,h,by omega,rfl,fun k hk hki=>?_,fun k hk hki hik=>by omega⟩
      have : k = i:=by omega
      subst this; exact Nat.le_refl _
    · obtain ⟨j,hj,hji,hs,h1,h2⟩:=ih.p (by omega)
      rw [hs]
      by_cases hc : ((rkV Q t X[j] : Nat) : Int) <= (rkV Q t X[i] : Int)
      · rw [if_pos hc]
        refine ⟨i,h,by omega,rfl,fun k hk hki=>?_,fun k hk hki hik=>by omega⟩
        rcases Nat.lt_or_ge k i with h3 | h3
        · have:=h1 k hk h3; omega
        · have : k = i:=by omega
          subst this; exact Nat.le_refl _
      · rw [if_neg hc]
        refine ⟨j,hj,by omega,rfl,fun k hk hki=>?_,fun k hk hki hjk=>?_⟩
        · rcases Nat.lt_or_ge k i with h3 | h3
          · exact h1 k hk h3
          · have : k = i:=by omega
            subst this; omega
        · rcases Nat.lt_or_ge k i with h3 | h3
          · exact h2 k hk h3 hjk
          · have : k = i:=by omega
            subst this; omega
theorem rkV_at {Q : List Raw} (g : Good Q) {r : Raw} (hr : r ∈ Q) : rkV Q r.1.1 r.1.2 = rnk r:=by
  unfold rkV
  cases hf : Q.find? (fun x=>decide (x.1.1 = r.1.1 /\ x.1.2 = r.1.2)) with
  | none=>
    have:=List.find?_eq_none.1 hf r hr
    simp at this
  | some s=>
    have h1:=List.find?_some hf
    have h2:=List.mem_of_find?_eq_some hf
    have h3 : s.1.1 = r.1.1 /\ s.1.2 = r.1.2:=by simpa using h1
    rw [g.same h2 hr (Prod.ext h3.1 h3.2)]
theorem rnk_best {Q R : List Raw} (g : Good Q) (hR : ∀ r, r ∈ R → r ∈ Q) {r : Raw} (hr : r ∈ R) : r ∈ bestR R ↔ ∀ s, s ∈ R → rnk s ≤ rnk r := by
  have hv : ∀ s,s ∈ R -> (isD s = true ↔ (preOf s.1.2.data.toList).length = 0):=fun s hs=>by
    unfold isD preB
    rw [decide_eq_true (g.ver s (hR s hs)),Bool.true_and]
    simp
  have k2 : ∀ s,s ∈ R -> (rnk s = 2 ↔ isS s = true /\ isD s = true):=fun s hs=>by
    rw [hv s hs]
    unfold isS
    cases hb : s.2.2.2
    · by_cases hp : 0 < (preOf s.1.2.data.toList).length
      · rw [rnk_p hb hp]
        exact ⟨fun h=>absurd h (by decide),fun h=>absurd h.2 (by omega)⟩
      · rw [rnk_n hb hp]
        exact ⟨fun _=>⟨rfl,by omega⟩,fun _=>rfl⟩
    · rw [rnk_b hb]
      exact ⟨fun h=>absurd h (by decide),fun h=>absurd h.1 (by decide)⟩
  have k1 : ∀ s,s ∈ R -> (0 < rnk s ↔ isS s = true):=fun s _=>by
    unfold isS
    cases hb : s.2.2.2
    · by_cases hp : 0 < (preOf s.1.2.data.toList).length
      · rw [rnk_p hb hp]; exact ⟨fun _=>rfl,fun _=>by decide⟩
      · rw [rnk_n hb hp]; exact ⟨fun _=>rfl,fun _=>by decide⟩
    · rw [rnk_b hb]; exact ⟨fun h=>absurd h (by decide),fun h=>absurd h (by decide)⟩
  have k3:=rnk_le
  unfold bestR
  by_cases hd : 0 < ((R.filter isS).filter isD).length
  · rw [if_pos hd]
    obtain ⟨x,hx⟩:=List.exists_mem_of_length_pos hd
    obtain ⟨hx1,hx2⟩:=List.mem_filter.1 hx
    obtain ⟨hx3,hx4⟩:=List.mem_filter.1 hx1
    have hx5:=(k2 x hx3).2 ⟨hx4,hx2⟩
    constructor
    · intro h s hs
      obtain ⟨h1,h2⟩:=List.mem_filter.1 h
      obtain ⟨h3,h4⟩:=List.mem_filter.1 h1
      rw [(k2 r h3).2 ⟨h4,h2⟩]; exact k3 s
    · intro h
      have:=h x hx3
      have h2:=(k2 r hr).1 (by have:=k3 r; omega)
      exact List.mem_filter.2 ⟨List.mem_filter.2 ⟨hr,h2.1⟩,h2.2⟩
  · rw [if_neg hd]
    have hno : ∀ s,s ∈ R -> rnk s ≠ 2:=fun s hs h=>hd (List.length_pos_of_mem (List.mem_filter.2 ⟨List.mem_filter.2 ⟨hs,((k2 s hs).1 h).1⟩,((k2 s hs).1 h).2⟩))
    by_cases hs2 : 0 < (R.filter isS).length
    · rw [if_pos hs2]
      obtain ⟨x,hx⟩:=List.exists_mem_of_length_pos hs2
      obtain ⟨hx1,hx2⟩:=List.mem_filter.1 hx
      have hx3:=(k1 x hx1).2 hx2
      constructor
      · intro h s hs
        obtain ⟨h1,h2⟩:=List.mem_filter.1 h
        have a1:=(k1 r h1).2 h2
        have a2:=k3 s
        have a3:=hno s hs
        omega
      · intro h
        have:=h x hx1
        exact List.mem_filter.2 ⟨hr,(k1 r hr).1 (by omega)⟩
    · rw [if_neg hs2]
      constructor
      · intro _ s hs
        have : ¬ 0 < rnk s:=fun h=>hs2 (List.length_pos_of_mem (List.mem_filter.2 ⟨hs,(k1 s hs).1 h⟩))
        omega
      · intro _; exact hr
set_option maxRecDepth 100000 in
set_option maxHeartbeats 2000000 in
theorem news_bad (Q : List Raw) (L : List Ent) (sel : List Bm) (v sv : Value) (A : Nat -> Addr) (m : Int) (w : World) (hn : L.length <= 1000) (sh : ∀ e,e ∈ L -> ShE e) (S : Te w A m) (I : Ixs w v Q L) (hs : MsAt w sv sel) (h0 : ¬ (chk Q L).1 = 0) :
    Calls Tryz.prog 41 #[v,sv] w fun e w'=>∃ T a,e = .returned (.tuple #[.slice none 0 0,.iface T (.pointer (some a))]) /\ ErrAt w' A (.iface T (.pointer (some a))) (chk Q L).1 (chk Q L).2 /\ Below w.heap.size w w':=by
  have HCK:=hid (icheck_any Q L v A m w (by omega) sh S I)
  obtain ⟨a,c,hv,-⟩:=id I.es
  subst hv
  obtain ⟨sa,sc,hsv,-⟩:=id hs
  subst hsv
  clear S I hs sh
  go_enter Tryz.func41,Tryz.ntmps41
  go_wp2_with fail
  refine HCK.out.mono ?_
  rintro e w1 ⟨x,rfl,he,hb⟩
  have HB1:=hid hb
  have HE:=hid he
  rcases he.kind with ⟨h,_⟩ | ⟨_,T,xa,rfl⟩
  · exact absurd h h0
  clear he hb HCK h0
  go_wp2_with fail
  go_ret2
  exact ⟨_,_,rfl,HE.out,HB1.out⟩
set_option maxRecDepth 100000 in
set_option maxHeartbeats 2000000 in
theorem news_ord (Q : List Raw) (L : List Ent) (sel : List Bm) (v sv : Value) (A : Nat -> Addr) (m : Int) (w : World) (hn : L.length <= 1000) (hsn : sel.length <= 1000) (sh : ∀ e,e ∈ L -> ShE e) (S : Te w A m) (I : Ixs w v Q L) (hs : MsAt w sv sel) (h0 : (chk Q L).1 = 0) (h1 : risB2 sel = false) :
    Calls Tryz.prog 41 #[v,sv] w fun e w'=>e = .returned (.tuple #[.slice none 0 0,errA A 8]) /\ Below w.heap.size w w':=by
  have HCK:=hid (icheck_any Q L v A m w (by omega) sh S I)
  have HIS:=hid (fun W (h : Below w.heap.size w W)=>isSel_any sel sv W (hs.below h) (by omega))
  rw [h1] at HIS
  have HS:=hid (fun W (h : Below w.heap.size w W)=>S.below h)
  obtain ⟨a,c,hv,-⟩:=id I.es
  subst hv
  obtain ⟨sa,sc,hsv,-⟩:=id hs
  subst hsv
  clear S I hs sh h1
  go_enter Tryz.func41,Tryz.ntmps41
  go_wp2_with fail
  refine HCK.out.mono ?_
  rintro e w1 ⟨x,rfl,he,hb⟩
  have HB1:=hid hb
  rcases he.kind with ⟨_,rfl⟩ | ⟨h,_⟩
  · clear he hb HCK h0
    go_wp2_with fail
    refine (HIS.out _ HB1.out).mono ?_
    rintro e w2 ⟨rfl,hb⟩
    have HB2:=hid (HB1.out.trans (hb.mono HB1.out.size))
    have g7:=(HS.out _ HB2.out).sen.g7
    clear hb
    go_wp2_with fail
    go_quiet (fail)
    go_wp2_with fail
    go_ret2
    exact ⟨rfl,below_drawn_of HB2.out _⟩
  · exact absurd h0 h
set_option maxRecDepth 100000 in
set_option maxHeartbeats 2000000 in
theorem one_bad (Q : List Raw) (L : List Ent) (roots : List Bm) (x : Bm) (v rv : Value) (A : Nat -> Addr) (m : Int) (w : World) (hn : L.length <= 1000) (hrn : roots.length <= 400) (sh : ∀ e,e ∈ L -> ShE e) (S : Te w A m) (I : Ixs w v Q L) (hr : MsAt w rv roots) (h0 : ¬ (chkG Q L roots).1 = 0) :
    Calls Tryz.prog 42 #[v,rv,.agg #[.string x.1,.string x.2]] w fun e w'=>∃ T a,e = .returned (.tuple #[.slice none 0 0,.iface T (.pointer (some a))]) /\ ErrAt w' A (.iface T (.pointer (some a))) (chkG Q L roots).1 (chkG Q L roots).2 /\ Below w.heap.size w w':=by
  obtain ⟨p,q⟩:=x
  have HB0:=hid ((Below.refl w.heap.size w).alloc (Nat.le_refl _) (.cells #[.string p,.string q] 25))
  have HBU:=hid (build_bad Q L roots v rv A m _ hn (by omega) sh (S.below HB0.out) (I.below HB0.out) (hr.below HB0.out) h0)
  obtain ⟨a,c,hv,-⟩:=id I.es
  subst hv
  obtain ⟨ra,rc,hrv,-⟩:=id hr
  subst hrv
  clear S I hr sh h0
  go_enter Tryz.func42,Tryz.ntmps42
  go_wp2_with fail
  refine HBU.out.mono ?_
  rintro e w1 ⟨T,xa,rfl,he,hb⟩
  have HB1:=hid (HB0.out.trans (hb.mono HB0.out.size))
  have HE:=hid he
  clear hb he HBU
  go_wp2_with fail
  go_ret2
  exact ⟨_,_,rfl,HE.out,HB1.out⟩
set_option maxRecDepth 100000 in
set_option maxHeartbeats 2000000 in
theorem all_bad (Q : List Raw) (L : List Ent) (roots : List Bm) (v rv : Value) (A : Nat -> Addr) (m : Int) (w : World) (hn : L.length <= 1000) (hrn : roots.length <= 1000000) (sh : ∀ e,e ∈ L -> ShE e) (S : Te w A m) (I : Ixs w v Q L) (hr : MsAt w rv roots) (h0 : ¬ (chkG Q L roots).1 = 0) :
    Calls Tryz.prog 40 #[v,rv] w fun e w'=>∃ T a,e = .returned (.tuple #[.slice none 0 0,.iface T (.pointer (some a))]) /\ ErrAt w' A (.iface T (.pointer (some a))) (chkG Q L roots).1 (chkG Q L roots).2 /\ Below w.heap.size w w':=by
  have HBU:=hid (build_bad Q L roots v rv A m _ hn hrn sh S I hr h0)
  obtain ⟨a,c,hv,-⟩:=id I.es
  subst hv
  obtain ⟨ra,rc,hrv,-⟩:=id hr
  subst hrv
  clear S I hr sh h0
  go_enter Tryz.func40,Tryz.ntmps40
  go_wp2_with fail
  refine HBU.out.mono ?_
  rintro e w1 ⟨T,xa,rfl,he,hb⟩
  have HB1:=hid hb
  have HE:=hid he
  clear hb he HBU
  go_wp2_with fail
  go_ret2
  exact ⟨_,_,rfl,HE.out,HB1.out⟩
end Ve
end Go.Proofs.YtlcffhadobhfkaaGreatDoor
