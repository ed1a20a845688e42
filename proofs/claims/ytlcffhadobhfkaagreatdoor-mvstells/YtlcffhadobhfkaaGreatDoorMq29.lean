/-
  OrdE MtD
-/
import Derived.Test.YtlcffhadobhfkaaGreatDoorMq5
import Derived.Test.YtlcffhadobhfkaaGreatDoorMq6
import Derived.Test.YtlcffhadobhfkaaGreatDoorMq3
import Derived.Test.YtlcffhadobhfkaaGreatDoorMq9
import Derived.Test.YtlcffhadobhfkaaGreatDoorMq15
import Derived.Test.YtlcffhadobhfkaaGreatDoorMq28
import Derived.Test.YtlcffhadobhfkaaGreatDoorMq2
import Derived.Test.YtlcffhadobhfkaaGreatDoorMq18
import Derived.Test.YtlcffhadobhfkaaGreatDoorMq20
import Derived.Test.YtlcffhadobhfkaaGreatDoorMq33
import Derived.Test.YtlcffhadobhfkaaGreatDoorMq34
import Derived.Test.YtlcffhadobhfkaaGreatDoorMq22
import Derived.Test.YtlcffhadobhfkaaGreatDoorMq45
import Derived.Test.YtlcffhadobhfkaaGreatDoorMq36
import Derived.Test.YtlcffhadobhfkaaGreatDoorMq32
namespace Go.Proofs.YtlcffhadobhfkaaGreatDoor
open Go.RowKit
namespace Ve
def maxB (s t : ByteArray) : ByteArray:=
  if verErr s.data.toList = 0 then (if verErr t.data.toList = 0 then (if ordV s.data.toList t.data.toList < 0 then t else s) else s) else if verErr t.data.toList = 0 then t else ⟨#[]⟩
theorem ret_str {a b : ByteArray} (h : a = b) : Ending.returned (.string a) = .returned (.string b):=by rw [h]
set_option maxHeartbeats 1000000 in
theorem maxOf_any (s t : ByteArray) (w : World) (hs : s.size < 999999) (ht : t.size < 999999) :
    Calls Tryz.prog 129 #[.string s,.string t] w fun e w'=>e = .returned (.string (maxB s t)) /\ Below w.heap.size w w':=by
  have HL:=hid (show maxB s t = if verErr s.data.toList = 0 then (if verErr t.data.toList = 0 then (if ordV s.data.toList t.data.toList < 0 then t else s) else s) else if verErr t.data.toList = 0 then t else ⟨#[]⟩ from rfl)
  have HA:=hid (isVer_any s w (by omega))
  have HT:=hid (fun W=>isVer_any t W (by omega))
  by_cases h1 : verErr s.data.toList = 0
  all_goals by_cases h2 : verErr t.data.toList = 0
  · have HO:=hid (fun W=>orderVer_any s t W hs ht h1 h2)
    rw [decide_eq_true h1] at HA
    rw [decide_eq_true h2] at HT
    rw [if_pos h1,if_pos h2] at HL
    clear h1 h2
    generalize ordV s.data.toList t.data.toList = k at *
    by_cases hk : k < 0
    · rw [if_pos hk] at HL
      go_enter Tryz.func129,Tryz.ntmps129
      go_wp2_with fail
      refine HA.out.mono ?_
      rintro e w1 ⟨rfl,hb1⟩
      have HB1:=hid hb1
      clear hb1
      go_wp2_with fail
      refine (HT.out _).mono ?_
      rintro e w2 ⟨rfl,hb2⟩
      have HB2:=hid (HB1.out.trans (hb2.mono HB1.out.size))
      clear hb2
      go_wp2_with fail
      refine (HO.out _).mono ?_
      rintro e w3 ⟨rfl,hb3⟩
      have HB3:=hid (HB2.out.trans (hb3.mono HB2.out.size))
      clear hb3
      go_wp2_with fail
      go_ret
      exact ⟨ret_str HL.out.symm,HB3.out⟩
    · rw [if_neg hk] at HL
      go_enter Tryz.func129,Tryz.ntmps129
      go_wp2_with fail
      refine HA.out.mono ?_
      rintro e w1 ⟨rfl,hb1⟩
      have HB1:=hid hb1
      clear hb1
      go_wp2_with fail
      refine (HT.out _).mono ?_
      rintro e w2 ⟨rfl,hb2⟩
      have HB2:=hid (HB1.out.trans (hb2.mono HB1.out.size))
      clear hb2
      go_wp2_with fail
      refine (HO.out _).mono ?_
      rintro e w3 ⟨rfl,hb3⟩
      have HB3:=hid (HB2.out.trans (hb3.mono HB2.out.size))
      clear hb3
      go_wp2_with fail
      go_ret
      exact ⟨ret_str HL.out.symm,HB3.out⟩
  · rw [decide_eq_true h1] at HA
    rw [decide_eq_false h2] at HT
    rw [if_pos h1,if_neg h2] at HL
    clear h1 h2
    go_enter Tryz.func129,Tryz.ntmps129
    go_wp2_with fail
    refine HA.out.mono ?_
    rintro e w1 ⟨rfl,hb1⟩
    have HB1:=hid hb1
    clear hb1
    go_wp2_with fail
    refine (HT.out _).mono ?_
    rintro e w2 ⟨rfl,hb2⟩
    have HB2:=hid (HB1.out.trans (hb2.mono HB1.out.size))
    clear hb2
    go_wp2_with fail
    go_ret
    exact ⟨ret_str HL.out.symm,HB2.out⟩
  · rw [decide_eq_false h1] at HA
    rw [decide_eq_true h2] at HT
    rw [if_neg h1,if_pos h2] at HL
    clear h1 h2
    go_enter Tryz.func129,Tryz.ntmps129
    go_wp2_with fail
    refine HA.out.mono ?_
    rintro e w1 ⟨rfl,hb1⟩
    have HB1:=hid hb1
    clear hb1
    go_wp2_with fail
    refine (HT.out _).mono ?_
    rintro e w2 ⟨rfl,hb2⟩
    have HB2:=hid (HB1.out.trans (hb2.mono HB1.out.size))
    clear hb2
    go_wp2_with fail
    go_ret
    exact ⟨ret_str HL.out.symm,HB2.out⟩
  · rw [decide_eq_false h1] at HA
    rw [decide_eq_false h2] at HT
    rw [if_neg h1,if_neg h2] at HL
    clear h1 h2
    go_enter Tryz.func129,Tryz.ntmps129
    go_wp2_with fail
    refine HA.out.mono ?_
    rintro e w1 ⟨rfl,hb1⟩
    have HB1:=hid hb1
    clear hb1
    go_wp2_with fail
    refine (HT.out _).mono ?_
    rintro e w2 ⟨rfl,hb2⟩
    have HB2:=hid (HB1.out.trans (hb2.mono HB1.out.size))
    clear hb2
    go_wp2_with fail
    go_ret
    exact ⟨ret_str HL.out.symm,HB2.out⟩
def withR : List Bm -> Bm -> List Bm
  | [],m=>[m]
  | x :: r,m=>if lt x.1 m.1 then x :: withR r m else if x.1 = m.1 then (m.1,maxB x.2 m.2) :: r else m :: x :: r
def wSt (m : Bm) (s : Bool × List Bm) (x : Bm) : Bool × List Bm:=
  if s.1 then (true,s.2 ++ [x]) else if lt x.1 m.1 then (false,s.2 ++ [x]) else if x.1 = m.1 then (true,s.2 ++ [(m.1,maxB x.2 m.2)]) else (true,s.2 ++ [m] ++ [x])
def wFin (m : Bm) (s : Bool × List Bm) : List Bm:=if s.1 then s.2 else s.2 ++ [m]
def wN (l : List Bm) (m : Bm) (i : Nat) : Bool × List Bm:=(l.take i).foldl (wSt m) (false,[])
theorem wN_zero (l : List Bm) (m : Bm) : wN l m 0 = (false,[]):=rfl
theorem wN_next {l : List Bm} {m : Bm} {i : Nat} (h : i < l.length) : wN l m (i + 1) = wSt m (wN l m i) l[i]:=by
  unfold wN
  rw [List.take_succ_eq_append_getElem h,List.foldl_append]; rfl
theorem wSt_done (m : Bm) : ∀ (l o : List Bm),l.foldl (wSt m) (true,o) = (true,o ++ l)
  | [],o=>by simp
  | x :: r,o=>by
    rw [List.foldl_cons]
    show r.foldl (wSt m) (true,o ++ [x]) = _
    rw [wSt_done m r]; simp
theorem wFin_all (m : Bm) : ∀ (l o : List Bm),wFin m (l.foldl (wSt m) (false,o)) = o ++ withR l m
  | [],o=>rfl
  | x :: r, o => by
    rw [List.foldl_cons]
    unfold withR
    by_cases h1 : lt x.1 m.1 = true
    · rw [if_pos h1,show wSt m (false,o) x = (false,o ++ [x]) by unfold wSt; rw [if_neg (by simp),if_pos h1],wFin_all m r]; simp
    · rw [if_neg h1]
      by_cases h2 : x.1 = m.1
      · rw [if_pos h2,show wSt m (false,o) x = (true,o ++ [(m.1,maxB x.2 m.2)]) by unfold wSt; rw [if_neg (by simp),if_neg h1,if_pos h2],wSt_done]; simp [wFin]
      · rw [if_neg h2,show wSt m (false,o) x = (true,o ++ [m] ++ [x]) by unfold wSt; rw [if_neg (by simp),if_neg h1,if_neg h2],wSt_done]; simp [wFin]
theorem wN_all (l : List Bm) (m : Bm) : wFin m (wN l m l.length) = withR l m:=by
  unfold wN
  rw [List.take_of_length_le (Nat.le_refl _),wFin_all]; rfl
theorem withR_len : ∀ (l : List Bm) (m : Bm),(withR l m).length <= l.length + 1
  | [],m=>by simp [withR]
  | x :: r,m=>by
    unfold withR
    split
    · have:=withR_len r m; simp; omega
    · split <;> simp
theorem wSt_len (m : Bm) (s : Bool × List Bm) (x : Bm) : (wSt m s x).2.length <= s.2.length + 2:=by
  unfold wSt
  split
  · simp
  · split
    · simp
    · split <;> simp
theorem wN_len (l : List Bm) (m : Bm) : ∀ i, (wN l m i).2.length ≤ 2 * i
  | 0=>by simp [wN_zero]
  | i + 1 => by
    have ih:=wN_len l m i
    by_cases h : i < l.length
    · rw [wN_next h]
      have:=wSt_len m (wN l m i) l[i]
      omega
    · have e : wN l m (i + 1) = wN l m i:=by
        unfold wN
        rw [List.take_of_length_le (by omega),List.take_of_length_le (by omega)]
      rw [e]; omega
theorem maxB_two {x m : Bm} (hx : mErr x = 0) (hm : mErr m = 0) (h : x.1 = m.1) : ((m.1,maxB x.2 m.2) = x \/ (m.1,maxB x.2 m.2) = m) /\ ordV (vb x) (vb (m.1,maxB x.2 m.2)) <= 0 /\ ordV (vb m) (vb (m.1,maxB x.2 m.2)) <= 0:=by
  unfold maxB
  rw [if_pos (mErr_zero hx).2,if_pos (mErr_zero hm).2]
  by_cases h1 : ordV x.2.data.toList m.2.data.toList < 0
  · rw [if_pos h1]
    exact ⟨Or.inr rfl,Int.le_of_lt h1,ordV_selfJ hm⟩
  · rw [if_neg h1]
    refine ⟨Or.inl (Prod.ext h.symm rfl),?_,ordV_total h1⟩
    exact ordV_selfJ hx
theorem withR_in : ∀ {l : List Bm} {m : Bm}, (∀ x, x ∈ l → mErr x = 0) → mErr m = 0 → ∀ e, e ∈ withR l m → e ∈ l ∨ e = m
  | [],m,_,_,e,he=>Or.inr (List.mem_singleton.1 he)
  | x :: r, m, hl, hm, e, he => by
    unfold withR at he
    by_cases h1 : lt x.1 m.1 = true
    · rw [if_pos h1] at he
      rcases List.mem_cons.1 he with rfl | he
      · exact Or.inl (List.mem_cons_self ..)
      · rcases withR_in (fun y hy=>hl y (List.mem_cons_of_mem _ hy)) hm e he with h | h
        · exact Or.inl (List.mem_cons_of_mem _ h)
        · exact Or.inr h
    · rw [if_neg h1] at he
      by_cases h2 : x.1 = m.1
      · rw [if_pos h2] at he
        rcases List.mem_cons.1 he with rfl | he
        · rcases (maxB_two (hl x (List.mem_cons_self ..)) hm h2).1 with h | h
          · exact Or.inl (by rw [h]; exact List.mem_cons_self ..)
          · exact Or.inr h
        · exact Or.inl (List.mem_cons_of_mem _ he)
      · rw [if_neg h2] at he
        rcases List.mem_cons.1 he with rfl | he
        · exact Or.inr rfl
        · exact Or.inl he
theorem withR_rising : ∀ {l : List Bm} {m : Bm}, (∀ x, x ∈ l → mErr x = 0) → mErr m = 0 → rising l → rising (withR l m)
  | [],m,_,_,_=>List.pairwise_singleton _ _
  | x :: r, m, hl, hm, hr => by
    obtain ⟨h3,h4⟩:=List.pairwise_cons.1 hr
    have hlr : ∀ y,y ∈ r -> mErr y = 0:=fun y hy=>hl y (List.mem_cons_of_mem _ hy)
    unfold withR
    by_cases h1 : lt x.1 m.1 = true
    · rw [if_pos h1]
      refine List.pairwise_cons.2 ⟨fun e he=>?_,withR_rising hlr hm h4⟩
      rcases withR_in hlr hm e he with h | h
      · exact h3 e h
      · rw [h]; exact h1
    · rw [if_neg h1]
      by_cases h2 : x.1 = m.1
      · rw [if_pos h2]
        refine List.pairwise_cons.2 ⟨fun e he=>?_,h4⟩
        show lt m.1 e.1 = true
        rw [<- h2]; exact h3 e he
      · rw [if_neg h2]
        have h5 : lt m.1 x.1 = true:=by
          rcases lt_three x.1 m.1 with h | h | h
          · exact absurd h h1
          · exact absurd h h2
          · exact h
        refine List.pairwise_cons.2 ⟨fun e he=>?_,hr⟩
        rcases List.mem_cons.1 he with rfl | he
        · exact h5
        · exact lt_trans h5 (h3 e he)
theorem withR_top : ∀ {l : List Bm} {m : Bm}, (∀ x, x ∈ l → mErr x = 0) → mErr m = 0 → ∀ y, (y ∈ l ∨ y = m) → ∃ e, e ∈ withR l m ∧ e.1 = y.1 ∧ ordV (vb y) (vb e) ≤ 0
  | [],m,_,hm,y,hy=>by
    rcases hy with h | rfl
    · cases h
    · exact ⟨y,by simp [withR],rfl,ordV_selfJ hm⟩
  | x :: r, m, hl, hm, y, hy => by
    have hlr : ∀ y,y ∈ r -> mErr y = 0:=fun y hy=>hl y (List.mem_cons_of_mem _ hy)
    have hx:=hl x (List.mem_cons_self ..)
    unfold withR
    by_cases h1 : lt x.1 m.1 = true
    · rw [if_pos h1]
      by_cases hyx : y = x
      · subst hyx
        exact ⟨y,List.mem_cons_self ..,rfl,ordV_selfJ hx⟩
      · obtain ⟨e,he,e1,e2⟩:=withR_top hlr hm y (by
          rcases hy with h | h
          · rcases List.mem_cons.1 h with h | h
            · exact absurd h hyx
            · exact Or.inl h
          · exact Or.inr h)
        exact ⟨e,List.mem_cons_of_mem _ he,e1,e2⟩
    · rw [if_neg h1]
      by_cases h2 : x.1 = m.1
      · rw [if_pos h2]
        obtain ⟨-,h3,h4⟩:=maxB_two hx hm h2
        rcases hy with h | rfl
        · rcases List.mem_cons.1 h with rfl | h
          · exact ⟨_,List.mem_cons_self ..,h2.symm,h3⟩
          · exact ⟨y,List.mem_cons_of_mem _ h,rfl,ordV_selfJ (hlr y h)⟩
        · exact ⟨_,List.mem_cons_self ..,rfl,h4⟩
      · rw [if_neg h2]
        rcases hy with h | rfl
        · exact ⟨y,List.mem_cons_of_mem _ h,rfl,ordV_selfJ (hl y h)⟩
        · exact ⟨y,List.mem_cons_self ..,rfl,ordV_selfJ hm⟩
theorem Jn.with {D E : List Bm} {m : Bm} (h : Jn D E) (hm : mErr m = 0) : Jn (D ++ [m]) (withR E m) := by
  have hE : ∀ x,x ∈ E -> mErr x = 0:=fun x hx=>(h.sub x hx).2
  refine ⟨withR_rising hE hm h.ri,fun e he=>?_,fun x hx hx0=>?_⟩
  · rcases withR_in hE hm e he with h1 | h1
    · exact ⟨List.mem_append_left _ (h.sub e h1).1,hE e h1⟩
    · rw [h1]; exact ⟨List.mem_append_right _ (by simp),hm⟩
  · rcases List.mem_append.1 hx with h1 | h1
    · obtain ⟨e,he,e1,e2⟩:=h.top x h1 hx0
      obtain ⟨f,hf,f1,f2⟩:=withR_top hE hm e (Or.inl he)
      have hf0 : mErr f = 0:=by
        rcases withR_in hE hm f hf with h3 | h3
        · exact hE f h3
        · rw [h3]; exact hm
      exact ⟨f,hf,f1.trans e1,ordV_le_trans (mErr_zero hx0).2 (mErr_zero (hE e he)).2 (mErr_zero hf0).2 e2 f2⟩
    · have:=List.mem_singleton.1 h1
      subst this
      exact withR_top hE hm x (Or.inr rfl)
theorem Jn.wrong {D E : List Bm} {m : Bm} (h : Jn D E) (hm : ¬ mErr m = 0) : Jn (D ++ [m]) E:=
  ⟨h.ri,fun e he=>⟨List.mem_append_left _ (h.sub e he).1,(h.sub e he).2⟩,fun x hx hx0=>by
    rcases List.mem_append.1 hx with h1 | h1
    · exact h.top x h1 hx0
    · have:=List.mem_singleton.1 h1
      subst this
      exact absurd hx0 hm⟩
theorem Jn.empty : Jn [] []:=⟨List.Pairwise.nil,(fun e he=>by cases he),(fun x hx=>by cases hx)⟩
def jSt (E : List Bm) (x : Bm) : List Bm:=if mErr x = 0 then withR E x else E
theorem jSt_len (E : List Bm) (x : Bm) : (jSt E x).length <= E.length + 1:=by
  unfold jSt
  split
  · exact withR_len E x
  · omega
theorem jN_next {E l : List Bm} {i : Nat} (h : i < l.length) : (l.take (i + 1)).foldl jSt E = jSt ((l.take i).foldl jSt E) l[i]:=by
  rw [List.take_succ_eq_append_getElem h,List.foldl_append]; rfl
theorem jN_len (E : List Bm) : ∀ l : List Bm,(l.foldl jSt E).length <= E.length + l.length
  | []=>by simp
  | x :: r=>by
    rw [List.foldl_cons]
    have h1:=jN_len (jSt E x) r
    have h2:=jSt_len E x
    simp only [List.length_cons]
    omega
theorem jN_jn : ∀ {l D E : List Bm},Jn D E -> Jn (D ++ l) (l.foldl jSt E)
  | [],D,E,h=>by simpa using h
  | x :: r,D,E,h=>by
    rw [List.foldl_cons,show D ++ x :: r = (D ++ [x]) ++ r by simp]
    refine jN_jn ?_
    unfold jSt
    by_cases hx : mErr x = 0
    · rw [if_pos hx]; exact h.with hx
    · rw [if_neg hx]; exact h.wrong hx
def jL (a b : List Bm) : List Bm:=b.foldl jSt (a.foldl jSt [])
theorem jL_jn (a b : List Bm) : Jn (a ++ b) (jL a b):=by
  have h:=jN_jn (l:=a) Jn.empty
  rw [List.nil_append] at h
  exact jN_jn h
theorem jN_sub (l : List Bm) (i : Nat) : ∀ e,e ∈ (l.take i).foldl jSt [] -> e ∈ l:=fun e he=>by
  have h:=jN_jn (l:=l.take i) Jn.empty
  rw [List.nil_append] at h
  exact List.mem_of_mem_take (h.sub e he).1
theorem jN_sub2 (a b : List Bm) (i : Nat) : ∀ e,e ∈ (b.take i).foldl jSt (a.foldl jSt []) -> e ∈ a \/ e ∈ b:=fun e he=>by
  have h:=jN_jn (l:=a) Jn.empty
  rw [List.nil_append] at h
  have h2:=jN_jn (l:=b.take i) h
  rcases List.mem_append.1 (h2.sub e he).1 with h3 | h3
  · exact Or.inl h3
  · exact Or.inr (List.mem_of_mem_take h3)
end Ve
end Go.Proofs.YtlcffhadobhfkaaGreatDoor
