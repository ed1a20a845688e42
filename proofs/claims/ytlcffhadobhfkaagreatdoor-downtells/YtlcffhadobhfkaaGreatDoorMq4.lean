/-
  VerPlain PathT RefJ
-/
import Derived.Test.YtlcffhadobhfkaaGreatDoorMq2
import Derived.Test.YtlcffhadobhfkaaGreatDoorMq6
import Derived.Test.YtlcffhadobhfkaaGreatDoorMq5
import Derived.Test.YtlcffhadobhfkaaGreatDoorMq3
import Derived.Test.YtlcffhadobhfkaaGreatDoorMq8
import Derived.Test.YtlcffhadobhfkaaGreatDoorMq11
import Derived.Test.YtlcffhadobhfkaaGreatDoorMq13
import Derived.Test.YtlcffhadobhfkaaGreatDoorMq16
import Derived.Test.YtlcffhadobhfkaaGreatDoorMq9
namespace Go.Proofs.YtlcffhadobhfkaaGreatDoor
namespace Ve
theorem take_all (s : ByteArray) : s.data.toList.take s.size = s.data.toList:=List.take_of_length_le (by simp)
theorem dw_nil (p : UInt8 -> Bool) : ∀ l : List UInt8,l.dropWhile p = [] ↔ ∀ x,x ∈ l -> p x = true
  | []=>by simp
  | b :: r=>by
    rw [List.dropWhile_cons]
    cases hb : p b
    · simp [hb]
    · simp [hb,dw_nil p r]
theorem trim_nil (l : List UInt8) : (Lib.trimB l 46 == []) = l.all (· == 46):=by
  have key : Lib.trimB l 46 = [] ↔ ∀ x,x ∈ l -> x = 46:=by
    unfold Lib.trimB Lib.trimLeftB Lib.trimRightB
    constructor
    · intro h x hx
      have h1 : ∀ y,y ∈ (l.reverse.dropWhile (· == 46)).reverse -> y = 46:=by
        intro y hy
        have:=(dw_nil _ _).1 h y hy
        simpa using this
      have h2 : l.reverse.dropWhile (· == 46) = []:=by
        cases e : l.reverse.dropWhile (· == 46) with
        | nil=>rfl
        | cons b r=>
          exfalso
          have hb : b = 46:=h1 b (by rw [e]; simp)
          have:=List.head_dropWhile_not (· == 46) (l:=l.reverse) (by rw [e]; simp)
          simp [e,hb] at this
      have:=(dw_nil _ _).1 h2 x (by simpa using hx)
      simpa using this
    · intro h
      have h2 : l.reverse.dropWhile (· == 46) = []:=(dw_nil _ _).2 (fun x hx=>by simpa using h x (by simpa using hx))
      rw [h2]; rfl
  rw [Bool.eq_iff_iff]
  simp only [beq_iff_eq,key,List.all_eq_true]
theorem three_iff (l : List UInt8) : Lib.contains l [46,46,46] = true ↔ ∃ k,2 <= k /\ k < l.length /\ (l.drop (k - 2)).take 3 = [46,46,46]:=by
  have hocc : ∀ i,Lib.occAt l [46,46,46] i = true ↔ (l.drop i).take 3 = [46,46,46]:=by
    intro i
    unfold Lib.occAt
    rw [List.isPrefixOf_iff_prefix]
    constructor
    · rintro ⟨t,ht⟩
      rw [<- ht]; rfl
    · intro h
      exact ⟨(l.drop i).drop 3,by rw [<- h,List.take_append_drop]⟩
  unfold Lib.contains
  rw [decide_eq_true_iff]
  rcases Lib.index_spec l [46,46,46] with ⟨h1,h2⟩ | ⟨i,h1,h2,h3,h4⟩
  · constructor
    · intro h; omega
    · rintro ⟨k,hk2,hkl,h⟩
      have:=h2 (k - 2) (by omega)
      rw [(hocc (k - 2)).2 h] at this
      cases this
  · constructor
    · intro _
      have h5:=(hocc i).1 h3
      have h6:=congrArg List.length h5
      simp at h6
      exact ⟨i + 2,by omega,by omega,by simpa using h5⟩
    · intro _; omega
def seenOk (l : List UInt8) (k : Nat) : Prop:=(l.take k).all el = true /\ ∀ j,2 <= j -> j < k -> (l.drop (j - 2)).take 3 ≠ [46,46,46]
theorem seen_all {l : List UInt8} (h : seenOk l l.length) : elemOk l = !l.all (· == 46):=by
  unfold elemOk
  rw [trim_nil]
  have h1 : allEl l = true:=by have:=h.1; rw [List.take_length] at this; exact this
  have h2 : Lib.contains l [46,46,46] = false:=by
    cases e : Lib.contains l [46,46,46]
    · rfl
    · obtain ⟨k,a,b,c⟩:=(three_iff l).1 e
      exact absurd c (h.2 k a b)
  rw [h1,h2]; simp
theorem seen_bad {l : List UInt8} {k : Nat} (hk : k < l.length) (h : el l[k] = false) : elemOk l = false:=by
  have : allEl l = false:=by
    cases e : allEl l
    · rfl
    · have:=List.all_eq_true.1 e l[k] (List.getElem_mem hk)
      rw [h] at this; cases this
  unfold elemOk
  rw [this]; simp
theorem seen_three {l : List UInt8} {k : Nat} (h2 : 2 <= k) (hk : k < l.length) (h : (l.drop (k - 2)).take 3 = [46,46,46]) : elemOk l = false:=by
  have : Lib.contains l [46,46,46] = true:=(three_iff l).2 ⟨k,h2,hk,h⟩
  unfold elemOk
  rw [this]; simp
theorem seen_next {l : List UInt8} {k : Nat} (hs : seenOk l k) (hk : k < l.length) (h : el l[k] = true) (h3 : 2 <= k -> (l.drop (k - 2)).take 3 ≠ [46,46,46]) : seenOk l (k + 1):=by
  refine ⟨?_,fun j h2 hj=>?_⟩
  · rw [List.take_succ_eq_append_getElem hk,all_snoc,hs.1,h]; rfl
  · by_cases e : j = k
    · subst e; exact h3 h2
    · exact hs.2 j h2 (by omega)
theorem dots_next {l : List UInt8} {k : Nat} (hk : k < l.length) : (l.take (k + 1)).all (· == 46) = ((l.take k).all (· == 46) && l[k] == 46):=by
  rw [List.take_succ_eq_append_getElem hk,all_snoc]
def sufV (l : List UInt8) : Int:=if likeB l then (if sufOk l then (num (restOf l)).1 else -1) else 0
theorem suf_pos {l : List UInt8} (h : sufOk l = true) : 2 <= (num (restOf l)).1:=by
  unfold sufOk at h
  simp only [Bool.and_eq_true,decide_eq_true_eq] at h
  exact h.2
theorem cut_app (c : UInt8) (b : List UInt8) (hb : b.contains c = false) : ∀ a : List UInt8,cutAt c (a ++ c :: b) = cutAt c a ++ [b]
  | []=>by
    show cutAt c (c :: b) = [[]] ++ [b]
    rw [cutAt,if_pos rfl,cut_last c b hb]; rfl
  | x :: a=>by
    show cutAt c (x :: (a ++ c :: b)) = cutAt c (x :: a) ++ [b]
    rw [cutAt,cutAt,cut_app c b hb a]
    by_cases hx : x = c
    · rw [if_pos hx,if_pos hx]; rfl
    · rw [if_neg hx,if_neg hx]
      cases e : cutAt c a with
      | nil=>exact absurd e (cutAt_ne c a)
      | cons y r=>rfl
theorem slash_split {l : List UInt8} {k : Nat} (hk : k < l.length) (h : l[k] = 47) (hn : ∀ j (hj : j < l.length),k < j -> l[j] ≠ 47) :
    elems l = elems (l.take k) ++ [l.drop (k + 1)]:=by
  have hb : (l.drop (k + 1)).contains 47 = false:=by
    cases e : (l.drop (k + 1)).contains 47
    · rfl
    · exfalso
      have hm : (47 : UInt8) ∈ l.drop (k + 1):=by simpa using e
      obtain ⟨i,hi,e2⟩:=List.mem_iff_getElem.1 hm
      rw [List.getElem_drop] at e2
      exact hn (k + 1 + i) (by simp at hi; omega) (by omega) e2
  have e1 : l = l.take k ++ 47 :: l.drop (k + 1):=by
    have h2:=List.take_append_drop k l
    rw [<- List.getElem_cons_drop (h:=hk),h] at h2
    exact h2.symm
  have h3:=cut_app 47 (l.drop (k + 1)) hb (l.take k)
  rw [<- e1] at h3
  exact h3
theorem slash_last {l : List UInt8} {k : Nat} (h : elems l = elems (l.take k) ++ [l.drop (k + 1)]) : 1 < (elems l).length /\ lastOf l = l.drop (k + 1) /\ Lib.join ((elems l).take ((elems l).length - 1)) [47] = l.take k:=by
  have hp:=elems_pos (l.take k)
  have hl : (elems l).length = (elems (l.take k)).length + 1:=by rw [h]; simp
  refine ⟨by omega,?_,?_⟩
  · unfold lastOf
    rw [hl,h]
    simp
  · rw [hl,h]
    simp only [Nat.add_sub_cancel,List.take_left']
    exact join_cut 47 _
theorem slash_none {l : List UInt8} (hn : ∀ j (hj : j < l.length),l[j] ≠ 47) : elems l = [l]:=by
  refine cut_last 47 l ?_
  cases e : l.contains 47
  · rfl
  · exfalso
    have hm : (47 : UInt8) ∈ l:=by simpa using e
    obtain ⟨i,hi,e2⟩:=List.mem_iff_getElem.1 hm
    exact hn i hi e2
open Go.RowKit
theorem rcut47 (s : ByteArray) (w : World) (hs : s.size < 4294967281) :
    Calls Tryz.prog 114 #[.string s,.int .u8 47] w fun e w'=>∃ v X,e = .returned v /\ bl X = elems s.data.toList /\ w'.ownsRow w.heap.size 9 1 v X.length (X.map Value.string) /\ Below w.heap.size w w':=rcut_any s 47 w hs
theorem unmarked {s : ByteArray} (hp : 0 < s.size) (h : marked s.data.toList = false) : ((s[0].toNat : Int) == 118) = false:=by
  unfold marked at h
  rw [List.headD_eq_head?_getD,List.head?_eq_getElem?,List.getElem?_eq_getElem (by simpa using hp)] at h
  simp only [Option.getD_some,beq_eq_false_iff_ne] at h
  have h2 : s[0] ≠ 118:=h
  refine beq_eq_false_iff_ne.2 fun e=>h2 ?_
  apply UInt8.toNat_inj.1
  have : (118 : UInt8).toNat = 118:=rfl
  omega
set_option maxHeartbeats 1000000 in
theorem suffixOf_any (s : ByteArray) (w : World) (hs : s.size <= maxLen) :
    Calls Tryz.prog 115 #[.string s] w fun e w'=>e = .returned (.int .i64 (sufV s.data.toList)) /\ w' = w:=by
  have HV:=hid (show sufV s.data.toList = if likeB s.data.toList then (if sufOk s.data.toList then (num (restOf s.data.toList)).1 else -1) else 0 from rfl)
  have HO:=hid (show sufOk s.data.toList = (decide ((num (restOf s.data.toList)).2 = 0) && decide (2 <= (num (restOf s.data.toList)).1)) from rfl)
  have HL:=hid (show likeB s.data.toList = (marked s.data.toList && digs (restOf s.data.toList)) from rfl)
  have hsz : s.size <= 9223372036854775807:=hs
  by_cases h2 : s.size < 2
  · have hk : likeB s.data.toList = false:=by
      rw [HL.out]
      cases hm : marked s.data.toList
      · rfl
      · have hd : restOf s.data.toList = []:=by rw [rest_drop hm]; exact List.length_eq_zero_iff.1 (by simp; omega)
        rw [hd]; rfl
    rw [hk] at HV
    clear hk
    go_enter Tryz.func115,Tryz.ntmps115
    go_wp2_with fail
    go_ret
    exact ⟨by rw [HV.out]; rfl,rfl⟩
  · have hpos : 0 < s.size:=by omega
    cases hm : marked s.data.toList
    · have h0:=unmarked hpos hm
      rw [HL.out,hm] at HV
      clear hm
      go_enter Tryz.func115,Tryz.ntmps115
      go_wp2_with fail
      go_ret
      exact ⟨by rw [HV.out]; rfl,rfl⟩
    · obtain ⟨_,h0⟩:=marked_pos hm
      have HT:=hid (show (s.extract 1 s.size).data.toList = restOf s.data.toList by rw [ext_drop,rest_drop hm])
      have hTs : (s.extract 1 s.size).size <= maxLen:=by rw [ByteArray.size_extract]; unfold maxLen; omega
      have HA:=hid (areDigits_any (s.extract 1 s.size) w hTs)
      have HN:=hid (numberOf_any (s.extract 1 s.size) w hTs)
      rw [HT.out] at HA HN
      rw [hm] at HL
      have h1k : (1 : Int) <= (s.size : Int):=by omega
      generalize restOf s.data.toList = r at *
      clear hm
      cases hd : digs r
      · rw [hd] at HA HL
        rw [HL.out] at HV
        clear hd
        go_enter Tryz.func115,Tryz.ntmps115
        go_wp2_with fail
        refine HA.out.mono ?_
        rintro e w' ⟨rfl,rfl⟩
        go_wp2_with fail
        go_ret
        exact ⟨by rw [HV.out]; rfl,rfl⟩
      · rw [hd] at HA HL
        rw [HL.out] at HV
        clear hd
        by_cases he : (num r).2 = 0
        · rw [decide_eq_true he] at HO
          have hz : ((num r).2 : Int) = 0:=by omega
          have hz2 : ¬ (0 : Int) < ((num r).2 : Int):=by omega
          rw [hz] at HN
          clear hz he
          by_cases hn : (num r).1 < 2
          · rw [decide_eq_false (show ¬ 2 <= (num r).1 by omega)] at HO
            rw [HO.out] at HV
            generalize (num r).1 = n at *
            go_enter Tryz.func115,Tryz.ntmps115
            go_wp2_with fail
            refine HA.out.mono ?_
            rintro e w' ⟨rfl,rfl⟩
            go_wp2_with fail
            refine HN.out.mono ?_
            rintro e w' ⟨rfl,rfl⟩
            go_wp2_with fail
            go_ret
            exact ⟨by rw [HV.out]; rfl,rfl⟩
          · rw [decide_eq_true (show 2 <= (num r).1 by omega)] at HO
            rw [HO.out] at HV
            generalize (num r).1 = n at *
            go_enter Tryz.func115,Tryz.ntmps115
            go_wp2_with fail
            refine HA.out.mono ?_
            rintro e w' ⟨rfl,rfl⟩
            go_wp2_with fail
            refine HN.out.mono ?_
            rintro e w' ⟨rfl,rfl⟩
            go_wp2_with fail
            go_ret
            exact ⟨by rw [HV.out]; rfl,rfl⟩
        · rw [decide_eq_false he,Bool.false_and] at HO
          rw [HO.out] at HV
          have hz : (0 : Int) < ((num r).2 : Int):=by omega
          generalize ((num r).2 : Int) = c at *
          generalize (num r).1 = n at *
          clear he
          go_enter Tryz.func115,Tryz.ntmps115
          go_wp2_with fail
          refine HA.out.mono ?_
          rintro e w' ⟨rfl,rfl⟩
          go_wp2_with fail
          refine HN.out.mono ?_
          rintro e w' ⟨rfl,rfl⟩
          go_wp2_with fail
          go_ret
          exact ⟨by rw [HV.out]; rfl,rfl⟩
end Ve
end Go.Proofs.YtlcffhadobhfkaaGreatDoor
