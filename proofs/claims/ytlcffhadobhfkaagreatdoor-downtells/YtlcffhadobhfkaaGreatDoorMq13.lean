/-
  RefA RefB RefE RefF RefG RefH
-/
import Derived.Test.YtlcffhadobhfkaaGreatDoorMq2
import Derived.Test.YtlcffhadobhfkaaGreatDoorMq5
import Derived.Test.YtlcffhadobhfkaaGreatDoorMq6
import Derived.Test.YtlcffhadobhfkaaGreatDoorMq3
import Derived.Test.YtlcffhadobhfkaaGreatDoorMq9
namespace Go.Proofs.YtlcffhadobhfkaaGreatDoor
open Go.RowKit
namespace Ve
set_option maxHeartbeats 400000 in
theorem areDigits_any (s : ByteArray) (w : World) (hs : s.size <= maxLen) :
    Calls Tryz.prog 117 #[.string s] w fun e w'=>e = .returned (.bool (digs s.data.toList)) /\ w' = w:=by
  have HD:=hid (show digs s.data.toList = (decide (0 < s.size) && allDig s.data.toList) by unfold digs; rw [len_eq])
  unfold maxLen at hs
  go_enter Tryz.func117,Tryz.ntmps117
  go_wp2_with fail
  go_loop [3] (fun i=>∃ k : Nat,k <= s.size /\ i = .int .i64 k /\ Hid ((s.data.toList.take k).all dig = true)) (fun i=>s.size - (intOf i).toNat)
  case atStart=>exact ⟨0,Nat.zero_le _,rfl,hid rfl⟩
  case round=>
    obtain ⟨k,hk,rfl,HA⟩:=hrel
    by_cases hlt : k < s.size
    · have HS:=hid (all_snoc dig (s.data.toList.take k) s[k])
      rw [<- take_snoc s k hlt,HA.out,Bool.true_and] at HS
      by_cases h1 : (s[k].toNat : Int) < 48
      · have HX:=hid (show digs s.data.toList = false by
          have h2 : allDig s.data.toList = ((s.data.toList.take (k + 1)).all dig && (s.data.toList.drop (k + 1)).all dig):=by rw [<- List.all_append,List.take_append_drop]; rfl
          rw [HD.out,h2,HS.out,show dig s[k] = false by simp [dig,digB]; omega]; simp)
        go_wp2_with fail
        go_ret
        exact ⟨ret_bool HX.out.symm,rfl⟩
      · by_cases h2 : 57 < (s[k].toNat : Int)
        · have HX:=hid (show digs s.data.toList = false by
            have h2 : allDig s.data.toList = ((s.data.toList.take (k + 1)).all dig && (s.data.toList.drop (k + 1)).all dig):=by rw [<- List.all_append,List.take_append_drop]; rfl
            rw [HD.out,h2,HS.out,show dig s[k] = false by simp [dig,digB]; omega]; simp)
          go_wp2_with fail
          go_ret
          exact ⟨ret_bool HX.out.symm,rfl⟩
        · have HY:=hid (show (s.data.toList.take (k + 1)).all dig = true by rw [HS.out]; simp [dig,digB]; omega)
          go_wp2_with fail
          go_round
          case rel=>exact ⟨k + 1,by omega,by go_num,HY⟩
          case measure=>simp [intOf]; omega
    · have HX:=hid (show digs s.data.toList = decide (0 < s.size) by
        have h2 : s.data.toList.take k = s.data.toList:=List.take_of_length_le (by simp; omega)
        have:=HA.out; rw [h2] at this
        rw [HD.out,show allDig s.data.toList = true from this,Bool.and_true])
      go_wp2_with fail
      go_ret
      exact ⟨ret_bool (by rw [HX.out]),rfl⟩
set_option maxHeartbeats 1000000 in
theorem numberOf_any (s : ByteArray) (w : World) (hs : s.size <= maxLen) :
    Calls Tryz.prog 116 #[.string s] w fun e w'=>e = .returned (.tuple #[.int .i64 (num s.data.toList).1,.int .i64 ((num s.data.toList).2 : Nat)]) /\ w' = w:=by
  have HC:=hid (areDigits_any s w hs)
  unfold maxLen at hs
  cases hz : digs s.data.toList
  · have HN:=hid (show num s.data.toList = (0,1) by simp [num,hz])
    rw [hz] at HC
    clear hz
    go_enter Tryz.func116,Tryz.ntmps116
    go_wp2_with fail
    refine HC.out.mono ?_
    rintro e w' ⟨rfl,rfl⟩
    go_wp2_with fail
    go_ret2
    exact ⟨by rw [HN.out]; rfl,rfl⟩
  have had : allDig s.data.toList = true:=by unfold digs at hz; simp at hz; exact hz.2
  cases h0 : zero s.data.toList
  · have HN:=hid (num_six s.data.toList hz h0)
    have HZ : Hid (¬ ∃ h : 1 < s.size,((s[0].toNat : Int) == 48) = true):=fun h=>by have:=(zero_eq s).2 h; rw [h0] at this; cases this
    rw [len_eq] at HN
    rw [hz] at HC
    clear hz h0
    by_cases h1 : 1 < s.size
    · have h2 : ((s[0].toNat : Int) == 48) = false:=by
        cases h : ((s[0].toNat : Int) == 48)
        · rfl
        · exact absurd ⟨h1,h⟩ HZ.out
      clear HZ
      by_cases h6 : 6 < s.size
      · rw [if_pos h6] at HN
        go_enter Tryz.func116,Tryz.ntmps116
        go_wp2_with fail
        refine HC.out.mono ?_
        rintro e w' ⟨rfl,rfl⟩
        go_wp2_with fail
        go_ret2
        exact ⟨by rw [HN.out]; rfl,rfl⟩
      · rw [if_neg h6] at HN
        have hl6 : s.data.toList.length <= 6:=by rw [len_eq]; omega
        have h6b : decide (6 < (s.size : Int)) = false:=by simp; omega
        go_enter Tryz.func116,Tryz.ntmps116
        go_wp2_with fail
        refine HC.out.mono ?_
        rintro e w' ⟨rfl,rfl⟩
        go_wp2_with fail
        go_loop [5,6] (fun n i=>∃ k : Nat,k <= s.size /\ i = .int .i64 k /\ n = .int .i64 (valTo 0 (s.data.toList.take k))) (fun _ i=>s.size - (intOf i).toNat)
        case atStart=>exact ⟨0,Nat.zero_le _,rfl,rfl⟩
        case round=>
          obtain ⟨k,hk,rfl,rfl⟩:=hrel
          obtain ⟨q0,q1⟩:=val_le _ (dig_take s had k) (show (s.data.toList.take k).length <= 6 by have:=List.length_take_le k s.data.toList; omega)
          by_cases hlt : k < s.size
          · obtain ⟨d0,d1⟩:=dig_at s had k hlt
            have HS:=hid (valTo_snoc 0 (s.data.toList.take k) s[k])
            rw [<- take_snoc s k hlt] at HS
            generalize hn : valTo 0 (s.data.toList.take k) = n at *
            clear hn
            go_wp2_with fail
            go_round
            case rel=>exact ⟨k + 1,by omega,by go_num,by rw [HS.out]⟩
            case measure=>simp [intOf]; omega
          · have hk2 : s.data.toList.take k = s.data.toList:=List.take_of_length_le (by simp; omega)
            rw [hk2]
            clear hk2 q0 q1
            go_wp2_with fail
            go_ret2
            exact ⟨by rw [HN.out]; rfl,rfl⟩
    · clear HZ
      have h6 : ¬ 6 < s.size:=by omega
      rw [if_neg h6] at HN
      have hl6 : s.data.toList.length <= 6:=by rw [len_eq]; omega
      have h6b : decide (6 < (s.size : Int)) = false:=by simp; omega
      have h1b : decide (1 < (s.size : Int)) = false:=by simp; omega
      go_enter Tryz.func116,Tryz.ntmps116
      go_wp2_with fail
      refine HC.out.mono ?_
      rintro e w' ⟨rfl,rfl⟩
      go_wp2_with fail
      go_loop [5,6] (fun n i=>∃ k : Nat,k <= s.size /\ i = .int .i64 k /\ n = .int .i64 (valTo 0 (s.data.toList.take k))) (fun _ i=>s.size - (intOf i).toNat)
      case atStart=>exact ⟨0,Nat.zero_le _,rfl,rfl⟩
      case round=>
        obtain ⟨k,hk,rfl,rfl⟩:=hrel
        obtain ⟨q0,q1⟩:=val_le _ (dig_take s had k) (show (s.data.toList.take k).length <= 6 by have:=List.length_take_le k s.data.toList; omega)
        by_cases hlt : k < s.size
        · obtain ⟨d0,d1⟩:=dig_at s had k hlt
          have HS:=hid (valTo_snoc 0 (s.data.toList.take k) s[k])
          rw [<- take_snoc s k hlt] at HS
          generalize hn : valTo 0 (s.data.toList.take k) = n at *
          clear hn
          go_wp2_with fail
          go_round
          case rel=>exact ⟨k + 1,by omega,by go_num,by rw [HS.out]⟩
          case measure=>simp [intOf]; omega
        · have hk2 : s.data.toList.take k = s.data.toList:=List.take_of_length_le (by simp; omega)
          rw [hk2]
          clear hk2 q0 q1
          go_wp2_with fail
          go_ret2
          exact ⟨by rw [HN.out]; rfl,rfl⟩
  · have HN:=hid (show num s.data.toList = (0,1) by simp [num,h0])
    obtain ⟨h1,h2⟩:=(zero_eq s).1 h0
    rw [hz] at HC
    clear hz h0
    go_enter Tryz.func116,Tryz.ntmps116
    go_wp2_with fail
    refine HC.out.mono ?_
    rintro e w' ⟨rfl,rfl⟩
    go_wp2_with fail
    go_ret2
    exact ⟨by rw [HN.out]; rfl,rfl⟩
theorem cut_last (c : UInt8) (a : List UInt8) (h : a.contains c = false) : cutAt c a = [a]:=by
  induction a with
  | nil=>rfl
  | cons b l ih=>
    have hb : b ≠ c:=by intro e; subst e; simp at h
    have hl : l.contains c = false:=by simp at h ⊢; exact h.2
    simp [cutAt,hb,ih hl,ahead]
theorem cut_step (c : UInt8) (a b : List UInt8) (h : a.contains c = false) : cutAt c (a ++ c :: b) = a :: cutAt c b:=by
  induction a with
  | nil=>simp [cutAt]
  | cons x l ih=>
    have hb : x ≠ c:=by intro e; subst e; simp at h
    have hl : l.contains c = false:=by simp at h ⊢; exact h.2
    simp only [List.cons_append,cutAt,if_neg hb,ih hl,ahead]
theorem extract_list (s : ByteArray) (f i : Nat) : (s.extract f i).data.toList = (s.data.toList.drop f).take (i - f):=by
  simp [ByteArray.data_extract]
theorem drop_split (s : ByteArray) (k j : Nat) (hkj : k <= j) (hlt : j < s.size) : s.data.toList.drop k = (s.data.toList.drop k).take (j - k) ++ s[j] :: s.data.toList.drop (j + 1):=by
  have h1:=(List.take_append_drop (j - k) (s.data.toList.drop k)).symm
  have h2 : s.data.toList.drop j = s[j] :: s.data.toList.drop (j + 1):=List.drop_eq_getElem_cons (by simpa using hlt)
  rw [List.drop_drop,show k + (j - k) = j by omega,h2] at h1
  exact h1
set_option maxHeartbeats 1000000 in
theorem rcut_any (s : ByteArray) (c : UInt8) (w : World) (hs : s.size < 4294967281) :
    Calls Tryz.prog 114 #[.string s,.int .u8 (c.toNat : Int)] w fun e w'=>∃ v X,e = .returned v /\ bl X = cutAt c s.data.toList /\ w'.ownsRow w.heap.size 9 1 v X.length (X.map Value.string) /\ Below w.heap.size w w':=by
  obtain ⟨i0,hi,hz0,hz1,hz2⟩:=info_parts infoStr
  go_enter Tryz.func114,Tryz.ntmps114
  go_wp2_with fail
  go_loopw [5,6,7] (fun v f i wr=>∃ (k j : Nat) (X : List ByteArray),k <= j /\ j <= s.size /\ X.length <= k /\ i = .int .i64 j /\ f = .int .i64 k /\ Hid (bl X ++ cutAt c (s.data.toList.drop k) = cutAt c s.data.toList) /\ Hid (((s.data.toList.drop k).take (j - k)).contains c = false) /\
      wr.ownsRow w.heap.size 9 1 v X.length (X.map Value.string) /\ Below w.heap.size w wr) (fun _ _ i _=>s.size - (intOf i).toNat)
  case atStart=>exact ⟨0,0,[],Nat.le_refl _,Nat.zero_le _,Nat.le_refl _,rfl,rfl,hid rfl,hid rfl,World.ownsRow_nil _ _ _ _,Below.refl _ _⟩
  case round=>
    obtain ⟨k,j,X,hkj,hj,hXk,rfl,rfl,HX,HN,hown,hb⟩:=hrel
    have HO:=hid hown
    have HB:=hid hb
    have hz:=hb.size
    clear hown hb
    by_cases hlt : j < s.size
    · have e1 : s.data.toList.drop k = (s.data.toList.drop k).take (j - k) ++ s[j] :: s.data.toList.drop (j + 1):=drop_split s k j hkj hlt
      cases hc : ((s[j].toNat : Int) == (c.toNat : Int))
      · have HN':=hid (show ((s.data.toList.drop k).take (j + 1 - k)).contains c = false by
          rw [show j + 1 - k = (j - k) + 1 by omega,e1]
          have hl : ((s.data.toList.drop k).take (j - k)).length = j - k:=by simp; omega
          rw [List.take_append,hl,show j - k + 1 - (j - k) = 1 by omega,List.take_of_length_le (by omega)]
          have:=HN.out
          simp at this ⊢
          refine ⟨this,?_⟩
          intro e
          rw [e] at hc; simp at hc)
        clear e1
        go_wp2_with fail
        go_roundw
        case rel=>exact ⟨k,j + 1,X,by omega,by omega,hXk,by go_num,rfl,HX,HN',HO.out,HB.out⟩
        case measure=>simp [intOf]; omega
      · have hcc : s[j] = c:=by
          apply UInt8.toNat_inj.1
          simp at hc; omega
        have HX':=hid (show bl (X ++ [s.extract k j]) ++ cutAt c (s.data.toList.drop (j + 1)) = cutAt c s.data.toList by
          rw [<- HX.out]
          have e2 : cutAt c (s.data.toList.drop k) = (s.data.toList.drop k).take (j - k) :: cutAt c (s.data.toList.drop (j + 1)):=by
            conv=>lhs; rw [e1,hcc]
            exact cut_step c _ _ HN.out
          rw [e2]
          simp [bl])
        clear e1 hcc
        go_wp2_with (at_builtin; refine wpList_append_own _ rfl _ _ 43 rfl w.heap.size 9 i0 (.string ByteArray.empty) 1 16 Tryz.underlying43 hi hz0 hz1 hz2 rfl (by decide) _ _ _ rfl (HO.out.alloc _) ⟨wr.heap.size,0,none⟩ 1 1 [.string (s.extract k j)] rfl rfl ?c1 ?c2 ?c3 ?c4 ?c5 ?_)
        case c1=>
          intro j u hj
          match j,hj with
          | 0,hj=>simp at hj; subst hj; simp [Addr.add]
        case c2=>intro u hu; simp at hu; subst hu; rfl
        case c3=>unfold maxLen; omega
        case c4=>omega
        case c5=>simp; omega
        intro v' w3 hown' hgrow _
        have HR:=hid (rel_app hz HB.out HO.out (Below.refl _ _) hgrow)
        have HO':=hid hown'
        clear hown' hgrow
        go_wp2_with fail
        go_roundw
        case rel=>exact ⟨j + 1,j + 1,X ++ [s.extract k j],Nat.le_refl _,by omega,by simp; omega,by go_num,by go_num,HX',by rw [Nat.sub_self]; exact hid rfl,by simpa using HO'.out,HR.out⟩
        case measure=>simp [intOf]; omega
    · have hjs : j = s.size:=by omega
      have HX':=hid (show bl (X ++ [s.extract k s.size]) = cutAt c s.data.toList by
        rw [<- HX.out]
        have h2 : (s.data.toList.drop k).take (j - k) = s.data.toList.drop k:=List.take_of_length_le (by simp; omega)
        have h3:=HN.out
        rw [h2] at h3
        rw [cut_last c _ h3]
        simp only [bl,List.map_append,List.map_cons,List.map_nil,extract_list]
        rw [List.take_of_length_le (by simp)])
      clear hjs
      go_wp2_with (at_builtin; refine wpList_append_own _ rfl _ _ 43 rfl w.heap.size 9 i0 (.string ByteArray.empty) 1 16 Tryz.underlying43 hi hz0 hz1 hz2 rfl (by decide) _ _ _ rfl (HO.out.alloc _) ⟨wr.heap.size,0,none⟩ 1 1 [.string (s.extract k s.size)] rfl rfl ?c1 ?c2 ?c3 ?c4 ?c5 ?_)
      case c1=>
        intro j u hj
        match j,hj with
        | 0,hj=>simp at hj; subst hj; simp [Addr.add]
      case c2=>intro u hu; simp at hu; subst hu; rfl
      case c3=>unfold maxLen; omega
      case c4=>omega
      case c5=>simp; omega
      intro v' w3 hown' hgrow _
      have HR:=hid (rel_app hz HB.out HO.out (Below.refl _ _) hgrow)
      have HO':=hid hown'
      clear hown' hgrow
      go_wp2_with fail
      go_ret
      exact ⟨_,X ++ [s.extract k s.size],rfl,HX'.out,by simpa using HO'.out,HR.out⟩
theorem preTo_worst (b : Nat) (hb : b = 0 \/ b = 1 \/ b = 2) (ps : List (List UInt8)) : preTo b ps = worst b (ps.map part):=worst_fold _ part_err ps b hb
set_option maxRecDepth 100000 in
set_option maxHeartbeats 1000000 in
theorem verOf_head (s : ByteArray) (w : World) (hs : s.size < 4294967281) (h : marked s.data.toList = false) :
    Calls Tryz.prog 72 #[.string s] w fun e w'=>e = .returned (.tuple #[.agg #[.int .i64 0,.int .i64 0,.int .i64 0,.slice none 0 0],.int .i64 1]) /\ Below w.heap.size w w':=by
  have HM:=hid h
  clear h
  by_cases h0 : s.size = 0
  · have h0b : ((s.size : Int) == 0) = true:=beq_iff_eq.2 (by omega)
    go_enter Tryz.func72,Tryz.ntmps72
    go_wp2_with fail
    exact bodyPost_ret (v:=.tuple #[.agg #[.int .i64 0,.int .i64 0,.int .i64 0,.slice none 0 0],.int .i64 1]) (by simp [results,Tryz.results72,go_sem]) rfl ⟨rfl,(Below.refl _ _).alloc (Nat.le_refl _) _⟩
  · have h0b : ((s.size : Int) == 0) = false:=beq_eq_false_iff_ne.2 (by omega)
    have hp : 0 < s.size:=by omega
    have hv : ((s[0].toNat : Int) == 118) = false:=by
      have:=HM.out
      unfold marked at this
      rw [List.headD_eq_head?_getD,List.head?_eq_getElem?,List.getElem?_eq_getElem (by simpa using hp)] at this
      simp at this ⊢
      intro e
      apply this
      apply UInt8.toNat_inj.1
      show s[0].toNat = 118
      omega
    go_enter Tryz.func72,Tryz.ntmps72
    go_wp2_with fail
    exact bodyPost_ret (v:=.tuple #[.agg #[.int .i64 0,.int .i64 0,.int .i64 0,.slice none 0 0],.int .i64 1]) (by simp [results,Tryz.results72,go_sem]) rfl ⟨rfl,(Below.refl _ _).alloc (Nat.le_refl _) _⟩
theorem rcut46 (s : ByteArray) (w : World) (hs : s.size < 4294967281) :
    Calls Tryz.prog 114 #[.string s,.int .u8 46] w fun e w'=>∃ v X,e = .returned v /\ bl X = cutAt 46 s.data.toList /\ w'.ownsRow w.heap.size 9 1 v X.length (X.map Value.string) /\ Below w.heap.size w w':=rcut_any s 46 w hs
theorem marked_pos {s : ByteArray} (h : marked s.data.toList = true) : ∃ hp : 0 < s.size,((s[0].toNat : Int) == 118) = true:=by
  unfold marked at h
  rcases Nat.eq_zero_or_pos s.size with h0 | hp
  · have : s.data.toList = []:=List.length_eq_zero_iff.1 (by simpa using h0)
    rw [this] at h; cases h
  · refine ⟨hp,?_⟩
    rw [List.headD_eq_head?_getD,List.head?_eq_getElem?,List.getElem?_eq_getElem (by simpa using hp)] at h
    simp only [Option.getD_some,beq_iff_eq] at h
    have h2 : s[0] = 118:=h
    rw [h2]; rfl
theorem ext_drop (s : ByteArray) (k : Nat) : (s.extract k s.size).data.toList = s.data.toList.drop k:=by
  rw [extract_list,List.take_of_length_le (by simp)]
theorem no_dash {s : ByteArray} (hm : marked s.data.toList = true) (h : hasPre s.data.toList = false) : (∀ k (hk : k < s.size),((s[k].toNat : Int) == 45) = false) /\ coreOf s.data.toList = cutAt 46 (s.data.toList.drop 1):=by
  have hr:=rest_drop hm
  obtain ⟨hp,hv⟩:=marked_pos hm
  have hc : (s.data.toList.drop 1).contains 45 = false:=by unfold hasPre one at h; rw [hr] at h; exact h
  refine ⟨fun k hk=>?_,by unfold coreOf; rw [hr,one_no hc]⟩
  rw [beq_eq_false_iff_ne]
  intro e
  have e2 : s[k] = 45:=by apply UInt8.toNat_inj.1; show s[k].toNat = 45; omega
  cases k with
  | zero=>rw [e2] at hv; cases hv
  | succ k=>
    have hmem : (45 : UInt8) ∈ s.data.toList.drop 1:=by
      rw [<- e2]
      have : s[k + 1] = (s.data.toList.drop 1)[k]'(by simp; omega):=by
        rw [List.getElem_drop]
        simp only [Nat.add_comm 1 k]
        rfl
      rw [this]
      exact List.getElem_mem _
    simp at hc
    exact hc (by simpa using hmem)
theorem owned_cells {w : World} {base : Nat} {e : TypeId} {v : Value} {X : List ByteArray} (h : w.ownsRow base e 1 v X.length (X.map Value.string)) (hX : X ≠ []) : ∃ g cap,v = .slice (some ⟨g,0,none⟩) X.length cap /\ base <= g /\ g < w.heap.size /\ ∀ j (hj : j < X.length),w.cell? ⟨g,j,none⟩ = some (.string X[j]):=by
  obtain ⟨_,⟨_,hn0⟩ | ⟨g,cap,cur,hv,hg,hblk,hcap,hcm,hcs,hct⟩⟩:=h
  · exact absurd (List.length_eq_zero_iff.1 hn0) hX
  · refine ⟨g,cap,hv,hg,lt_of_blk hblk,fun j hj=>?_⟩
    have : cur[j]? = (X.map Value.string)[j]?:=by
      rw [<- hct,List.getElem?_take,if_pos (by omega)]; simp
    simp only [World.cell?,hblk]
    simp [this,hj]
set_option maxRecDepth 100000 in
set_option maxHeartbeats 1000000 in
theorem verOf_A1 (s : ByteArray) (w : World) (hs : s.size < 4294967281) (hmk : marked s.data.toList = true) (hp : hasPre s.data.toList = false) (h3 : (coreOf s.data.toList).length ≠ 3) :
    Calls Tryz.prog 72 #[.string s] w fun e w'=>e = .returned (.tuple #[.agg #[.int .i64 0,.int .i64 0,.int .i64 0,.slice none 0 0],.int .i64 1]) /\ Below w.heap.size w w':=by
  have H3:=hid h3
  clear h3
  obtain ⟨hno0,hcore⟩:=no_dash hmk hp
  obtain ⟨hpos,hv0⟩:=marked_pos hmk
  have HNO:=hid hno0
  have HCO:=hid hcore
  have h0b : ((s.size : Int) == 0) = false:=beq_eq_false_iff_ne.2 (by omega)
  clear hno0 hcore hmk hp
  go_enter Tryz.func72,Tryz.ntmps72
  go_wp2_with fail
  go_loop [4,5,6,7] (fun hd pr hs i=>∃ k : Nat,k <= s.size /\ i = .int .i64 k /\ hd = .string (s.extract 1 s.size) /\ pr = .string ⟨#[]⟩ /\ hs = .bool false) (fun _ _ _ i=>s.size - (intOf i).toNat)
  case atStart=>exact ⟨0,Nat.zero_le _,rfl,rfl,rfl,rfl⟩
  case round=>
    obtain ⟨k,hk,rfl,rfl,rfl,rfl⟩:=hrel
    by_cases hlt : k < s.size
    · have hn:=HNO.out k hlt
      go_wp2_with fail
      go_round
      case rel=>exact ⟨k + 1,by omega,by go_num,rfl,rfl,rfl⟩
      case measure=>simp [intOf]; omega
    · have hes : (s.extract 1 s.size).size < 4294967281:=by rw [ByteArray.size_extract]; omega
      have HEX:=hid (ext_drop s 1)
      generalize s.extract 1 s.size = C at *
      have HB0:=hid ((Below.refl w.heap.size w).alloc (Nat.le_refl _) (.cells #[.int .i64 0,.int .i64 0,.int .i64 0,.slice none 0 0] 95))
      go_wp2_with fail
      refine (rcut46 C _ hes).mono ?_
      rintro e w2 ⟨v,X,rfl,hX,hown,hb⟩
      have hXc : bl X = coreOf s.data.toList:=by rw [hX,HEX.out,HCO.out]
      have HXC:=hid hXc
      have HB2:=hid (show Below (w.heap.size + 1) (w.alloc (.cells #[.int .i64 0,.int .i64 0,.int .i64 0,.slice none 0 0] 95)) w2 from hb.mono (by simp))
      have HXN:=hid (show X ≠ [] from fun h=>by subst h; exact cutAt_ne _ _ hX.symm)
      have hXl : X.length = (coreOf s.data.toList).length:=by rw [<- hXc,bl_len]
      have HXZ:=hid (show ∀ x,x ∈ X -> x.size <= maxLen from fun x hx=>by have:=piece_le hX hx; unfold maxLen; omega)
      obtain ⟨g,cap,rfl,hg,hgz,hcells⟩:=owned_cells hown HXN.out
      have HG:=hid hg
      have HGZ:=hid hgz
      have HCE:=hid hcells
      have HXL:=hid hXl
      have hXle:=many_le hX
      clear hX hXc hown hb hXl hg hgz hcells
      have h3b : ((X.length : Int) == 3) = false:=beq_eq_false_iff_ne.2 (by have:=H3.out; have:=HXL.out; omega)
      obtain ⟨⟨r0,r1,r2,r3⟩,rf,rz⟩:=res4 HB2.out
      have HBF:=hid (HB0.out.trans (HB2.out.mono (by omega)))
      go_wp2_with fail
      refine bodyPost_ret (v:=.tuple #[.agg #[.int .i64 0,.int .i64 0,.int .i64 0,.slice none 0 0],.int .i64 1]) (by simp [results,Tryz.results72,go_sem,r0,r1,r2,r3]) rfl ⟨rfl,?_⟩
      exact (((HBF.out.setCell (Nat.le_refl _) _).setCell (Nat.le_refl _) _).setCell (Nat.le_refl _) _).setCell (Nat.le_refl _) _
def nTo (l : List UInt8) (k i : Nat) : Int:=if i < k then nAt l i else 0
theorem cells_set {w : World} {M k : Nat} {l : List UInt8} (h : ∀ i,i < 3 -> w.cell? ⟨M,i,none⟩ = some (.int .i64 (nTo l k i))) (hk : k < 3) : ∀ i,i < 3 -> (w.setCell ⟨M,k,none⟩ (.int .i64 (nAt l k))).cell? ⟨M,i,none⟩ = some (.int .i64 (nTo l (k + 1) i)):=by
  intro i hi
  by_cases e : i = k
  · subst e
    rw [World.cell?_setCell_same (u:=.int .i64 (nTo l i i)) (h:=h i hi)]
    simp [nTo]
  · rw [World.cell?_setCell_other (h:=fun hh=>e (congrArg Addr.off hh).symm),h i hi]
    unfold nTo
    by_cases hik : i < k
    · rw [if_pos hik,if_pos (by omega)]
    · rw [if_neg hik,if_neg (by omega)]
theorem nAt_eq {l : List UInt8} {X : List ByteArray} (h : bl X = coreOf l) (k : Nat) (hk : k < X.length) : (num X[k].data.toList).1 = nAt l k:=by
  unfold nAt numsOf
  rw [<- h]
  simp [bl,List.getD_eq_getElem?_getD,hk]
theorem worst_no1 {cs : List Nat} (h : 1 ∉ cs) : worst 0 cs = if 2 ∈ cs then 2 else 0:=by simp [worst,h]
def resA (l : List UInt8) (v : Value) (q : Nat) : Value:=if q = 0 then .agg #[.int .i64 (nAt l 0),.int .i64 (nAt l 1),.int .i64 (nAt l 2),v] else .agg #[.int .i64 0,.int .i64 0,.int .i64 0,.slice none 0 0]
set_option maxRecDepth 100000 in
set_option maxHeartbeats 2000000 in
theorem verOf_A (s : ByteArray) (w : World) (hs : s.size < 4294967281) (hmk : marked s.data.toList = true) (hp : hasPre s.data.toList = false) (h3 : (coreOf s.data.toList).length = 3) :
    Calls Tryz.prog 72 #[.string s] w fun e w'=>e = .returned (.tuple #[resA s.data.toList (.slice none 0 0) (numsErr (coreOf s.data.toList)),.int .i64 (numsErr (coreOf s.data.toList) : Nat)]) /\ Below w.heap.size w w':=by
  have H3:=hid h3
  clear h3
  obtain ⟨hno0,hcore⟩:=no_dash hmk hp
  obtain ⟨hpos,hv0⟩:=marked_pos hmk
  have HNO:=hid hno0
  have HCO:=hid hcore
  have h0b : ((s.size : Int) == 0) = false:=beq_eq_false_iff_ne.2 (by omega)
  clear hno0 hcore hmk hp
  go_enter Tryz.func72,Tryz.ntmps72
  go_wp2_with fail
  go_loop [4,5,6,7] (fun hd pr hs i=>∃ k : Nat,k <= s.size /\ i = .int .i64 k /\ hd = .string (s.extract 1 s.size) /\ pr = .string ⟨#[]⟩ /\ hs = .bool false) (fun _ _ _ i=>s.size - (intOf i).toNat)
  case atStart=>exact ⟨0,Nat.zero_le _,rfl,rfl,rfl,rfl⟩
  case round=>
    obtain ⟨k,hk,rfl,rfl,rfl,rfl⟩:=hrel
    by_cases hlt : k < s.size
    · have hn:=HNO.out k hlt
      go_wp2_with fail
      go_round
      case rel=>exact ⟨k + 1,by omega,by go_num,rfl,rfl,rfl⟩
      case measure=>simp [intOf]; omega
    · have hes : (s.extract 1 s.size).size < 4294967281:=by rw [ByteArray.size_extract]; omega
      have HEX:=hid (ext_drop s 1)
      generalize s.extract 1 s.size = C at *
      have HB0:=hid ((Below.refl w.heap.size w).alloc (Nat.le_refl _) (.cells #[.int .i64 0,.int .i64 0,.int .i64 0,.slice none 0 0] 95))
      go_wp2_with fail
      refine (rcut46 C _ hes).mono ?_
      rintro e w2 ⟨v,X,rfl,hX,hown,hb⟩
      have hXc : bl X = coreOf s.data.toList:=by rw [hX,HEX.out,HCO.out]
      have HXC:=hid hXc
      have HB2:=hid (show Below (w.heap.size + 1) (w.alloc (.cells #[.int .i64 0,.int .i64 0,.int .i64 0,.slice none 0 0] 95)) w2 from hb.mono (by simp))
      have HXN:=hid (show X ≠ [] from fun h=>by subst h; exact cutAt_ne _ _ hX.symm)
      have hXl : X.length = (coreOf s.data.toList).length:=by rw [<- hXc,bl_len]
      have HXZ:=hid (show ∀ x,x ∈ X -> x.size <= maxLen from fun x hx=>by have:=piece_le hX hx; unfold maxLen; omega)
      obtain ⟨g,cap,rfl,hg,hgz,hcells⟩:=owned_cells hown HXN.out
      have HG:=hid hg
      have HGZ:=hid hgz
      have HCE:=hid hcells
      have HXL:=hid hXl
      have hXle:=many_le hX
      clear hX hXc hown hb hXl hg hgz hcells
      have hX3 : X.length = 3:=by rw [HXL.out,H3.out]
      have h3b : ((X.length : Int) == 3) = true:=beq_iff_eq.2 (by omega)
      have HBM:=hid ((Below.refl w2.heap.size w2).alloc (Nat.le_refl _) (.cells #[.int .i64 0,.int .i64 0,.int .i64 0,.slice none 0 0] 95))
      have hN2 : w.heap.size < w2.heap.size:=by have:=HB2.out.size; simp at this; omega
      go_wp2_with fail
      go_loopw [10,11] (fun bd i wr=>∃ k : Nat,k <= 3 /\ i = .int .i64 k /\ bd = .bool (decide (2 ∈ (bl (X.take k)).map ncode)) /\ Hid (1 ∉ (bl (X.take k)).map ncode) /\ Hid (∀ i,i < 3 -> wr.cell? ⟨w2.heap.size,i,none⟩ = some (.int .i64 (nTo s.data.toList k i))) /\
          wr.cell? ⟨w2.heap.size,3,none⟩ = some (.slice none 0 0) /\ Hid (∀ o,wr.frozen? ⟨w2.heap.size,o,none⟩ = false) /\ Below w2.heap.size w2 wr) (fun _ i _=>3 - (intOf i).toNat)
      case atStart=>
        refine ⟨0,by omega,rfl,rfl,hid (by simp [bl]),hid ?_,by simp,hid (by simp),HBM.out⟩
        intro i hi
        match i,hi with
        | 0,_=>simp [nTo]
        | 1,_=>simp [nTo]
        | 2,_=>simp [nTo]
      case round=>
        obtain ⟨k,hk,rfl,rfl,H1,HCS,c3,HFZ,hbr⟩:=hrel
        have HBR:=hid hbr
        have HBW:=hid (show Below (w.heap.size + 1) (w.alloc (.cells #[.int .i64 0,.int .i64 0,.int .i64 0,.slice none 0 0] 95)) wr from HB2.out.trans (hbr.mono (by omega)))
        have HBF:=hid (HB0.out.trans (HBW.out.mono (by omega)))
        obtain ⟨⟨r0,r1,r2,r3⟩,rf,rz⟩:=res4 HBW.out
        clear hbr
        by_cases hlt : k < 3
        · have hkX : k < X.length:=by omega
          have hcell:=cell_below HBR.out (HCE.out k hkX)
          have HNU:=hid (numberOf_any X[k] wr (HXZ.out X[k] (List.getElem_mem hkX)))
          have HNA:=hid (nAt_eq HXC.out k hkX)
          have HSN:=hid (show (bl (X.take (k + 1))).map ncode = (bl (X.take k)).map ncode ++ [ncode X[k].data.toList] by rw [bl_take_snoc X k hkX,List.map_append]; rfl)
          have HQ:=hid (show (num X[k].data.toList).2 = ncode X[k].data.toList from rfl)
          have HE:=hid (show ncode X[k].data.toList = 0 \/ ncode X[k].data.toList = 1 \/ ncode X[k].data.toList = 2 from num_err _)
          rw [HQ.out,HNA.out] at HNU
          have hck:=HCS.out k hlt
          have hfk:=HFZ.out k
          rcases HE.out with hq | hq | hq
          · cases hbd : decide (2 ∈ (bl (X.take k)).map ncode)
            · have HN1:=hid (show 1 ∉ (bl (X.take (k + 1))).map ncode by rw [HSN.out,hq]; simpa using H1.out)
              have HFL:=hid (show Value.bool false = Value.bool (decide (2 ∈ (bl (X.take (k + 1))).map ncode)) by
                rw [HSN.out,hq]
                congr 1
                have:=hbd
                simp only [decide_eq_false_iff_not] at this
                simp [this])
              rw [hq] at HNU
              clear hq hbd
              go_wp2_with fail
              refine HNU.out.mono ?_
              rintro e w' ⟨rfl,rfl⟩
              go_wp2_with fail
              go_roundw
              case rel=>exact ⟨k + 1,by omega,by go_num,HFL.out,HN1,hid (cells_set HCS.out hlt),by rw [World.cell?_setCell_other (h:=fun hh=>by have:=congrArg Addr.off hh; simp at this; omega)]; exact c3,hid (fun o=>by simpa using HFZ.out o),HBR.out.setCell (Nat.le_refl _) _⟩
              case measure=>simp [intOf]; omega
            · have HN1:=hid (show 1 ∉ (bl (X.take (k + 1))).map ncode by rw [HSN.out,hq]; simpa using H1.out)
              have HFL:=hid (show Value.bool true = Value.bool (decide (2 ∈ (bl (X.take (k + 1))).map ncode)) by
                rw [HSN.out,hq]
                congr 1
                have:=hbd
                simp only [decide_eq_true_eq] at this
                simp [this])
              rw [hq] at HNU
              clear hq hbd
              go_wp2_with fail
              refine HNU.out.mono ?_
              rintro e w' ⟨rfl,rfl⟩
              go_wp2_with fail
              go_roundw
              case rel=>exact ⟨k + 1,by omega,by go_num,HFL.out,HN1,hid (cells_set HCS.out hlt),by rw [World.cell?_setCell_other (h:=fun hh=>by have:=congrArg Addr.off hh; simp at this; omega)]; exact c3,hid (fun o=>by simpa using HFZ.out o),HBR.out.setCell (Nat.le_refl _) _⟩
              case measure=>simp [intOf]; omega
          · have HRES:=hid (show numsErr (coreOf s.data.toList) = 1 by
              rw [numsErr_ncode,<- HXC.out]
              have hm : 1 ∈ (bl X).map ncode:=by
                rw [<- hq]
                exact List.mem_map.2 ⟨_,bl_mem (List.getElem_mem hkX),rfl⟩
              simp [worst,hm])
            rw [hq] at HNU
            clear hq
            go_wp2_with fail
            refine HNU.out.mono ?_
            rintro e w' ⟨rfl,rfl⟩
            go_wp2_with fail
            refine bodyPost_ret (v:=.tuple #[.agg #[.int .i64 0,.int .i64 0,.int .i64 0,.slice none 0 0],.int .i64 1]) (by simp [results,Tryz.results72,go_sem,r0,r1,r2,r3]) rfl ⟨by rw [HRES.out]; rfl,?_⟩
            exact (((HBF.out.setCell (Nat.le_refl _) _).setCell (Nat.le_refl _) _).setCell (Nat.le_refl _) _).setCell (Nat.le_refl _) _
          · cases hbd : decide (2 ∈ (bl (X.take k)).map ncode)
            · have HN1:=hid (show 1 ∉ (bl (X.take (k + 1))).map ncode by rw [HSN.out,hq]; simpa using H1.out)
              have HFL:=hid (show Value.bool true = Value.bool (decide (2 ∈ (bl (X.take (k + 1))).map ncode)) by
                rw [HSN.out,hq]
                congr 1
                have:=hbd
                simp only [decide_eq_false_iff_not] at this
                simp [this])
              rw [hq] at HNU
              clear hq hbd
              go_wp2_with fail
              refine HNU.out.mono ?_
              rintro e w' ⟨rfl,rfl⟩
              go_wp2_with fail
              go_roundw
              case rel=>exact ⟨k + 1,by omega,by go_num,HFL.out,HN1,hid (cells_set HCS.out hlt),by rw [World.cell?_setCell_other (h:=fun hh=>by have:=congrArg Addr.off hh; simp at this; omega)]; exact c3,hid (fun o=>by simpa using HFZ.out o),HBR.out.setCell (Nat.le_refl _) _⟩
              case measure=>simp [intOf]; omega
            · have HN1:=hid (show 1 ∉ (bl (X.take (k + 1))).map ncode by rw [HSN.out,hq]; simpa using H1.out)
              have HFL:=hid (show Value.bool true = Value.bool (decide (2 ∈ (bl (X.take (k + 1))).map ncode)) by
                rw [HSN.out,hq]
                congr 1
                have:=hbd
                simp only [decide_eq_true_eq] at this
                simp [this])
              rw [hq] at HNU
              clear hq hbd
              go_wp2_with fail
              refine HNU.out.mono ?_
              rintro e w' ⟨rfl,rfl⟩
              go_wp2_with fail
              go_roundw
              case rel=>exact ⟨k + 1,by omega,by go_num,HFL.out,HN1,hid (cells_set HCS.out hlt),by rw [World.cell?_setCell_other (h:=fun hh=>by have:=congrArg Addr.off hh; simp at this; omega)]; exact c3,hid (fun o=>by simpa using HFZ.out o),HBR.out.setCell (Nat.le_refl _) _⟩
              case measure=>simp [intOf]; omega
        · have hk3 : k = 3:=by omega
          subst hk3
          have hXt : X.take 3 = X:=List.take_of_length_le (by omega)
          rw [hXt,HXC.out] at H1 ⊢
          have HW:=hid (show numsErr (coreOf s.data.toList) = if 2 ∈ (coreOf s.data.toList).map ncode then 2 else 0 by rw [numsErr_ncode,worst_no1 H1.out])
          have q0 : wr.cell? ⟨w2.heap.size,0,none⟩ = some (.int .i64 (nAt s.data.toList 0)):=HCS.out 0 (by omega)
          have q1 : wr.cell? ⟨w2.heap.size,1,none⟩ = some (.int .i64 (nAt s.data.toList 1)):=HCS.out 1 (by omega)
          have q2 : wr.cell? ⟨w2.heap.size,2,none⟩ = some (.int .i64 (nAt s.data.toList 2)):=HCS.out 2 (by omega)
          clear hXt
          cases hbd : decide (2 ∈ (coreOf s.data.toList).map ncode)
          · have HRES:=hid (show numsErr (coreOf s.data.toList) = 0 by rw [HW.out,if_neg (by simpa using hbd)])
            clear hbd
            go_wp2_with fail
            refine wp_loop_rounds 1 ?_
            rw [rounds_succ]
            go_wp2_with fail
            refine bodyPost_ret (v:=.tuple #[.agg #[.int .i64 (nAt s.data.toList 0),.int .i64 (nAt s.data.toList 1),.int .i64 (nAt s.data.toList 2),.slice none 0 0],.int .i64 0]) (by simp [results,Tryz.results72,go_sem,r0,r1,r2,r3]) rfl ⟨by rw [HRES.out]; rfl,?_⟩
            exact (((HBF.out.setCell (Nat.le_refl _) _).setCell (Nat.le_refl _) _).setCell (Nat.le_refl _) _).setCell (Nat.le_refl _) _
          · have HRES:=hid (show numsErr (coreOf s.data.toList) = 2 by rw [HW.out,if_pos (by simpa using hbd)])
            clear hbd
            go_wp2_with fail
            refine wp_loop_rounds 1 ?_
            rw [rounds_succ]
            go_wp2_with fail
            refine bodyPost_ret (v:=.tuple #[.agg #[.int .i64 0,.int .i64 0,.int .i64 0,.slice none 0 0],.int .i64 2]) (by simp [results,Tryz.results72,go_sem,r0,r1,r2,r3]) rfl ⟨by rw [HRES.out]; rfl,?_⟩
            exact (((HBF.out.setCell (Nat.le_refl _) _).setCell (Nat.le_refl _) _).setCell (Nat.le_refl _) _).setCell (Nat.le_refl _) _
theorem dash {s : ByteArray} (hm : marked s.data.toList = true) (h : hasPre s.data.toList = true) : ∃ dj : Nat,∃ _ : 1 <= dj,∃ hdl : dj < s.size,((s[dj].toNat : Int) == 45) = true /\ (∀ k,k < dj -> ∀ hk : k < s.size,((s[k].toNat : Int) == 45) = false) /\
    (s.extract 1 dj).data.toList = (one 45 (s.data.toList.drop 1)).1 /\ (s.extract (dj + 1) s.size).data.toList = (one 45 (s.data.toList.drop 1)).2.1 /\ coreOf s.data.toList = cutAt 46 (s.extract 1 dj).data.toList:=by
  have hr:=rest_drop hm
  obtain ⟨hp,hv⟩:=marked_pos hm
  have hc : (s.data.toList.drop 1).contains 45 = true:=by unfold hasPre one at h; rw [hr] at h; exact h
  obtain ⟨j,hj,h1,h2,h3,h4⟩:=one_yes hc
  have hl : (s.data.toList.drop 1).length = s.size - 1:=by simp
  have hjs : j + 1 < s.size:=by omega
  have at_ : ∀ k (hk : k < (s.data.toList.drop 1).length),(s.data.toList.drop 1)[k] = s[k + 1]'(by omega):=by
    intro k hk
    rw [List.getElem_drop]
    simp only [Nat.add_comm 1 k]
    rfl
  have e2 : (s.extract 1 (j + 1)).data.toList = (one 45 (s.data.toList.drop 1)).1:=by rw [h3,extract_list]; rfl
  refine ⟨j + 1,by omega,hjs,?_,?_,e2,?_,?_⟩
  · rw [<- at_ j hj,h1]; rfl
  · intro k hk hks
    rw [beq_eq_false_iff_ne]
    intro e
    have e3 : s[k] = 45:=by apply UInt8.toNat_inj.1; show s[k].toNat = 45; omega
    cases k with
    | zero=>rw [e3] at hv; cases hv
    | succ k=>exact h2 k (by omega) (by omega) (by rw [at_ k (by omega)]; exact e3)
  · rw [h4,ext_drop,List.drop_drop,Nat.add_comm 1 (j + 1)]
  · rw [e2]; unfold coreOf; rw [hr]
set_option maxRecDepth 100000 in
set_option maxHeartbeats 1000000 in
theorem verOf_B1 (s : ByteArray) (w : World) (hs : s.size < 4294967281) (hmk : marked s.data.toList = true) (hp : hasPre s.data.toList = true) (h3 : (coreOf s.data.toList).length ≠ 3) :
    Calls Tryz.prog 72 #[.string s] w fun e w'=>e = .returned (.tuple #[.agg #[.int .i64 0,.int .i64 0,.int .i64 0,.slice none 0 0],.int .i64 1]) /\ Below w.heap.size w w':=by
  have H3:=hid h3
  clear h3
  obtain ⟨dj,hd1,hdl,hdc,hdn,hd2,hd3,hcore⟩:=dash hmk hp
  obtain ⟨hpos,hv0⟩:=marked_pos hmk
  have HDN:=hid hdn
  have HD2:=hid hd2
  have HD3:=hid hd3
  have HCO:=hid hcore
  have h0b : ((s.size : Int) == 0) = false:=beq_eq_false_iff_ne.2 (by omega)
  have HMK:=hid hmk
  have HPP:=hid hp
  clear hdn hd2 hd3 hcore hmk hp
  go_enter Tryz.func72,Tryz.ntmps72
  go_wp2_with fail
  go_loop [4,5,6,7] (fun hd pr hs i=>(∃ k : Nat,k <= dj /\ i = .int .i64 k /\ hd = .string (s.extract 1 s.size) /\ pr = .string ⟨#[]⟩ /\ hs = .bool false) \/ (i = .int .i64 ((dj : Int) + 1) /\ hd = .string (s.extract 1 dj) /\ pr = .string (s.extract (dj + 1) s.size) /\ hs = .bool true)) (fun _ _ _ i=>s.size + 1 - (intOf i).toNat)
  case atStart=>exact Or.inl ⟨0,Nat.zero_le _,rfl,rfl,rfl,rfl⟩
  case round=>
    rcases hrel with ⟨k,hk,rfl,rfl,rfl,rfl⟩ | ⟨rfl,rfl,rfl,rfl⟩
    · have hlt : k < s.size:=by omega
      by_cases hkd : k = dj
      · subst hkd
        have h1k : (1 : Int) <= (k : Int):=by omega
        have h2k : (k : Int) <= (s.size : Int):=by omega
        go_wp2_with fail
        go_round
        case rel=>exact Or.inr ⟨rfl,rfl,rfl,rfl⟩
        case measure=>simp [intOf]; omega
      · have hn:=HDN.out k (by omega) hlt
        go_wp2_with fail
        go_round
        case rel=>exact Or.inl ⟨k + 1,by omega,by go_num,rfl,rfl,rfl⟩
        case measure=>simp [intOf]; omega
    · have hes : (s.extract 1 dj).size < 4294967281:=by rw [ByteArray.size_extract]; omega
      have hps : (s.extract (dj + 1) s.size).size < 4294967281:=by rw [ByteArray.size_extract]; omega
      have HEX:=HD2
      generalize s.extract 1 dj = C at *
      generalize s.extract (dj + 1) s.size = D at *
      have HZZ:=hid hdl
      by_cases hx : (dj : Int) + 1 < (s.size : Int)
      all_goals
        have HB0:=hid ((Below.refl w.heap.size w).alloc (Nat.le_refl _) (.cells #[.int .i64 0,.int .i64 0,.int .i64 0,.slice none 0 0] 95))
        go_wp2_with fail
        refine (rcut46 C _ hes).mono ?_
        rintro e w2 ⟨v,X,rfl,hX,hown,hb⟩
        have hXc : bl X = coreOf s.data.toList:=by rw [hX,HCO.out]
        have HXC:=hid hXc
        have HB2:=hid (show Below (w.heap.size + 1) (w.alloc (.cells #[.int .i64 0,.int .i64 0,.int .i64 0,.slice none 0 0] 95)) w2 from hb.mono (by simp))
        have HXN:=hid (show X ≠ [] from fun h=>by subst h; exact cutAt_ne _ _ hX.symm)
        have hXl : X.length = (coreOf s.data.toList).length:=by rw [<- hXc,bl_len]
        have HXZ:=hid (show ∀ x,x ∈ X -> x.size <= maxLen from fun x hx=>by have:=piece_le hX hx; unfold maxLen; omega)
        obtain ⟨g,cap,rfl,hg,hgz,hcells⟩:=owned_cells hown HXN.out
        have HG:=hid hg
        have HGZ:=hid hgz
        have HCE:=hid hcells
        have HXL:=hid hXl
        have hXle:=many_le hX
        clear hX hXc hown hb hXl hg hgz hcells
        have h3b : ((X.length : Int) == 3) = false:=beq_eq_false_iff_ne.2 (by have:=H3.out; have:=HXL.out; omega)
        obtain ⟨⟨r0,r1,r2,r3⟩,rf,rz⟩:=res4 HB2.out
        have HBF:=hid (HB0.out.trans (HB2.out.mono (by omega)))
        go_wp2_with fail
        refine bodyPost_ret (v:=.tuple #[.agg #[.int .i64 0,.int .i64 0,.int .i64 0,.slice none 0 0],.int .i64 1]) (by simp [results,Tryz.results72,go_sem,r0,r1,r2,r3]) rfl ⟨rfl,?_⟩
        exact (((HBF.out.setCell (Nat.le_refl _) _).setCell (Nat.le_refl _) _).setCell (Nat.le_refl _) _).setCell (Nat.le_refl _) _
end Ve
end Go.Proofs.YtlcffhadobhfkaaGreatDoor
