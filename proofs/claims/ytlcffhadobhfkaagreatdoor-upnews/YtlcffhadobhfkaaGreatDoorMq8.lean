/-
  ModA VerF
-/
import Derived.Test.YtlcffhadobhfkaaGreatDoorMq2
import Derived.Test.YtlcffhadobhfkaaGreatDoorMq5
import Derived.Test.YtlcffhadobhfkaaGreatDoorMq6
import Derived.Test.YtlcffhadobhfkaaGreatDoorMq3
namespace Go.Proofs.YtlcffhadobhfkaaGreatDoor
open Go.RowKit
namespace Ve
def elB (c : Int) : Bool:=decide (97 <= c /\ c <= 122) || digB c || c == 46 || c == 45 || c == 95
def el (c : UInt8) : Bool:=elB (c.toNat : Int)
def allEl (l : List UInt8) : Bool:=l.all el
def elemOk (l : List UInt8) : Bool:=!(Lib.trimB l 46 == []) && (!Lib.contains l [46,46,46] && allEl l)
def long (l : List UInt8) : Bool:=decide (10 < l.length)
theorem inElem_any (c : Int) (w : World) (h0 : 0 <= c) (h1 : c <= 255) :
    Calls Tryz.prog 222 #[.int .u8 c] w fun e w'=>e = .returned (.bool (elB c)) /\ w' = w:=by
  have HP:=hid (show elB c = (decide (97 <= c /\ c <= 122) || digB c || c == 46 || c == 45 || c == 95) from rfl)
  have HC:=hid (isDigit_any c w h0 h1)
  have HS:=hid (small_any c w h0 h1)
  cases hs : decide (97 <= c /\ c <= 122)
  · rw [hs] at HS HP
    clear hs
    cases hd : digB c
    · rw [hd] at HC HP
      clear hd
      cases e1 : (c == 46)
      · rw [e1] at HP
        cases e2 : (c == 45)
        · rw [e2] at HP
          go_enter Tryz.func222,Tryz.ntmps222
          go_wp2_with fail
          refine HS.out.mono ?_
          rintro e w' ⟨rfl,rfl⟩
          go_wp2_with fail
          refine HC.out.mono ?_
          rintro e w' ⟨rfl,rfl⟩
          go_wp2_with fail
          go_ret
          exact ⟨ret_bool (by rw [HP.out]; rfl),rfl⟩
        · rw [e2] at HP
          go_enter Tryz.func222,Tryz.ntmps222
          go_wp2_with fail
          refine HS.out.mono ?_
          rintro e w' ⟨rfl,rfl⟩
          go_wp2_with fail
          refine HC.out.mono ?_
          rintro e w' ⟨rfl,rfl⟩
          go_wp2_with fail
          go_ret
          exact ⟨ret_bool (by rw [HP.out]; rfl),rfl⟩
      · rw [e1] at HP
        go_enter Tryz.func222,Tryz.ntmps222
        go_wp2_with fail
        refine HS.out.mono ?_
        rintro e w' ⟨rfl,rfl⟩
        go_wp2_with fail
        refine HC.out.mono ?_
        rintro e w' ⟨rfl,rfl⟩
        go_wp2_with fail
        go_ret
        exact ⟨ret_bool (by rw [HP.out]; rfl),rfl⟩
    · rw [hd] at HC HP
      clear hd
      go_enter Tryz.func222,Tryz.ntmps222
      go_wp2_with fail
      refine HS.out.mono ?_
      rintro e w' ⟨rfl,rfl⟩
      go_wp2_with fail
      refine HC.out.mono ?_
      rintro e w' ⟨rfl,rfl⟩
      go_wp2_with fail
      go_ret
      exact ⟨ret_bool (by rw [HP.out]; rfl),rfl⟩
  · rw [hs] at HS HP
    clear hs
    go_enter Tryz.func222,Tryz.ntmps222
    go_wp2_with fail
    refine HS.out.mono ?_
    rintro e w' ⟨rfl,rfl⟩
    go_wp2_with fail
    go_ret
    exact ⟨ret_bool (by rw [HP.out]; rfl),rfl⟩
set_option maxHeartbeats 400000 in
theorem every_el (s : ByteArray) (w : World) (hs : s.size <= maxLen) :
    Calls Tryz.prog 221 #[.string s,.func (.func 222) #[] #[]] w fun e w'=>e = .returned (.bool (allEl s.data.toList)) /\ w' = w:=by
  unfold maxLen at hs
  go_enter Tryz.func221,Tryz.ntmps221
  go_wp2_with fail
  go_loop [8] (fun i=>∃ k : Nat,k <= s.size /\ i = .int .i64 k /\ Hid ((s.data.toList.take k).all el = true)) (fun i=>s.size - (intOf i).toNat)
  case atStart=>exact ⟨0,Nat.zero_le _,rfl,hid rfl⟩
  case round=>
    obtain ⟨k,hk,rfl,HA⟩:=hrel
    by_cases hlt : k < s.size
    · have HS:=hid (all_snoc el (s.data.toList.take k) s[k])
      rw [<- take_snoc s k hlt,HA.out,Bool.true_and] at HS
      cases hd : el s[k]
      · rw [hd] at HS
        have HX:=hid (show allEl s.data.toList = false by
          have h2 : allEl s.data.toList = ((s.data.toList.take (k + 1)).all el && (s.data.toList.drop (k + 1)).all el):=by rw [<- List.all_append,List.take_append_drop]; rfl
          rw [h2,HS.out]; rfl)
        have HC:=hid (fun W=>inElem_any (s[k].toNat : Int) W (by omega) (by have:=s[k].toNat_lt; omega))
        have HD:=hid (show elB (s[k].toNat : Int) = false from hd)
        clear hd
        go_wp2_with fail
        refine (HC.out _).mono ?_
        rintro e w' ⟨rfl,rfl⟩
        rw [HD.out]
        go_wp2_with fail
        go_ret
        exact ⟨ret_bool HX.out.symm,rfl⟩
      · rw [hd] at HS
        have HC:=hid (fun W=>inElem_any (s[k].toNat : Int) W (by omega) (by have:=s[k].toNat_lt; omega))
        have HD:=hid (show elB (s[k].toNat : Int) = true from hd)
        clear hd
        go_wp2_with fail
        refine (HC.out _).mono ?_
        rintro e w' ⟨rfl,rfl⟩
        rw [HD.out]
        go_wp2_with fail
        go_round
        case rel=>exact ⟨k + 1,by omega,by go_num,HS⟩
        case measure=>simp [intOf]; omega
    · have HX:=hid (show allEl s.data.toList = true by
        have h2 : s.data.toList.take k = s.data.toList:=List.take_of_length_le (by simp; omega)
        have:=HA.out; rw [h2] at this; exact this)
      go_wp2_with fail
      go_ret
      exact ⟨ret_bool HX.out.symm,rfl⟩
theorem trim_any (s : ByteArray) (w : World) (hs : s.size <= maxLen) :
    Calls Tryz.prog 219 #[.string s,.string ⟨#[46]⟩] w fun e w'=>∃ T : ByteArray,e = .returned (.string T) /\ (T.toList == []) = (Lib.trimB s.data.toList 46 == []) /\ ∃ d,w' = w.drewN d:=
  (Tryz.strings_Trim_one s 46 (by decide) w (by unfold maxLen at hs; omega)).mono fun e w' ⟨h1,h2⟩=>⟨_,h1,by rw [ByteArray.toList_eq],by
    rcases h2 with h2 | h2
    · exact ⟨0,h2⟩
    · exact ⟨1,h2⟩⟩
set_option maxHeartbeats 1000000 in
theorem isElem_any (s : ByteArray) (m : Int) (w : World) (hs : s.size < 4294967281) (hm : w.cell? ⟨11,0,none⟩ = some (.int .i64 m)) :
    Calls Tryz.prog 183 #[.string s] w fun e w'=>e = .returned (.bool (elemOk s.data.toList)) /\ Below w.heap.size w w':=by
  have HO:=hid (show elemOk s.data.toList = (!(Lib.trimB s.data.toList 46 == []) && (!Lib.contains s.data.toList [46,46,46] && allEl s.data.toList)) from rfl)
  have HT:=hid (trim_any s w (by unfold maxLen; omega))
  have HC:=hid (fun (d : Nat)=>Tryz.strings_Contains s ⟨#[46,46,46]⟩ m (w.drewN d) hs hm)
  have HE:=hid (fun W=>every_el s W (by unfold maxLen; omega))
  rw [show (⟨#[46,46,46]⟩ : ByteArray).data.toList = [46,46,46] from rfl] at HC
  clear hm
  cases h1 : (Lib.trimB s.data.toList 46 == [])
  · rw [h1] at HO HT
    clear h1
    cases h2 : Lib.contains s.data.toList [46,46,46]
    · rw [h2] at HO HC
      clear h2
      go_enter Tryz.func183,Tryz.ntmps183
      go_wp2_with fail
      refine HT.out.mono ?_
      rintro e w1 ⟨T,rfl,hT,d,rfl⟩
      go_wp2_with fail
      refine (HC.out d).mono ?_
      rintro e w' ⟨rfl,hw⟩
      subst hw
      go_wp2_with fail
      refine (HE.out _).mono ?_
      rintro e w' ⟨rfl,hw⟩
      subst hw
      go_wp2_with fail
      go_ret
      exact ⟨ret_bool (by rw [HO.out]; rfl),below_drawn _ _⟩
    · rw [h2] at HO HC
      clear h2
      go_enter Tryz.func183,Tryz.ntmps183
      go_wp2_with fail
      refine HT.out.mono ?_
      rintro e w1 ⟨T,rfl,hT,d,rfl⟩
      go_wp2_with fail
      refine (HC.out d).mono ?_
      rintro e w' ⟨rfl,hw⟩
      subst hw
      go_wp2_with fail
      go_ret
      exact ⟨ret_bool (by rw [HO.out]; rfl),below_drawn _ _⟩
  · rw [h1] at HO HT
    clear h1
    go_enter Tryz.func183,Tryz.ntmps183
    go_wp2_with fail
    refine HT.out.mono ?_
    rintro e w1 ⟨T,rfl,hT,d,rfl⟩
    go_wp2_with fail
    go_ret
    exact ⟨ret_bool (by rw [HO.out]; rfl),below_drawn _ _⟩
theorem k1_any (s : ByteArray) (m : Int) (w : World) (hs : s.size < 4294967281) (hm : w.cell? ⟨11,0,none⟩ = some (.int .i64 m)) :
    Calls Tryz.prog 182 #[.string s] w fun e w'=>e = .returned (.bool (!elemOk s.data.toList)) /\ Below w.heap.size w w':=by
  have HE:=hid (isElem_any s m w hs hm)
  clear hm
  go_enter Tryz.func182,Tryz.ntmps182
  go_wp2_with fail
  refine HE.out.mono ?_
  rintro e w1 ⟨rfl,hb⟩
  have HB:=hid hb
  clear hb
  go_wp2_with fail
  go_ret
  exact ⟨rfl,HB.out⟩
theorem k2_any (s : ByteArray) (w : World) :
    Calls Tryz.prog 184 #[.string s] w fun e w'=>e = .returned (.bool (long s.data.toList)) /\ Below w.heap.size w w':=by
  have HL:=hid (show long s.data.toList = decide (10 < (s.size : Int)) by unfold long; rw [len_eq]; exact decide_eq_decide.2 (by omega))
  go_enter Tryz.func184,Tryz.ntmps184
  go_wp2_with fail
  go_ret
  exact ⟨ret_bool HL.out.symm,Below.refl _ _⟩
theorem any_step (f : List UInt8 -> Bool) (X : List ByteArray) (k : Nat) (h : k < X.length) : (bl (X.drop k)).any f = (f X[k].data.toList || (bl (X.drop (k + 1))).any f):=by
  rw [List.drop_eq_getElem_cons h]; rfl
set_option maxHeartbeats 1000000 in
theorem idx1 (b0 c0 : Nat) (X : List ByteArray) (m : Int) (w : World) (hX : X.length <= 4294967296) (hc0 : ∀ j (h : j < X.length),w.cell? ⟨b0,0 + j,none⟩ = some (.string X[j])) (hm : w.cell? ⟨11,0,none⟩ = some (.int .i64 m)) (hXs : ∀ x,x ∈ X -> x.size < 4294967281) :
    Calls Tryz.prog 218 #[.slice (some ⟨b0,0,none⟩) X.length c0,.func (.func 182) #[] #[]] w fun e w'=>∃ i : Int,e = .returned (.int .i64 i) /\ decide (0 <= i) = (bl X).any (fun l=>!elemOk l) /\ Below w.heap.size w w':=by
  have HC0:=hid hc0
  have HM:=hid hm
  have HXS:=hid hXs
  clear hm hXs
  clear hc0
  go_enter Tryz.func218,Tryz.ntmps218
  go_wp2_with fail
  go_loopw [8] (fun i wr=>∃ k : Nat,k <= X.length /\ i = .int .i64 k /\ Hid ((bl X).any (fun l=>!elemOk l) = (bl (X.drop k)).any (fun l=>!elemOk l)) /\ Hid (Below w.heap.size w wr)) (fun i _=>X.length - (intOf i).toNat)
  case atStart=>exact ⟨0,Nat.zero_le _,rfl,hid rfl,hid (Below.refl _ _)⟩
  case round=>
    obtain ⟨k,hk,rfl,HO,HB⟩:=hrel
    by_cases hlt : k < X.length
    · have hx : wr.cell? ⟨b0,k,none⟩ = some (.string X[k]):=by
        have:=HC0.out k hlt
        rw [Nat.zero_add] at this
        exact cell_below HB.out this
      have HP:=hid (k1_any X[k] m wr (HXS.out _ (List.getElem_mem hlt)) (cell_below HB.out HM.out))
      have HN:=hid (HO.out.trans (any_step (fun l=>!elemOk l) X k hlt))
      generalize hq : (!elemOk X[k].data.toList) = q at *
      clear hq HO
      cases q
      · go_wp2_with fail
        refine HP.out.mono ?_
        rintro e w1 ⟨rfl,hb1⟩
        have HB1:=hid (HB.out.trans (hb1.mono HB.out.size))
        clear hb1
        go_wp2_with fail
        go_roundw
        case rel=>exact ⟨k + 1,by omega,by go_num,hid (HN.out.trans (Bool.false_or _)),HB1⟩
        case measure=>simp [intOf]; omega
      · go_wp2_with fail
        refine HP.out.mono ?_
        rintro e w1 ⟨rfl,hb1⟩
        have HB1:=hid (HB.out.trans (hb1.mono HB.out.size))
        clear hb1
        go_wp2_with fail
        go_ret
        exact ⟨k,rfl,by rw [HN.out,Bool.true_or]; exact decide_eq_true (by omega),HB1.out⟩
    · have HE:=hid (show (bl (X.drop k)).any (fun l=>!elemOk l) = false by rw [List.drop_eq_nil_of_le (by omega)]; rfl)
      go_wp2_with fail
      go_ret
      exact ⟨-1,rfl,by rw [HO.out,HE.out]; rfl,HB.out⟩
theorem has1 (b0 c0 : Nat) (X : List ByteArray) (m : Int) (w : World) (hX : X.length <= 4294967296) (hc0 : ∀ j (h : j < X.length),w.cell? ⟨b0,0 + j,none⟩ = some (.string X[j])) (hm : w.cell? ⟨11,0,none⟩ = some (.int .i64 m)) (hXs : ∀ x,x ∈ X -> x.size < 4294967281) :
    Calls Tryz.prog 181 #[.slice (some ⟨b0,0,none⟩) X.length c0,.func (.func 182) #[] #[]] w fun e w'=>e = .returned (.bool ((bl X).any (fun l=>!elemOk l))) /\ Below w.heap.size w w':=by
  have HI:=hid (idx1 b0 c0 X m w hX hc0 hm hXs)
  clear hc0 hm hXs
  go_enter Tryz.func181,Tryz.ntmps181
  go_wp2_with fail
  refine HI.out.mono ?_
  rintro e w1 ⟨i,rfl,hi,hb⟩
  have HB:=hid hb
  have HQ:=hid hi
  clear hb hi
  go_wp2_with fail
  go_ret
  exact ⟨ret_bool HQ.out,HB.out⟩
set_option maxHeartbeats 1000000 in
theorem idx2 (b0 c0 : Nat) (X : List ByteArray) (w : World) (hX : X.length <= 4294967296) (hc0 : ∀ j (h : j < X.length),w.cell? ⟨b0,0 + j,none⟩ = some (.string X[j])) :
    Calls Tryz.prog 218 #[.slice (some ⟨b0,0,none⟩) X.length c0,.func (.func 184) #[] #[]] w fun e w'=>∃ i : Int,e = .returned (.int .i64 i) /\ decide (0 <= i) = (bl X).any long /\ Below w.heap.size w w':=by
  have HC0:=hid hc0
  clear hc0
  go_enter Tryz.func218,Tryz.ntmps218
  go_wp2_with fail
  go_loopw [8] (fun i wr=>∃ k : Nat,k <= X.length /\ i = .int .i64 k /\ Hid ((bl X).any long = (bl (X.drop k)).any long) /\ Hid (Below w.heap.size w wr)) (fun i _=>X.length - (intOf i).toNat)
  case atStart=>exact ⟨0,Nat.zero_le _,rfl,hid rfl,hid (Below.refl _ _)⟩
  case round=>
    obtain ⟨k,hk,rfl,HO,HB⟩:=hrel
    by_cases hlt : k < X.length
    · have hx : wr.cell? ⟨b0,k,none⟩ = some (.string X[k]):=by
        have:=HC0.out k hlt
        rw [Nat.zero_add] at this
        exact cell_below HB.out this
      have HP:=hid (k2_any X[k] wr)
      have HN:=hid (HO.out.trans (any_step long X k hlt))
      generalize hq : long X[k].data.toList = q at *
      clear hq HO
      cases q
      · go_wp2_with fail
        refine HP.out.mono ?_
        rintro e w1 ⟨rfl,hb1⟩
        have HB1:=hid (HB.out.trans (hb1.mono HB.out.size))
        clear hb1
        go_wp2_with fail
        go_roundw
        case rel=>exact ⟨k + 1,by omega,by go_num,hid (HN.out.trans (Bool.false_or _)),HB1⟩
        case measure=>simp [intOf]; omega
      · go_wp2_with fail
        refine HP.out.mono ?_
        rintro e w1 ⟨rfl,hb1⟩
        have HB1:=hid (HB.out.trans (hb1.mono HB.out.size))
        clear hb1
        go_wp2_with fail
        go_ret
        exact ⟨k,rfl,by rw [HN.out,Bool.true_or]; exact decide_eq_true (by omega),HB1.out⟩
    · have HE:=hid (show (bl (X.drop k)).any long = false by rw [List.drop_eq_nil_of_le (by omega)]; rfl)
      go_wp2_with fail
      go_ret
      exact ⟨-1,rfl,by rw [HO.out,HE.out]; rfl,HB.out⟩
theorem has2 (b0 c0 : Nat) (X : List ByteArray) (w : World) (hX : X.length <= 4294967296) (hc0 : ∀ j (h : j < X.length),w.cell? ⟨b0,0 + j,none⟩ = some (.string X[j])) :
    Calls Tryz.prog 181 #[.slice (some ⟨b0,0,none⟩) X.length c0,.func (.func 184) #[] #[]] w fun e w'=>e = .returned (.bool ((bl X).any long)) /\ Below w.heap.size w w':=by
  have HI:=hid (idx2 b0 c0 X w hX hc0)
  clear hc0
  go_enter Tryz.func181,Tryz.ntmps181
  go_wp2_with fail
  refine HI.out.mono ?_
  rintro e w1 ⟨i,rfl,hi,hb⟩
  have HB:=hid hb
  have HQ:=hid hi
  clear hb hi
  go_wp2_with fail
  go_ret
  exact ⟨ret_bool HQ.out,HB.out⟩
def likeB (l : List UInt8) : Bool:=marked l && digs (restOf l)
theorem like_any (s : ByteArray) (w : World) (hs : s.size < 4294967281) :
    Calls Tryz.prog 185 #[.string s] w fun e w'=>e = .returned (.bool (likeB s.data.toList)) /\ w' = w:=by
  have HL:=hid (show likeB s.data.toList = (marked s.data.toList && digs (restOf s.data.toList)) from rfl)
  have HC:=hid (cutPrefix_any s w)
  cases hm : marked s.data.toList
  · rw [hm] at HC HL
    clear hm
    go_enter Tryz.func185,Tryz.ntmps185
    go_wp2_with fail
    refine HC.out.mono ?_
    rintro e w' ⟨R,rfl,hR,rfl⟩
    go_wp2_with fail
    go_ret
    exact ⟨ret_bool (by rw [HL.out]; rfl),rfl⟩
  · rw [hm] at HC HL
    clear hm
    go_enter Tryz.func185,Tryz.ntmps185
    go_wp2_with fail
    refine HC.out.mono ?_
    rintro e w' ⟨R,rfl,hR,rfl⟩
    have HR:=hid hR
    have HZ:=hid (show R.size <= maxLen by
      have h1:=size_of hR
      have h2:=restOf_le s.data.toList
      simp at h2; unfold maxLen; omega)
    clear hR
    go_wp2_with fail
    refine (digits_any R _ HZ.out).mono ?_
    rintro e w' ⟨rfl,rfl⟩
    go_wp2_with fail
    go_ret
    exact ⟨ret_bool (by rw [HL.out,HR.out]; rfl),rfl⟩
set_option maxHeartbeats 1000000 in
theorem vsplit_pbad (s : ByteArray) (aT aB : Addr) (m : Int) (w : World) (hs : s.size < 4294967281) (S : Vs w aT aB m) (hmk : marked s.data.toList = true) (h3 : (coreOf s.data.toList).length = 3) (hp : hasPre s.data.toList = true) (hq : worse (numsErr (coreOf s.data.toList)) (pre (preOf s.data.toList)) ≠ 0) :
    Calls Tryz.prog 125 #[.string s] w fun e w'=>e = .returned (.tuple #[.agg #[.int .i64 0,.int .i64 0,.int .i64 0,.slice none 0 0],errV aT aB (worse (numsErr (coreOf s.data.toList)) (pre (preOf s.data.toList)))]) /\ Below w.heap.size w w':=by
  have HQ:=hid hq
  clear hq
  have HB0:=hid ((Below.refl w.heap.size w).alloc (Nat.le_refl _) (.cells #[.int .i64 0,.int .i64 0,.int .i64 0,.slice none 0 0] 144))
  have HS:=hid (S.below HB0.out)
  have hne1 : ¬ w.heap.size = 3:=by have:=lt_of_cell S.t; simp at this; omega
  have hne2 : ¬ 3 = w.heap.size:=fun h=>hne1 h.symm
  have HM:=hid hmk
  have H3:=hid h3
  have HP:=hid hp
  clear S hmk h3 hp
  go_enter Tryz.func125,Tryz.ntmps125
  go_wp2_with fail
  refine (cutPrefix_any s _).mono ?_
  rintro e w1 ⟨R,rfl,hR,rfl⟩
  rw [HM.out]
  have HR:=hid hR
  have hRs : R.size < 4294967281:=by
    have h1:=size_of hR
    have h2:=restOf_le s.data.toList
    simp at h2; omega
  clear hR
  go_wp2_with fail
  refine (cut_any R m _ hRs HS.out.ml).mono ?_
  rintro e w2 ⟨C,T,rfl,hC,hT,hb2⟩
  rw [show (one 45 R.data.toList).2.2 = true by rw [HR.out]; exact HP.out]
  have HC:=hid hC
  have HT:=hid hT
  have hCs : C.size < 4294967281:=by
    have h1:=size_of hC
    have h2:=(one_le 45 R.data.toList).1
    simp at h2; omega
  have hTs : T.size < 4294967281:=by
    have h1:=size_of hT
    have h2:=(one_le 45 R.data.toList).2
    simp at h2; omega
  have HB2:=hid (show Below (w.heap.size + 1) (w.alloc (.cells #[.int .i64 0,.int .i64 0,.int .i64 0,.slice none 0 0] 144)) w2 from hb2.mono (by simp))
  have HS2:=hid (HS.out.below hb2)
  clear hC hT hb2
  go_wp2_with fail
  refine (nums_any C aT aB m w2 hCs HS2.out).mono ?_
  rintro e w3 ⟨v,rfl,hown,hb3⟩
  have hCC : cutAt 46 C.data.toList = coreOf s.data.toList:=by rw [HC.out,HR.out]; rfl
  rw [hCC] at hown ⊢
  rw [H3.out,n_three H3.out] at hown
  have HB3:=hid (HB2.out.trans (hb3.mono (by have:=HB2.out.size; simpa using this)))
  have HS3:=hid (HS2.out.below hb3)
  have HZ:=hid (show w.heap.size + 1 <= w2.heap.size by have:=HB2.out.size; simpa using this)
  obtain ⟨_,⟨_,hn0⟩ | ⟨g9,cap,cur,hv,hg9,hblk,hcap,hcm,hcs,hct⟩⟩:=hown
  · cases hn0
  subst hv
  have HK:=hid (show w3.cell? ⟨g9,0,none⟩ = some (.int .i64 (nAt s.data.toList 0)) /\ w3.cell? ⟨g9,1,none⟩ = some (.int .i64 (nAt s.data.toList 1)) /\ w3.cell? ⟨g9,2,none⟩ = some (.int .i64 (nAt s.data.toList 2)) from three_cells hblk hct)
  have HG:=hid hg9
  clear hg9 hblk hcap hcm hcs hct hb3 hCC
  go_wp2_with fail
  refine (split_any 46 T m w3 hTs HS3.out.ml).mono ?_
  rintro e w4 ⟨X,rfl,hX,hxc,hb4,hz4⟩
  have hPX : bl X = preOf s.data.toList:=by rw [hX,HT.out,HR.out]; unfold preOf; rw [HP.out]; rfl
  have HX:=hid hX
  have HPX:=hid hPX
  have HXC:=hid hxc
  have HS4:=hid (HS3.out.below hb4)
  have HB4:=hid hb4
  have HZ3:=hid HB3.out.size
  have hn:=many_le hX
  have HXS : Hid (∀ x,x ∈ X -> x.size <= maxLen):=fun x hx=>by have:=piece_le HX.out hx; unfold maxLen; omega
  have HZ4:=hid hz4
  clear hX hxc hb4 hPX hz4
  go_wp2_with fail
  refine (pre_some w3.heap.size 0 X.length X aT aB m w4 HS4.out (by omega) HXS.out HXC.out).mono ?_
  rintro e w5 ⟨rfl,hb5⟩
  rw [HPX.out]
  have HS5:=hid (HS4.out.below hb5)
  have HB5:=hid (HB4.out.trans (hb5.mono HB4.out.size))
  have HX5:=hid (show ∀ j (h : j < X.length),w5.cell? ⟨w3.heap.size,0 + j,none⟩ = some (.string X[j]) from fun j h=>cell_below hb5 (HXC.out j h))
  have HZ5:=hid (show w3.heap.size < w5.heap.size from Nat.lt_of_lt_of_le HZ4.out hb5.size)
  clear hb5
  have HE1:=hid (numsErr_err (coreOf s.data.toList))
  have HE2:=hid (pre_err (preOf s.data.toList))
  go_wp2_with fail
  refine (worse_any _ _ aT aB m w5 HS5.out HE1.out HE2.out).mono ?_
  rintro e w6 ⟨rfl,hw6⟩
  have HB6:=hid (show Below (w.heap.size + 1) (w.alloc (.cells #[.int .i64 0,.int .i64 0,.int .i64 0,.slice none 0 0] 144)) w6 by
    rw [hw6]; exact HB3.out.trans (HB5.out.mono (by have:=HZ3.out; simp at this; omega)))
  have HE:=hid (worse_err HE1.out HE2.out)
  rcases HE.out with h | h | h
  · exact absurd h HQ.out
  · have HH:=hid h
    rw [h,errV1]
    clear h hw6
    obtain ⟨⟨r0,r1,r2,r3⟩,rf,rz⟩:=res4 HB6.out
    have HBF:=hid (HB0.out.trans (HB6.out.mono (by omega)))
    go_wp2_with fail
    refine bodyPost_ret (v:=.tuple #[.agg #[.int .i64 0,.int .i64 0,.int .i64 0,.slice none 0 0],.iface 319 (.pointer (some aT))]) (by simp [results,Tryz.results125,go_sem,r0,r1,r2,r3]) rfl ⟨by rw [HH.out]; rfl,?_⟩
    exact (((HBF.out.setCell (Nat.le_refl _) _).setCell (Nat.le_refl _) _).setCell (Nat.le_refl _) _).setCell (Nat.le_refl _) _
  · have HH:=hid h
    rw [h,errV2]
    clear h hw6
    obtain ⟨⟨r0,r1,r2,r3⟩,rf,rz⟩:=res4 HB6.out
    have HBF:=hid (HB0.out.trans (HB6.out.mono (by omega)))
    go_wp2_with fail
    refine bodyPost_ret (v:=.tuple #[.agg #[.int .i64 0,.int .i64 0,.int .i64 0,.slice none 0 0],.iface 319 (.pointer (some aB))]) (by simp [results,Tryz.results125,go_sem,r0,r1,r2,r3]) rfl ⟨by rw [HH.out]; rfl,?_⟩
    exact (((HBF.out.setCell (Nat.le_refl _) _).setCell (Nat.le_refl _) _).setCell (Nat.le_refl _) _).setCell (Nat.le_refl _) _
set_option maxHeartbeats 1000000 in
theorem vsplit_pgood (s : ByteArray) (aT aB : Addr) (m : Int) (w : World) (hs : s.size < 4294967281) (S : Vs w aT aB m) (hmk : marked s.data.toList = true) (h3 : (coreOf s.data.toList).length = 3) (hp : hasPre s.data.toList = true) (hq : worse (numsErr (coreOf s.data.toList)) (pre (preOf s.data.toList)) = 0) :
    Calls Tryz.prog 125 #[.string s] w fun e w'=>∃ b X,e = .returned (.tuple #[.agg #[.int .i64 (nAt s.data.toList 0),.int .i64 (nAt s.data.toList 1),.int .i64 (nAt s.data.toList 2),.slice (some ⟨b,0,none⟩) X.length X.length],.nilIface]) /\
      bl X = preOf s.data.toList /\ b < w'.heap.size /\ (∀ j (h : j < X.length),w'.cell? ⟨b,0 + j,none⟩ = some (.string X[j])) /\ Below w.heap.size w w':=by
  have HQ:=hid hq
  clear hq
  have HB0:=hid ((Below.refl w.heap.size w).alloc (Nat.le_refl _) (.cells #[.int .i64 0,.int .i64 0,.int .i64 0,.slice none 0 0] 144))
  have HS:=hid (S.below HB0.out)
  have hne1 : ¬ w.heap.size = 3:=by have:=lt_of_cell S.t; simp at this; omega
  have hne2 : ¬ 3 = w.heap.size:=fun h=>hne1 h.symm
  have HM:=hid hmk
  have H3:=hid h3
  have HP:=hid hp
  clear S hmk h3 hp
  go_enter Tryz.func125,Tryz.ntmps125
  go_wp2_with fail
  refine (cutPrefix_any s _).mono ?_
  rintro e w1 ⟨R,rfl,hR,rfl⟩
  rw [HM.out]
  have HR:=hid hR
  have hRs : R.size < 4294967281:=by
    have h1:=size_of hR
    have h2:=restOf_le s.data.toList
    simp at h2; omega
  clear hR
  go_wp2_with fail
  refine (cut_any R m _ hRs HS.out.ml).mono ?_
  rintro e w2 ⟨C,T,rfl,hC,hT,hb2⟩
  rw [show (one 45 R.data.toList).2.2 = true by rw [HR.out]; exact HP.out]
  have HC:=hid hC
  have HT:=hid hT
  have hCs : C.size < 4294967281:=by
    have h1:=size_of hC
    have h2:=(one_le 45 R.data.toList).1
    simp at h2; omega
  have hTs : T.size < 4294967281:=by
    have h1:=size_of hT
    have h2:=(one_le 45 R.data.toList).2
    simp at h2; omega
  have HB2:=hid (show Below (w.heap.size + 1) (w.alloc (.cells #[.int .i64 0,.int .i64 0,.int .i64 0,.slice none 0 0] 144)) w2 from hb2.mono (by simp))
  have HS2:=hid (HS.out.below hb2)
  clear hC hT hb2
  go_wp2_with fail
  refine (nums_any C aT aB m w2 hCs HS2.out).mono ?_
  rintro e w3 ⟨v,rfl,hown,hb3⟩
  have hCC : cutAt 46 C.data.toList = coreOf s.data.toList:=by rw [HC.out,HR.out]; rfl
  rw [hCC] at hown ⊢
  rw [H3.out,n_three H3.out] at hown
  have HB3:=hid (HB2.out.trans (hb3.mono (by have:=HB2.out.size; simpa using this)))
  have HS3:=hid (HS2.out.below hb3)
  have HZ:=hid (show w.heap.size + 1 <= w2.heap.size by have:=HB2.out.size; simpa using this)
  obtain ⟨_,⟨_,hn0⟩ | ⟨g9,cap,cur,hv,hg9,hblk,hcap,hcm,hcs,hct⟩⟩:=hown
  · cases hn0
  subst hv
  have HK:=hid (show w3.cell? ⟨g9,0,none⟩ = some (.int .i64 (nAt s.data.toList 0)) /\ w3.cell? ⟨g9,1,none⟩ = some (.int .i64 (nAt s.data.toList 1)) /\ w3.cell? ⟨g9,2,none⟩ = some (.int .i64 (nAt s.data.toList 2)) from three_cells hblk hct)
  have HG:=hid hg9
  clear hg9 hblk hcap hcm hcs hct hb3 hCC
  go_wp2_with fail
  refine (split_any 46 T m w3 hTs HS3.out.ml).mono ?_
  rintro e w4 ⟨X,rfl,hX,hxc,hb4,hz4⟩
  have hPX : bl X = preOf s.data.toList:=by rw [hX,HT.out,HR.out]; unfold preOf; rw [HP.out]; rfl
  have HX:=hid hX
  have HPX:=hid hPX
  have HXC:=hid hxc
  have HS4:=hid (HS3.out.below hb4)
  have HB4:=hid hb4
  have HZ3:=hid HB3.out.size
  have hn:=many_le hX
  have HXS : Hid (∀ x,x ∈ X -> x.size <= maxLen):=fun x hx=>by have:=piece_le HX.out hx; unfold maxLen; omega
  have HZ4:=hid hz4
  clear hX hxc hb4 hPX hz4
  go_wp2_with fail
  refine (pre_some w3.heap.size 0 X.length X aT aB m w4 HS4.out (by omega) HXS.out HXC.out).mono ?_
  rintro e w5 ⟨rfl,hb5⟩
  rw [HPX.out]
  have HS5:=hid (HS4.out.below hb5)
  have HB5:=hid (HB4.out.trans (hb5.mono HB4.out.size))
  have HX5:=hid (show ∀ j (h : j < X.length),w5.cell? ⟨w3.heap.size,0 + j,none⟩ = some (.string X[j]) from fun j h=>cell_below hb5 (HXC.out j h))
  have HZ5:=hid (show w3.heap.size < w5.heap.size from Nat.lt_of_lt_of_le HZ4.out hb5.size)
  clear hb5
  have HE1:=hid (numsErr_err (coreOf s.data.toList))
  have HE2:=hid (pre_err (preOf s.data.toList))
  go_wp2_with fail
  refine (worse_any _ _ aT aB m w5 HS5.out HE1.out HE2.out).mono ?_
  rintro e w6 ⟨rfl,hw6⟩
  have HB6:=hid (show Below (w.heap.size + 1) (w.alloc (.cells #[.int .i64 0,.int .i64 0,.int .i64 0,.slice none 0 0] 144)) w6 by
    rw [hw6]; exact HB3.out.trans (HB5.out.mono (by have:=HZ3.out; simp at this; omega)))
  rw [HQ.out,errV0]
  obtain ⟨⟨r0,r1,r2,r3⟩,rf,rz⟩:=res4 HB6.out
  have HBF:=hid (HB0.out.trans (HB6.out.mono (by omega)))
  obtain ⟨k0,k1,k2⟩:=HK.out
  have hg9 : ¬ g9 = w.heap.size:=by have h1:=HG.out; have h2:=HZ.out; omega
  have hg9' : ¬ w.heap.size = g9:=fun h=>hg9 h.symm
  have hb9 : ¬ w3.heap.size = w.heap.size:=by have h1:=HZ3.out; simp at h1; omega
  have c0 : w6.cell? ⟨g9,0,none⟩ = some (.int .i64 (nAt s.data.toList 0)):=by rw [hw6]; exact cell_below HB5.out k0
  have c1 : w6.cell? ⟨g9,1,none⟩ = some (.int .i64 (nAt s.data.toList 1)):=by rw [hw6]; exact cell_below HB5.out k1
  have c2 : w6.cell? ⟨g9,2,none⟩ = some (.int .i64 (nAt s.data.toList 2)):=by rw [hw6]; exact cell_below HB5.out k2
  have HX6:=hid (show ∀ j (h : j < X.length),w6.cell? ⟨w3.heap.size,0 + j,none⟩ = some (.string X[j]) from hw6 ▸ HX5.out)
  have HZ6:=hid (show w3.heap.size < w6.heap.size from hw6 ▸ HZ5.out)
  clear hw6 k0 k1 k2
  generalize hn0 : nAt s.data.toList 0 = n0 at *
  generalize hn1 : nAt s.data.toList 1 = n1 at *
  generalize hn2 : nAt s.data.toList 2 = n2 at *
  have HN0:=hid hn0
  have HN1:=hid hn1
  have HN2:=hid hn2
  clear hn0 hn1 hn2
  go_wp2_with fail
  go_region
  all_goals (try go_wp2)
  all_goals
    refine bodyPost_ret (v:=.tuple #[.agg #[.int .i64 n0,.int .i64 n1,.int .i64 n2,.slice (some ⟨w3.heap.size,0,none⟩) X.length X.length],.nilIface]) (by simp [results,Tryz.results125,go_sem,r0,r1,r2,r3]) rfl ⟨w3.heap.size,X,by rw [HN0.out,HN1.out,HN2.out],HPX.out,?_,?_,?_⟩
    · simpa using HZ6.out
    · intro j h
      have:=HX6.out j h
      simpa [World.cell?_setCell_other,hb9,fun h : w.heap.size = w3.heap.size=>hb9 h.symm] using this
    · exact ((((HBF.out.setCell (Nat.le_refl _) _).setCell (Nat.le_refl _) _).setCell (Nat.le_refl _) _).setCell (Nat.le_refl _) _).drew
theorem vsplit_bad (s : ByteArray) (aT aB : Addr) (m : Int) (w : World) (hs : s.size < 4294967281) (S : Vs w aT aB m) (h : verErr s.data.toList ≠ 0) :
    Calls Tryz.prog 125 #[.string s] w fun e w'=>e = .returned (.tuple #[.agg #[.int .i64 0,.int .i64 0,.int .i64 0,.slice none 0 0],errV aT aB (verErr s.data.toList)]) /\ Below w.heap.size w w':=by
  by_cases h0 : marked s.data.toList = false \/ (coreOf s.data.toList).length ≠ 3
  · have e : verErr s.data.toList = 1:=by unfold verErr; rw [if_pos h0]
    rw [e]; exact vsplit_shape s aT aB m w hs S h0
  · have h1 : marked s.data.toList = true:=by
      cases hm : marked s.data.toList
      · exact absurd (Or.inl hm) h0
      · rfl
    have h3 : (coreOf s.data.toList).length = 3:=Decidable.byContradiction fun hn=>h0 (Or.inr hn)
    cases hp : hasPre s.data.toList
    · have e : verErr s.data.toList = numsErr (coreOf s.data.toList):=by unfold verErr; rw [if_neg h0,hp]; rfl
      rw [e] at h ⊢; exact vsplit_num s aT aB m w hs S h1 h3 hp h
    · have e : verErr s.data.toList = worse (numsErr (coreOf s.data.toList)) (pre (preOf s.data.toList)):=by unfold verErr; rw [if_neg h0,hp]; rfl
      rw [e] at h ⊢; exact vsplit_pbad s aT aB m w hs S h1 h3 hp h
theorem vsplit_good (s : ByteArray) (aT aB : Addr) (m : Int) (w : World) (hs : s.size < 4294967281) (S : Vs w aT aB m) (h : verErr s.data.toList = 0) :
    Calls Tryz.prog 125 #[.string s] w fun e w'=>∃ v X,e = .returned (.tuple #[.agg #[.int .i64 (nAt s.data.toList 0),.int .i64 (nAt s.data.toList 1),.int .i64 (nAt s.data.toList 2),v],.nilIface]) /\
      bl X = preOf s.data.toList /\ StrsAt w' v X /\ Below w.heap.size w w':=by
  by_cases h0 : marked s.data.toList = false \/ (coreOf s.data.toList).length ≠ 3
  · unfold verErr at h; rw [if_pos h0] at h; cases h
  · have h1 : marked s.data.toList = true:=by
      cases hm : marked s.data.toList
      · exact absurd (Or.inl hm) h0
      · rfl
    have h3 : (coreOf s.data.toList).length = 3:=Decidable.byContradiction fun hn=>h0 (Or.inr hn)
    cases hp : hasPre s.data.toList
    · have e : verErr s.data.toList = numsErr (coreOf s.data.toList):=by unfold verErr; rw [if_neg h0,hp]; rfl
      rw [e] at h
      refine (vsplit_plain s aT aB m w hs S h1 h3 hp h).mono fun e w' ⟨e1,e2⟩=>⟨.slice none 0 0,[],e1,?_,Or.inl ⟨rfl,rfl⟩,e2⟩
      unfold preOf; rw [hp]; rfl
    · have e : verErr s.data.toList = worse (numsErr (coreOf s.data.toList)) (pre (preOf s.data.toList)):=by unfold verErr; rw [if_neg h0,hp]; rfl
      rw [e] at h
      refine (vsplit_pgood s aT aB m w hs S h1 h3 hp h).mono fun e w' ⟨b,X,e1,e2,e3,e4,e5⟩=>⟨_,X,e1,e2,Or.inr ⟨?_,b,rfl,e3,e4⟩,e5⟩
      intro hX
      subst hX
      have : preOf s.data.toList = []:=e2.symm
      unfold preOf at this
      rw [hp] at this
      exact cutAt_ne _ _ this
end Ve
end Go.Proofs.YtlcffhadobhfkaaGreatDoor
