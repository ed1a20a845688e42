/-
  ModA
-/
import Derived.Test.YtiebgeamfblbdaaGreatDoorFb7
import Derived.Test.YtiebgeamfblbdaaGreatDoorFb5
namespace Go.Proofs.YtiebgeamfblbdaaGreatDoor
open Go.RowKit
namespace Ve
def elB (c : Int) : Bool := decide (97 ≤ c ∧ c ≤ 122) || digB c || c == 46 || c == 45 || c == 95
def el (c : UInt8) : Bool := elB (c.toNat : Int)
def allEl (l : List UInt8) : Bool := l.all el
def elemOk (l : List UInt8) : Bool := !(Lib.trimB l 46 == []) && (!Lib.contains l [46, 46, 46] && allEl l)
def long (l : List UInt8) : Bool := decide (10 < l.length)
theorem inElem_any (c : Int) (w : World) (h0 : 0 ≤ c) (h1 : c ≤ 255) :
    Calls Tryz.prog 71 #[.int .u8 c] w fun e w' => e = .returned (.bool (elB c)) ∧ w' = w := by
  have HP := hid (show elB c = (decide (97 ≤ c ∧ c ≤ 122) || digB c || c == 46 || c == 45 || c == 95) from rfl)
  have HC := hid (isDigit_any c w h0 h1)
  have HS := hid (small_any c w h0 h1)
  cases hs : decide (97 ≤ c ∧ c ≤ 122)
  · rw [hs] at HS HP
    clear hs
    cases hd : digB c
    · rw [hd] at HC HP
      clear hd
      cases e1 : (c == 46)
      · rw [e1] at HP
        cases e2 : (c == 45)
        · rw [e2] at HP
          go_enter Tryz.func71, Tryz.ntmps71
          go_wp2_with fail
          refine HS.out.mono ?_
          rintro e w' ⟨rfl, rfl⟩
          go_wp2_with fail
          refine HC.out.mono ?_
          rintro e w' ⟨rfl, rfl⟩
          go_wp2_with fail
          go_ret
          exact ⟨ret_bool (by rw [HP.out]; rfl), rfl⟩
        · rw [e2] at HP
          go_enter Tryz.func71, Tryz.ntmps71
          go_wp2_with fail
          refine HS.out.mono ?_
          rintro e w' ⟨rfl, rfl⟩
          go_wp2_with fail
          refine HC.out.mono ?_
          rintro e w' ⟨rfl, rfl⟩
          go_wp2_with fail
          go_ret
          exact ⟨ret_bool (by rw [HP.out]; rfl), rfl⟩
      · rw [e1] at HP
        go_enter Tryz.func71, Tryz.ntmps71
        go_wp2_with fail
        refine HS.out.mono ?_
        rintro e w' ⟨rfl, rfl⟩
        go_wp2_with fail
        refine HC.out.mono ?_
        rintro e w' ⟨rfl, rfl⟩
        go_wp2_with fail
        go_ret
        exact ⟨ret_bool (by rw [HP.out]; rfl), rfl⟩
    · rw [hd] at HC HP
      clear hd
      go_enter Tryz.func71, Tryz.ntmps71
      go_wp2_with fail
      refine HS.out.mono ?_
      rintro e w' ⟨rfl, rfl⟩
      go_wp2_with fail
      refine HC.out.mono ?_
      rintro e w' ⟨rfl, rfl⟩
      go_wp2_with fail
      go_ret
      exact ⟨ret_bool (by rw [HP.out]; rfl), rfl⟩
  · rw [hs] at HS HP
    clear hs
    go_enter Tryz.func71, Tryz.ntmps71
    go_wp2_with fail
    refine HS.out.mono ?_
    rintro e w' ⟨rfl, rfl⟩
    go_wp2_with fail
    go_ret
    exact ⟨ret_bool (by rw [HP.out]; rfl), rfl⟩
set_option maxHeartbeats 400000 in
theorem every_el (s : ByteArray) (w : World) (hs : s.size ≤ maxLen) :
    Calls Tryz.prog 70 #[.string s, .func (.func 71) #[] #[]] w fun e w' => e = .returned (.bool (allEl s.data.toList)) ∧ w' = w := by
  unfold maxLen at hs
  go_enter Tryz.func70, Tryz.ntmps70
  go_wp2_with fail
  go_loop [8] (fun i => ∃ k : Nat, k ≤ s.size ∧ i = .int .i64 k ∧ Hid ((s.data.toList.take k).all el = true)) (fun i => s.size - (intOf i).toNat)
  case atStart => exact ⟨0, Nat.zero_le _, rfl, hid rfl⟩
  case round =>
    obtain ⟨k, hk, rfl, HA⟩ := hrel
    by_cases hlt : k < s.size
    · have HS := hid (all_snoc el (s.data.toList.take k) s[k])
      rw [← take_snoc s k hlt, HA.out, Bool.true_and] at HS
      cases hd : el s[k]
      · rw [hd] at HS
        have HX := hid (show allEl s.data.toList = false by
          have h2 : allEl s.data.toList = ((s.data.toList.take (k + 1)).all el && (s.data.toList.drop (k + 1)).all el) := by rw [← List.all_append, List.take_append_drop]; rfl
          rw [h2, HS.out]; rfl)
        have HC := hid (fun W => inElem_any (s[k].toNat : Int) W (by omega) (by have := s[k].toNat_lt; omega))
        have HD := hid (show elB (s[k].toNat : Int) = false from hd)
        clear hd
        go_wp2_with fail
        refine (HC.out _).mono ?_
        rintro e w' ⟨rfl, rfl⟩
        rw [HD.out]
        go_wp2_with fail
        go_ret
        exact ⟨ret_bool HX.out.symm, rfl⟩
      · rw [hd] at HS
        have HC := hid (fun W => inElem_any (s[k].toNat : Int) W (by omega) (by have := s[k].toNat_lt; omega))
        have HD := hid (show elB (s[k].toNat : Int) = true from hd)
        clear hd
        go_wp2_with fail
        refine (HC.out _).mono ?_
        rintro e w' ⟨rfl, rfl⟩
        rw [HD.out]
        go_wp2_with fail
        go_round
        case rel => exact ⟨k + 1, by omega, by go_num, HS⟩
        case measure => simp [intOf]; omega
    · have HX := hid (show allEl s.data.toList = true by
        have h2 : s.data.toList.take k = s.data.toList := List.take_of_length_le (by simp; omega)
        have := HA.out; rw [h2] at this; exact this)
      go_wp2_with fail
      go_ret
      exact ⟨ret_bool HX.out.symm, rfl⟩
theorem trim_any (s : ByteArray) (w : World) (hs : s.size ≤ maxLen) :
    Calls Tryz.prog 68 #[.string s, .string ⟨#[46]⟩] w fun e w' => ∃ T : ByteArray, e = .returned (.string T) ∧ (T.toList == []) = (Lib.trimB s.data.toList 46 == []) ∧ ∃ d, w' = w.drewN d :=
  (Tryz.strings_Trim_one s 46 (by decide) w (by unfold maxLen at hs; omega)).mono fun e w' ⟨h1, h2⟩ => ⟨_, h1, by rw [ByteArray.toList_eq], by
    rcases h2 with h2 | h2
    · exact ⟨0, h2⟩
    · exact ⟨1, h2⟩⟩
set_option maxHeartbeats 1000000 in
theorem isElem_any (s : ByteArray) (m : Int) (w : World) (hs : s.size < 4294967281) (hm : w.cell? ⟨9, 0, none⟩ = some (.int .i64 m)) :
    Calls Tryz.prog 52 #[.string s] w fun e w' => e = .returned (.bool (elemOk s.data.toList)) ∧ Below w.heap.size w w' := by
  have HO := hid (show elemOk s.data.toList = (!(Lib.trimB s.data.toList 46 == []) && (!Lib.contains s.data.toList [46, 46, 46] && allEl s.data.toList)) from rfl)
  have HT := hid (trim_any s w (by unfold maxLen; omega))
  have HC := hid (fun (d : Nat) => Tryz.strings_Contains s ⟨#[46, 46, 46]⟩ m (w.drewN d) hs hm)
  have HE := hid (fun W => every_el s W (by unfold maxLen; omega))
  rw [show (⟨#[46, 46, 46]⟩ : ByteArray).data.toList = [46, 46, 46] from rfl] at HC
  clear hm
  cases h1 : (Lib.trimB s.data.toList 46 == [])
  · rw [h1] at HO HT
    clear h1
    cases h2 : Lib.contains s.data.toList [46, 46, 46]
    · rw [h2] at HO HC
      clear h2
      go_enter Tryz.func52, Tryz.ntmps52
      go_wp2_with fail
      refine HT.out.mono ?_
      rintro e w1 ⟨T, rfl, hT, d, rfl⟩
      go_wp2_with fail
      refine (HC.out d).mono ?_
      rintro e w' ⟨rfl, hw⟩
      subst hw
      go_wp2_with fail
      refine (HE.out _).mono ?_
      rintro e w' ⟨rfl, hw⟩
      subst hw
      go_wp2_with fail
      go_ret
      exact ⟨ret_bool (by rw [HO.out]; rfl), below_drawn _ _⟩
    · rw [h2] at HO HC
      clear h2
      go_enter Tryz.func52, Tryz.ntmps52
      go_wp2_with fail
      refine HT.out.mono ?_
      rintro e w1 ⟨T, rfl, hT, d, rfl⟩
      go_wp2_with fail
      refine (HC.out d).mono ?_
      rintro e w' ⟨rfl, hw⟩
      subst hw
      go_wp2_with fail
      go_ret
      exact ⟨ret_bool (by rw [HO.out]; rfl), below_drawn _ _⟩
  · rw [h1] at HO HT
    clear h1
    go_enter Tryz.func52, Tryz.ntmps52
    go_wp2_with fail
    refine HT.out.mono ?_
    rintro e w1 ⟨T, rfl, hT, d, rfl⟩
    go_wp2_with fail
    go_ret
    exact ⟨ret_bool (by rw [HO.out]; rfl), below_drawn _ _⟩
theorem k1_any (s : ByteArray) (m : Int) (w : World) (hs : s.size < 4294967281) (hm : w.cell? ⟨9, 0, none⟩ = some (.int .i64 m)) :
    Calls Tryz.prog 51 #[.string s] w fun e w' => e = .returned (.bool (!elemOk s.data.toList)) ∧ Below w.heap.size w w' := by
  have HE := hid (isElem_any s m w hs hm)
  clear hm
  go_enter Tryz.func51, Tryz.ntmps51
  go_wp2_with fail
  refine HE.out.mono ?_
  rintro e w1 ⟨rfl, hb⟩
  have HB := hid hb
  clear hb
  go_wp2_with fail
  go_ret
  exact ⟨rfl, HB.out⟩
theorem k2_any (s : ByteArray) (w : World) :
    Calls Tryz.prog 53 #[.string s] w fun e w' => e = .returned (.bool (long s.data.toList)) ∧ Below w.heap.size w w' := by
  have HL := hid (show long s.data.toList = decide (10 < (s.size : Int)) by unfold long; rw [len_eq]; exact decide_eq_decide.2 (by omega))
  go_enter Tryz.func53, Tryz.ntmps53
  go_wp2_with fail
  go_ret
  exact ⟨ret_bool HL.out.symm, Below.refl _ _⟩
theorem any_step (f : List UInt8 → Bool) (X : List ByteArray) (k : Nat) (h : k < X.length) : (bl (X.drop k)).any f = (f X[k].data.toList || (bl (X.drop (k + 1))).any f) := by
  rw [List.drop_eq_getElem_cons h]; rfl
set_option maxHeartbeats 1000000 in
theorem idx1 (b0 c0 : Nat) (X : List ByteArray) (m : Int) (w : World) (hX : X.length ≤ 4294967296) (hc0 : ∀ j (h : j < X.length), w.cell? ⟨b0, 0 + j, none⟩ = some (.string X[j])) (hm : w.cell? ⟨9, 0, none⟩ = some (.int .i64 m)) (hXs : ∀ x, x ∈ X → x.size < 4294967281) :
    Calls Tryz.prog 67 #[.slice (some ⟨b0, 0, none⟩) X.length c0, .func (.func 51) #[] #[]] w fun e w' => ∃ i : Int, e = .returned (.int .i64 i) ∧ decide (0 ≤ i) = (bl X).any (fun l => !elemOk l) ∧ Below w.heap.size w w' := by
  have HC0 := hid hc0
  have HM := hid hm
  have HXS := hid hXs
  clear hm hXs
  clear hc0
  go_enter Tryz.func67, Tryz.ntmps67
  go_wp2_with fail
  go_loopw [8] (fun i wr => ∃ k : Nat, k ≤ X.length ∧ i = .int .i64 k ∧ Hid ((bl X).any (fun l => !elemOk l) = (bl (X.drop k)).any (fun l => !elemOk l)) ∧ Hid (Below w.heap.size w wr)) (fun i _ => X.length - (intOf i).toNat)
  case atStart => exact ⟨0, Nat.zero_le _, rfl, hid rfl, hid (Below.refl _ _)⟩
  case round =>
    obtain ⟨k, hk, rfl, HO, HB⟩ := hrel
    by_cases hlt : k < X.length
    · have hx : wr.cell? ⟨b0, k, none⟩ = some (.string X[k]) := by
        have := HC0.out k hlt
        rw [Nat.zero_add] at this
        exact cell_below HB.out this
      have HP := hid (k1_any X[k] m wr (HXS.out _ (List.getElem_mem hlt)) (cell_below HB.out HM.out))
      have HN := hid (HO.out.trans (any_step (fun l => !elemOk l) X k hlt))
      generalize hq : (!elemOk X[k].data.toList) = q at *
      clear hq HO
      cases q
      · go_wp2_with fail
        refine HP.out.mono ?_
        rintro e w1 ⟨rfl, hb1⟩
        have HB1 := hid (HB.out.trans (hb1.mono HB.out.size))
        clear hb1
        go_wp2_with fail
        go_roundw
        case rel => exact ⟨k + 1, by omega, by go_num, hid (HN.out.trans (Bool.false_or _)), HB1⟩
        case measure => simp [intOf]; omega
      · go_wp2_with fail
        refine HP.out.mono ?_
        rintro e w1 ⟨rfl, hb1⟩
        have HB1 := hid (HB.out.trans (hb1.mono HB.out.size))
        clear hb1
        go_wp2_with fail
        go_ret
        exact ⟨k, rfl, by rw [HN.out, Bool.true_or]; exact decide_eq_true (by omega), HB1.out⟩
    · have HE := hid (show (bl (X.drop k)).any (fun l => !elemOk l) = false by rw [List.drop_eq_nil_of_le (by omega)]; rfl)
      go_wp2_with fail
      go_ret
      exact ⟨-1, rfl, by rw [HO.out, HE.out]; rfl, HB.out⟩
theorem has1 (b0 c0 : Nat) (X : List ByteArray) (m : Int) (w : World) (hX : X.length ≤ 4294967296) (hc0 : ∀ j (h : j < X.length), w.cell? ⟨b0, 0 + j, none⟩ = some (.string X[j])) (hm : w.cell? ⟨9, 0, none⟩ = some (.int .i64 m)) (hXs : ∀ x, x ∈ X → x.size < 4294967281) :
    Calls Tryz.prog 50 #[.slice (some ⟨b0, 0, none⟩) X.length c0, .func (.func 51) #[] #[]] w fun e w' => e = .returned (.bool ((bl X).any (fun l => !elemOk l))) ∧ Below w.heap.size w w' := by
  have HI := hid (idx1 b0 c0 X m w hX hc0 hm hXs)
  clear hc0 hm hXs
  go_enter Tryz.func50, Tryz.ntmps50
  go_wp2_with fail
  refine HI.out.mono ?_
  rintro e w1 ⟨i, rfl, hi, hb⟩
  have HB := hid hb
  have HQ := hid hi
  clear hb hi
  go_wp2_with fail
  go_ret
  exact ⟨ret_bool HQ.out, HB.out⟩
set_option maxHeartbeats 1000000 in
theorem idx2 (b0 c0 : Nat) (X : List ByteArray) (w : World) (hX : X.length ≤ 4294967296) (hc0 : ∀ j (h : j < X.length), w.cell? ⟨b0, 0 + j, none⟩ = some (.string X[j])) :
    Calls Tryz.prog 67 #[.slice (some ⟨b0, 0, none⟩) X.length c0, .func (.func 53) #[] #[]] w fun e w' => ∃ i : Int, e = .returned (.int .i64 i) ∧ decide (0 ≤ i) = (bl X).any long ∧ Below w.heap.size w w' := by
  have HC0 := hid hc0
  clear hc0
  go_enter Tryz.func67, Tryz.ntmps67
  go_wp2_with fail
  go_loopw [8] (fun i wr => ∃ k : Nat, k ≤ X.length ∧ i = .int .i64 k ∧ Hid ((bl X).any long = (bl (X.drop k)).any long) ∧ Hid (Below w.heap.size w wr)) (fun i _ => X.length - (intOf i).toNat)
  case atStart => exact ⟨0, Nat.zero_le _, rfl, hid rfl, hid (Below.refl _ _)⟩
  case round =>
    obtain ⟨k, hk, rfl, HO, HB⟩ := hrel
    by_cases hlt : k < X.length
    · have hx : wr.cell? ⟨b0, k, none⟩ = some (.string X[k]) := by
        have := HC0.out k hlt
        rw [Nat.zero_add] at this
        exact cell_below HB.out this
      have HP := hid (k2_any X[k] wr)
      have HN := hid (HO.out.trans (any_step long X k hlt))
      generalize hq : long X[k].data.toList = q at *
      clear hq HO
      cases q
      · go_wp2_with fail
        refine HP.out.mono ?_
        rintro e w1 ⟨rfl, hb1⟩
        have HB1 := hid (HB.out.trans (hb1.mono HB.out.size))
        clear hb1
        go_wp2_with fail
        go_roundw
        case rel => exact ⟨k + 1, by omega, by go_num, hid (HN.out.trans (Bool.false_or _)), HB1⟩
        case measure => simp [intOf]; omega
      · go_wp2_with fail
        refine HP.out.mono ?_
        rintro e w1 ⟨rfl, hb1⟩
        have HB1 := hid (HB.out.trans (hb1.mono HB.out.size))
        clear hb1
        go_wp2_with fail
        go_ret
        exact ⟨k, rfl, by rw [HN.out, Bool.true_or]; exact decide_eq_true (by omega), HB1.out⟩
    · have HE := hid (show (bl (X.drop k)).any long = false by rw [List.drop_eq_nil_of_le (by omega)]; rfl)
      go_wp2_with fail
      go_ret
      exact ⟨-1, rfl, by rw [HO.out, HE.out]; rfl, HB.out⟩
theorem has2 (b0 c0 : Nat) (X : List ByteArray) (w : World) (hX : X.length ≤ 4294967296) (hc0 : ∀ j (h : j < X.length), w.cell? ⟨b0, 0 + j, none⟩ = some (.string X[j])) :
    Calls Tryz.prog 50 #[.slice (some ⟨b0, 0, none⟩) X.length c0, .func (.func 53) #[] #[]] w fun e w' => e = .returned (.bool ((bl X).any long)) ∧ Below w.heap.size w w' := by
  have HI := hid (idx2 b0 c0 X w hX hc0)
  clear hc0
  go_enter Tryz.func50, Tryz.ntmps50
  go_wp2_with fail
  refine HI.out.mono ?_
  rintro e w1 ⟨i, rfl, hi, hb⟩
  have HB := hid hb
  have HQ := hid hi
  clear hb hi
  go_wp2_with fail
  go_ret
  exact ⟨ret_bool HQ.out, HB.out⟩
def likeB (l : List UInt8) : Bool := marked l && digs (restOf l)
theorem like_any (s : ByteArray) (w : World) (hs : s.size < 4294967281) :
    Calls Tryz.prog 54 #[.string s] w fun e w' => e = .returned (.bool (likeB s.data.toList)) ∧ w' = w := by
  have HL := hid (show likeB s.data.toList = (marked s.data.toList && digs (restOf s.data.toList)) from rfl)
  have HC := hid (cutPrefix_any s w)
  cases hm : marked s.data.toList
  · rw [hm] at HC HL
    clear hm
    go_enter Tryz.func54, Tryz.ntmps54
    go_wp2_with fail
    refine HC.out.mono ?_
    rintro e w' ⟨R, rfl, hR, rfl⟩
    go_wp2_with fail
    go_ret
    exact ⟨ret_bool (by rw [HL.out]; rfl), rfl⟩
  · rw [hm] at HC HL
    clear hm
    go_enter Tryz.func54, Tryz.ntmps54
    go_wp2_with fail
    refine HC.out.mono ?_
    rintro e w' ⟨R, rfl, hR, rfl⟩
    have HR := hid hR
    have HZ := hid (show R.size ≤ maxLen by
      have h1 := size_of hR
      have h2 := restOf_le s.data.toList
      simp at h2; unfold maxLen; omega)
    clear hR
    go_wp2_with fail
    refine (digits_any R _ HZ.out).mono ?_
    rintro e w' ⟨rfl, rfl⟩
    go_wp2_with fail
    go_ret
    exact ⟨ret_bool (by rw [HL.out, HR.out]; rfl), rfl⟩
end Ve
end Go.Proofs.YtiebgeamfblbdaaGreatDoor
