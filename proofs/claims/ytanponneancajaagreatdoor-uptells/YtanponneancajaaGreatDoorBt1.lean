
import Derived.Test.YtanponneancajaaGreatDoorVerE
import Derived.Test.YtanponneancajaaGreatDoorShelfM
import Derived.Test.YtanponneancajaaGreatDoorVerG
import Derived.Test.YtanponneancajaaGreatDoorVerQ
import Derived.OwnWalk
import Derived.Test.YtanponneancajaaGreatDoorSplitAny
import Derived.Test.YtanponneancajaaGreatDoorLessAny
import Derived.Test.YtanponneancajaaGreatDoorFileQ
import Derived.Laws.StructEq
namespace Go.Proofs.YtanponneancajaaGreatDoor
open Go.RowKit
namespace Ve
def elB (c : Int) : Bool := decide (97 ≤ c ∧ c ≤ 122) || digB c || c == 46 || c == 45 || c == 95
def el (c : UInt8) : Bool := elB (c.toNat : Int)
def allEl (l : List UInt8) : Bool := l.all el
def elemOk (l : List UInt8) : Bool := !(Lib.trimB l 46 == []) && (!Lib.contains l [46, 46, 46] && allEl l)
def long (l : List UInt8) : Bool := decide (10 < l.length)
theorem inElem_any (c : Int) (w : World) (h0 : 0 ≤ c) (h1 : c ≤ 255) :
    Calls Tryz.prog 229 #[.int .u8 c] w fun e w' => e = .returned (.bool (elB c)) ∧ w' = w := by
  have HP := hid (show elB c = (decide (97 ≤ c ∧ c ≤ 122) || digB c || c == 46 || c == 45 || c == 95) from rfl)
  have HC := hid (isDigit_any c w h0 h1)
  have HS := hid (small_any c w h0 h1)
  cases hs : decide (97 ≤ c ∧ c ≤ 122)
  · rw [hs] at HS HP
    clear hs
    cases hd : digB c
    · rw [hd] at HC HP
      clear hd
      cases e1 : (c == 46)
      · rw [e1] at HP
        cases e2 : (c == 45)
        · rw [e2] at HP
          go_enter Tryz.func229, Tryz.ntmps229
          go_wp2_with fail
          refine HS.out.mono ?_
          rintro e w' ⟨rfl, rfl⟩
          go_wp2_with fail
          refine HC.out.mono ?_
          rintro e w' ⟨rfl, rfl⟩
          go_wp2_with fail
          go_ret
          exact ⟨ret_bool (by rw [HP.out]; rfl), rfl⟩
        · rw [e2] at HP
          go_enter Tryz.func229, Tryz.ntmps229
          go_wp2_with fail
          refine HS.out.mono ?_
          rintro e w' ⟨rfl, rfl⟩
          go_wp2_with fail
          refine HC.out.mono ?_
          rintro e w' ⟨rfl, rfl⟩
          go_wp2_with fail
          go_ret
          exact ⟨ret_bool (by rw [HP.out]; rfl), rfl⟩
      · rw [e1] at HP
        go_enter Tryz.func229, Tryz.ntmps229
        go_wp2_with fail
        refine HS.out.mono ?_
        rintro e w' ⟨rfl, rfl⟩
        go_wp2_with fail
        refine HC.out.mono ?_
        rintro e w' ⟨rfl, rfl⟩
        go_wp2_with fail
        go_ret
        exact ⟨ret_bool (by rw [HP.out]; rfl), rfl⟩
    · rw [hd] at HC HP
      clear hd
      go_enter Tryz.func229, Tryz.ntmps229
      go_wp2_with fail
      refine HS.out.mono ?_
      rintro e w' ⟨rfl, rfl⟩
      go_wp2_with fail
      refine HC.out.mono ?_
      rintro e w' ⟨rfl, rfl⟩
      go_wp2_with fail
      go_ret
      exact ⟨ret_bool (by rw [HP.out]; rfl), rfl⟩
  · rw [hs] at HS HP
    clear hs
    go_enter Tryz.func229, Tryz.ntmps229
    go_wp2_with fail
    refine HS.out.mono ?_
    rintro e w' ⟨rfl, rfl⟩
    go_wp2_with fail
    go_ret
    exact ⟨ret_bool (by rw [HP.out]; rfl), rfl⟩
set_option maxHeartbeats 400000 in
theorem every_el (s : ByteArray) (w : World) (hs : s.size ≤ maxLen) :
    Calls Tryz.prog 137 #[.string s, .func (.func 229) #[] #[]] w fun e w' => e = .returned (.bool (allEl s.data.toList)) ∧ w' = w := by
  unfold maxLen at hs
  go_enter Tryz.func137, Tryz.ntmps137
  go_wp2_with fail
  go_loop [8] (fun i => ∃ k : Nat, k ≤ s.size ∧ i = .int .i64 k ∧ Hid ((s.data.toList.take k).all el = true)) (fun i => s.size - (intOf i).toNat)
  case atStart => exact ⟨0, Nat.zero_le _, rfl, hid rfl⟩
  case round =>
    obtain ⟨k, hk, rfl, HA⟩ := hrel
    by_cases hlt : k < s.size
    · have HS := hid (all_snoc el (s.data.toList.take k) s[k])
      rw [← take_snoc s k hlt, HA.out, Bool.true_and] at HS
      cases hd : el s[k]
      · rw [hd] at HS
        have HX := hid (show allEl s.data.toList = false by
          have h2 : allEl s.data.toList = ((s.data.toList.take (k + 1)).all el && (s.data.toList.drop (k + 1)).all el) := by rw [← List.all_append, List.take_append_drop]; rfl
          rw [h2, HS.out]; rfl)
        have HC := hid (fun W => inElem_any (s[k].toNat : Int) W (by omega) (by have := s[k].toNat_lt; omega))
        have HD := hid (show elB (s[k].toNat : Int) = false from hd)
        clear hd
        go_wp2_with fail
        refine (HC.out _).mono ?_
        rintro e w' ⟨rfl, rfl⟩
        rw [HD.out]
        go_wp2_with fail
        go_ret
        exact ⟨ret_bool HX.out.symm, rfl⟩
      · rw [hd] at HS
        have HC := hid (fun W => inElem_any (s[k].toNat : Int) W (by omega) (by have := s[k].toNat_lt; omega))
        have HD := hid (show elB (s[k].toNat : Int) = true from hd)
        clear hd
        go_wp2_with fail
        refine (HC.out _).mono ?_
        rintro e w' ⟨rfl, rfl⟩
        rw [HD.out]
        go_wp2_with fail
        go_round
        case rel => exact ⟨k + 1, by omega, by go_num, HS⟩
        case measure => simp [intOf]; omega
    · have HX := hid (show allEl s.data.toList = true by
        have h2 : s.data.toList.take k = s.data.toList := List.take_of_length_le (by simp; omega)
        have := HA.out; rw [h2] at this; exact this)
      go_wp2_with fail
      go_ret
      exact ⟨ret_bool HX.out.symm, rfl⟩
theorem trim_any (s : ByteArray) (w : World) (hs : s.size ≤ maxLen) :
    Calls Tryz.prog 227 #[.string s, .string ⟨#[46]⟩] w fun e w' => ∃ T : ByteArray, e = .returned (.string T) ∧ (T.toList == []) = (Lib.trimB s.data.toList 46 == []) ∧ ∃ d, w' = w.drewN d :=
  (Tryz.strings_Trim_one s 46 (by decide) w (by unfold maxLen at hs; omega)).mono fun e w' ⟨h1, h2⟩ => ⟨_, h1, by rw [ByteArray.toList_eq], by
    rcases h2 with h2 | h2
    · exact ⟨0, h2⟩
    · exact ⟨1, h2⟩⟩
set_option maxHeartbeats 1000000 in
theorem isElem_any (s : ByteArray) (m : Int) (w : World) (hs : s.size < 4294967281) (hm : w.cell? ⟨11, 0, none⟩ = some (.int .i64 m)) :
    Calls Tryz.prog 204 #[.string s] w fun e w' => e = .returned (.bool (elemOk s.data.toList)) ∧ Below w.heap.size w w' := by
  have HO := hid (show elemOk s.data.toList = (!(Lib.trimB s.data.toList 46 == []) && (!Lib.contains s.data.toList [46, 46, 46] && allEl s.data.toList)) from rfl)
  have HT := hid (trim_any s w (by unfold maxLen; omega))
  have HC := hid (fun (d : Nat) => Tryz.strings_Contains s ⟨#[46, 46, 46]⟩ m (w.drewN d) hs hm)
  have HE := hid (fun W => every_el s W (by unfold maxLen; omega))
  rw [show (⟨#[46, 46, 46]⟩ : ByteArray).data.toList = [46, 46, 46] from rfl] at HC
  clear hm
  cases h1 : (Lib.trimB s.data.toList 46 == [])
  · rw [h1] at HO HT
    clear h1
    cases h2 : Lib.contains s.data.toList [46, 46, 46]
    · rw [h2] at HO HC
      clear h2
      go_enter Tryz.func204, Tryz.ntmps204
      go_wp2_with fail
      refine HT.out.mono ?_
      rintro e w1 ⟨T, rfl, hT, d, rfl⟩
      go_wp2_with fail
      refine (HC.out d).mono ?_
      rintro e w' ⟨rfl, hw⟩
      subst hw
      go_wp2_with fail
      refine (HE.out _).mono ?_
      rintro e w' ⟨rfl, hw⟩
      subst hw
      go_wp2_with fail
      go_ret
      exact ⟨ret_bool (by rw [HO.out]; rfl), below_drawn _ _⟩
    · rw [h2] at HO HC
      clear h2
      go_enter Tryz.func204, Tryz.ntmps204
      go_wp2_with fail
      refine HT.out.mono ?_
      rintro e w1 ⟨T, rfl, hT, d, rfl⟩
      go_wp2_with fail
      refine (HC.out d).mono ?_
      rintro e w' ⟨rfl, hw⟩
      subst hw
      go_wp2_with fail
      go_ret
      exact ⟨ret_bool (by rw [HO.out]; rfl), below_drawn _ _⟩
  · rw [h1] at HO HT
    clear h1
    go_enter Tryz.func204, Tryz.ntmps204
    go_wp2_with fail
    refine HT.out.mono ?_
    rintro e w1 ⟨T, rfl, hT, d, rfl⟩
    go_wp2_with fail
    go_ret
    exact ⟨ret_bool (by rw [HO.out]; rfl), below_drawn _ _⟩
theorem k1_any (s : ByteArray) (m : Int) (w : World) (hs : s.size < 4294967281) (hm : w.cell? ⟨11, 0, none⟩ = some (.int .i64 m)) :
    Calls Tryz.prog 203 #[.string s] w fun e w' => e = .returned (.bool (!elemOk s.data.toList)) ∧ Below w.heap.size w w' := by
  have HE := hid (isElem_any s m w hs hm)
  clear hm
  go_enter Tryz.func203, Tryz.ntmps203
  go_wp2_with fail
  refine HE.out.mono ?_
  rintro e w1 ⟨rfl, hb⟩
  have HB := hid hb
  clear hb
  go_wp2_with fail
  go_ret
  exact ⟨rfl, HB.out⟩
theorem k2_any (s : ByteArray) (w : World) :
    Calls Tryz.prog 205 #[.string s] w fun e w' => e = .returned (.bool (long s.data.toList)) ∧ Below w.heap.size w w' := by
  have HL := hid (show long s.data.toList = decide (10 < (s.size : Int)) by unfold long; rw [len_eq]; exact decide_eq_decide.2 (by omega))
  go_enter Tryz.func205, Tryz.ntmps205
  go_wp2_with fail
  go_ret
  exact ⟨ret_bool HL.out.symm, Below.refl _ _⟩
theorem any_step (f : List UInt8 → Bool) (X : List ByteArray) (k : Nat) (h : k < X.length) : (bl (X.drop k)).any f = (f X[k].data.toList || (bl (X.drop (k + 1))).any f) := by
  rw [List.drop_eq_getElem_cons h]; rfl
set_option maxHeartbeats 1000000 in
theorem idx1 (b0 c0 : Nat) (X : List ByteArray) (m : Int) (w : World) (hX : X.length ≤ 4294967296) (hc0 : ∀ j (h : j < X.length), w.cell? ⟨b0, 0 + j, none⟩ = some (.string X[j])) (hm : w.cell? ⟨11, 0, none⟩ = some (.int .i64 m)) (hXs : ∀ x, x ∈ X → x.size < 4294967281) :
    Calls Tryz.prog 208 #[.slice (some ⟨b0, 0, none⟩) X.length c0, .func (.func 203) #[] #[]] w fun e w' => ∃ i : Int, e = .returned (.int .i64 i) ∧ decide (0 ≤ i) = (bl X).any (fun l => !elemOk l) ∧ Below w.heap.size w w' := by
  have HC0 := hid hc0
  have HM := hid hm
  have HXS := hid hXs
  clear hm hXs
  clear hc0
  go_enter Tryz.func208, Tryz.ntmps208
  go_wp2_with fail
  go_loopw [8] (fun i wr => ∃ k : Nat, k ≤ X.length ∧ i = .int .i64 k ∧ Hid ((bl X).any (fun l => !elemOk l) = (bl (X.drop k)).any (fun l => !elemOk l)) ∧ Hid (Below w.heap.size w wr)) (fun i _ => X.length - (intOf i).toNat)
  case atStart => exact ⟨0, Nat.zero_le _, rfl, hid rfl, hid (Below.refl _ _)⟩
  case round =>
    obtain ⟨k, hk, rfl, HO, HB⟩ := hrel
    by_cases hlt : k < X.length
    · have hx : wr.cell? ⟨b0, k, none⟩ = some (.string X[k]) := by
        have := HC0.out k hlt
        rw [Nat.zero_add] at this
        exact cell_below HB.out this
      have HP := hid (k1_any X[k] m wr (HXS.out _ (List.getElem_mem hlt)) (cell_below HB.out HM.out))
      have HN := hid (HO.out.trans (any_step (fun l => !elemOk l) X k hlt))
      generalize hq : (!elemOk X[k].data.toList) = q at *
      clear hq HO
      cases q
      · go_wp2_with fail
        refine HP.out.mono ?_
        rintro e w1 ⟨rfl, hb1⟩
        have HB1 := hid (HB.out.trans (hb1.mono HB.out.size))
        clear hb1
        go_wp2_with fail
        go_roundw
        case rel => exact ⟨k + 1, by omega, by go_num, hid (HN.out.trans (Bool.false_or _)), HB1⟩
        case measure => simp [intOf]; omega
      · go_wp2_with fail
        refine HP.out.mono ?_
        rintro e w1 ⟨rfl, hb1⟩
        have HB1 := hid (HB.out.trans (hb1.mono HB.out.size))
        clear hb1
        go_wp2_with fail
        go_ret
        exact ⟨k, rfl, by rw [HN.out, Bool.true_or]; exact decide_eq_true (by omega), HB1.out⟩
    · have HE := hid (show (bl (X.drop k)).any (fun l => !elemOk l) = false by rw [List.drop_eq_nil_of_le (by omega)]; rfl)
      go_wp2_with fail
      go_ret
      exact ⟨-1, rfl, by rw [HO.out, HE.out]; rfl, HB.out⟩
theorem has1 (b0 c0 : Nat) (X : List ByteArray) (m : Int) (w : World) (hX : X.length ≤ 4294967296) (hc0 : ∀ j (h : j < X.length), w.cell? ⟨b0, 0 + j, none⟩ = some (.string X[j])) (hm : w.cell? ⟨11, 0, none⟩ = some (.int .i64 m)) (hXs : ∀ x, x ∈ X → x.size < 4294967281) :
    Calls Tryz.prog 154 #[.slice (some ⟨b0, 0, none⟩) X.length c0, .func (.func 203) #[] #[]] w fun e w' => e = .returned (.bool ((bl X).any (fun l => !elemOk l))) ∧ Below w.heap.size w w' := by
  have HI := hid (idx1 b0 c0 X m w hX hc0 hm hXs)
  clear hc0 hm hXs
  go_enter Tryz.func154, Tryz.ntmps154
  go_wp2_with fail
  refine HI.out.mono ?_
  rintro e w1 ⟨i, rfl, hi, hb⟩
  have HB := hid hb
  have HQ := hid hi
  clear hb hi
  go_wp2_with fail
  go_ret
  exact ⟨ret_bool HQ.out, HB.out⟩
set_option maxHeartbeats 1000000 in
theorem idx2 (b0 c0 : Nat) (X : List ByteArray) (w : World) (hX : X.length ≤ 4294967296) (hc0 : ∀ j (h : j < X.length), w.cell? ⟨b0, 0 + j, none⟩ = some (.string X[j])) :
    Calls Tryz.prog 208 #[.slice (some ⟨b0, 0, none⟩) X.length c0, .func (.func 205) #[] #[]] w fun e w' => ∃ i : Int, e = .returned (.int .i64 i) ∧ decide (0 ≤ i) = (bl X).any long ∧ Below w.heap.size w w' := by
  have HC0 := hid hc0
  clear hc0
  go_enter Tryz.func208, Tryz.ntmps208
  go_wp2_with fail
  go_loopw [8] (fun i wr => ∃ k : Nat, k ≤ X.length ∧ i = .int .i64 k ∧ Hid ((bl X).any long = (bl (X.drop k)).any long) ∧ Hid (Below w.heap.size w wr)) (fun i _ => X.length - (intOf i).toNat)
  case atStart => exact ⟨0, Nat.zero_le _, rfl, hid rfl, hid (Below.refl _ _)⟩
  case round =>
    obtain ⟨k, hk, rfl, HO, HB⟩ := hrel
    by_cases hlt : k < X.length
    · have hx : wr.cell? ⟨b0, k, none⟩ = some (.string X[k]) := by
        have := HC0.out k hlt
        rw [Nat.zero_add] at this
        exact cell_below HB.out this
      have HP := hid (k2_any X[k] wr)
      have HN := hid (HO.out.trans (any_step long X k hlt))
      generalize hq : long X[k].data.toList = q at *
      clear hq HO
      cases q
      · go_wp2_with fail
        refine HP.out.mono ?_
        rintro e w1 ⟨rfl, hb1⟩
        have HB1 := hid (HB.out.trans (hb1.mono HB.out.size))
        clear hb1
        go_wp2_with fail
        go_roundw
        case rel => exact ⟨k + 1, by omega, by go_num, hid (HN.out.trans (Bool.false_or _)), HB1⟩
        case measure => simp [intOf]; omega
      · go_wp2_with fail
        refine HP.out.mono ?_
        rintro e w1 ⟨rfl, hb1⟩
        have HB1 := hid (HB.out.trans (hb1.mono HB.out.size))
        clear hb1
        go_wp2_with fail
        go_ret
        exact ⟨k, rfl, by rw [HN.out, Bool.true_or]; exact decide_eq_true (by omega), HB1.out⟩
    · have HE := hid (show (bl (X.drop k)).any long = false by rw [List.drop_eq_nil_of_le (by omega)]; rfl)
      go_wp2_with fail
      go_ret
      exact ⟨-1, rfl, by rw [HO.out, HE.out]; rfl, HB.out⟩
theorem has2 (b0 c0 : Nat) (X : List ByteArray) (w : World) (hX : X.length ≤ 4294967296) (hc0 : ∀ j (h : j < X.length), w.cell? ⟨b0, 0 + j, none⟩ = some (.string X[j])) :
    Calls Tryz.prog 154 #[.slice (some ⟨b0, 0, none⟩) X.length c0, .func (.func 205) #[] #[]] w fun e w' => e = .returned (.bool ((bl X).any long)) ∧ Below w.heap.size w w' := by
  have HI := hid (idx2 b0 c0 X w hX hc0)
  clear hc0
  go_enter Tryz.func154, Tryz.ntmps154
  go_wp2_with fail
  refine HI.out.mono ?_
  rintro e w1 ⟨i, rfl, hi, hb⟩
  have HB := hid hb
  have HQ := hid hi
  clear hb hi
  go_wp2_with fail
  go_ret
  exact ⟨ret_bool HQ.out, HB.out⟩
def likeB (l : List UInt8) : Bool := marked l && digs (restOf l)
theorem like_any (s : ByteArray) (w : World) (hs : s.size < 4294967281) :
    Calls Tryz.prog 206 #[.string s] w fun e w' => e = .returned (.bool (likeB s.data.toList)) ∧ w' = w := by
  have HL := hid (show likeB s.data.toList = (marked s.data.toList && digs (restOf s.data.toList)) from rfl)
  have HC := hid (cutPrefix_any s w)
  cases hm : marked s.data.toList
  · rw [hm] at HC HL
    clear hm
    go_enter Tryz.func206, Tryz.ntmps206
    go_wp2_with fail
    refine HC.out.mono ?_
    rintro e w' ⟨R, rfl, hR, rfl⟩
    go_wp2_with fail
    go_ret
    exact ⟨ret_bool (by rw [HL.out]; rfl), rfl⟩
  · rw [hm] at HC HL
    clear hm
    go_enter Tryz.func206, Tryz.ntmps206
    go_wp2_with fail
    refine HC.out.mono ?_
    rintro e w' ⟨R, rfl, hR, rfl⟩
    have HR := hid hR
    have HZ := hid (show R.size ≤ maxLen by
      have h1 := size_of hR
      have h2 := restOf_le s.data.toList
      simp at h2; unfold maxLen; omega)
    clear hR
    go_wp2_with fail
    refine (digits_any R _ HZ.out).mono ?_
    rintro e w' ⟨rfl, rfl⟩
    go_wp2_with fail
    go_ret
    exact ⟨ret_bool (by rw [HL.out, HR.out]; rfl), rfl⟩
end Ve
end Go.Proofs.YtanponneancajaaGreatDoor


namespace Go.Proofs.YtanponneancajaaGreatDoor
open Go.RowKit
namespace Ve
structure Sn (w : World) (A : Nat → Addr) : Prop where
  g0 : w.cell? ⟨0, 0, none⟩ = some (.iface 286 (.pointer (some (A 0))))
  g1 : w.cell? ⟨4, 0, none⟩ = some (.iface 286 (.pointer (some (A 1))))
  g2 : w.cell? ⟨5, 0, none⟩ = some (.iface 286 (.pointer (some (A 2))))
  g3 : w.cell? ⟨6, 0, none⟩ = some (.iface 286 (.pointer (some (A 3))))
  g4 : w.cell? ⟨3, 0, none⟩ = some (.iface 286 (.pointer (some (A 4))))
  g6 : w.cell? ⟨1, 0, none⟩ = some (.iface 286 (.pointer (some (A 6))))
  g7 : w.cell? ⟨2, 0, none⟩ = some (.iface 286 (.pointer (some (A 7))))
  et : w.cell? ⟨10, 0, none⟩ = some (.iface 199 (.agg #[.pointer (some ⟨17, 32, none⟩)]))
structure Te (w : World) (A : Nat → Addr) (m : Int) : Prop where
  sen : Sn w A
  vs : Vs w (A 0) (A 1) m
theorem Te.ml {w : World} {A : Nat → Addr} {m : Int} (h : Te w A m) : w.cell? ⟨11, 0, none⟩ = some (.int .i64 m) := h.vs.ml
theorem Te.below {w w' : World} {A : Nat → Addr} {m : Int} (h : Te w A m) (hb : Below w.heap.size w w') : Te w' A m :=
  ⟨⟨cell_below hb h.sen.g0, cell_below hb h.sen.g1, cell_below hb h.sen.g2, cell_below hb h.sen.g3, cell_below hb h.sen.g4, cell_below hb h.sen.g6, cell_below hb h.sen.g7, cell_below hb h.sen.et⟩, h.vs.below hb⟩
def errA (A : Nat → Addr) (c : Nat) : Value := if c = 0 then .nilIface else .iface 286 (.pointer (some (A (c - 1))))
theorem errA0 (A : Nat → Addr) : errA A 0 = .nilIface := rfl
theorem errA_V (A : Nat → Addr) (c : Nat) (h : c = 0 ∨ c = 1 ∨ c = 2) : errV (A 0) (A 1) c = errA A c := by
  rcases h with rfl | rfl | rfl <;> rfl
theorem errA_ne (A : Nat → Addr) {c : Nat} (h : c ≠ 0) : ∃ a, errA A c = .iface 286 (.pointer (some a)) := ⟨_, by unfold errA; rw [if_neg h]⟩
end Ve
end Go.Proofs.YtanponneancajaaGreatDoor


namespace Go.Proofs.YtanponneancajaaGreatDoor
open Go.RowKit
namespace Ve
def sufOk (l : List UInt8) : Bool := decide ((num (restOf l)).2 = 0) && decide (2 ≤ (num (restOf l)).1)
theorem trimV_any (s : ByteArray) (w : World) : Calls Tryz.prog 230 #[.string s, .string ⟨#[118]⟩] w fun e w' => ∃ R : ByteArray, e = .returned (.string R) ∧ R.data.toList = restOf s.data.toList ∧ w' = w :=
  (Tryz.strings_TrimPrefix s ⟨#[118]⟩ w).mono fun e w' ⟨h1, h2⟩ => ⟨_, h1, by
    have e0 : (⟨#[118]⟩ : ByteArray).data.toList = [118] := rfl
    rw [e0, trimPrefix_v], h2⟩
set_option maxHeartbeats 1000000 in
theorem suffix_any (s : ByteArray) (A : Nat → Addr) (m : Int) (w : World) (hs : s.size < 4294967281) (S : Te w A m) :
    Calls Tryz.prog 207 #[.string s] w fun e w' => e = .returned (.tuple #[.int .i64 (if sufOk s.data.toList then (num (restOf s.data.toList)).1 else 0), if sufOk s.data.toList then .nilIface else .iface 286 (.pointer (some (A 3)))]) ∧ Below w.heap.size w w' := by
  have HO := hid (show sufOk s.data.toList = (decide ((num (restOf s.data.toList)).2 = 0) && decide (2 ≤ (num (restOf s.data.toList)).1)) from rfl)
  have HS := hid S
  have HT := hid (trimV_any s w)
  have HN := hid (fun (R : ByteArray) (h : R.data.toList = restOf s.data.toList) W (SW : Te W A m) => num_any R (A 0) (A 1) m W (by
      have h1 := size_of h
      have h2 := restOf_le s.data.toList
      simp at h2; unfold maxLen; omega) SW.vs)
  have HE := hid (num_err (restOf s.data.toList))
  clear S
  by_cases h1 : (num (restOf s.data.toList)).2 = 0
  · by_cases h2 : 2 ≤ (num (restOf s.data.toList)).1
    · have HK := hid (show sufOk s.data.toList = true by rw [HO.out, decide_eq_true h1, decide_eq_true h2]; rfl)
      have H1 := hid h1
      rw [HK.out]
      clear h1
      go_enter Tryz.func207, Tryz.ntmps207
      go_wp2_with fail
      refine HT.out.mono ?_
      rintro e w' ⟨R, rfl, hR, rfl⟩
      have HR := hid hR
      clear hR
      go_wp2_with fail
      refine (HN.out R HR.out _ HS.out).mono ?_
      rintro e w1 ⟨rfl, hb1⟩
      rw [HR.out, H1.out, errV0]
      have HB := hid hb1
      clear hb1
      generalize hn : (num (restOf s.data.toList)).1 = n at *
      have HNN := hid hn
      clear hn
      go_wp2_with fail
      go_ret2
      exact ⟨by rw [← HNN.out]; rfl, HB.out⟩
    · have HK := hid (show sufOk s.data.toList = false by rw [HO.out, decide_eq_false h2]; simp)
      have H1 := hid h1
      rw [HK.out]
      clear h1
      go_enter Tryz.func207, Tryz.ntmps207
      go_wp2_with fail
      refine HT.out.mono ?_
      rintro e w' ⟨R, rfl, hR, rfl⟩
      have HR := hid hR
      clear hR
      go_wp2_with fail
      refine (HN.out R HR.out _ HS.out).mono ?_
      rintro e w1 ⟨rfl, hb1⟩
      rw [HR.out, H1.out, errV0]
      have HB := hid hb1
      have g3 := (HS.out.below hb1).sen.g3
      clear hb1
      generalize (num (restOf s.data.toList)).1 = n at *
      go_wp2_with fail
      go_quiet (fail)
      go_wp2_with fail
      go_ret2
      exact ⟨rfl, HB.out.trans ((below_drawn _ _).mono HB.out.size)⟩
  · have HK := hid (show sufOk s.data.toList = false by rw [HO.out, decide_eq_false h1]; rfl)
    have H1 := hid h1
    rw [HK.out]
    clear h1
    go_enter Tryz.func207, Tryz.ntmps207
    go_wp2_with fail
    refine HT.out.mono ?_
    rintro e w' ⟨R, rfl, hR, rfl⟩
    have HR := hid hR
    clear hR
    go_wp2_with fail
    refine (HN.out R HR.out _ HS.out).mono ?_
    rintro e w1 ⟨rfl, hb1⟩
    rw [HR.out]
    have HB := hid hb1
    have g3 := (HS.out.below hb1).sen.g3
    clear hb1
    obtain ⟨a9, ha9⟩ : ∃ a, errV (A 0) (A 1) (num (restOf s.data.toList)).2 = .iface 286 (.pointer (some a)) := by
      rcases HE.out with h | h | h
      · exact absurd h H1.out
      · exact ⟨_, by rw [h]; rfl⟩
      · exact ⟨_, by rw [h]; rfl⟩
    rw [ha9]
    clear ha9
    generalize (num (restOf s.data.toList)).1 = n at *
    go_wp2_with fail
    go_quiet (fail)
    go_wp2_with fail
    go_ret2
    exact ⟨rfl, HB.out.trans ((below_drawn _ _).mono HB.out.size)⟩
end Ve
end Go.Proofs.YtanponneancajaaGreatDoor


namespace Go.Proofs.YtanponneancajaaGreatDoor
open Go.RowKit
namespace Ve
def elems (l : List UInt8) : List (List UInt8) := cutAt 47 l
def lastOf (l : List UInt8) : List UInt8 := (elems l).getD ((elems l).length - 1) []
def badE (l : List UInt8) : Bool := (elems l).any fun e => !elemOk e
def longE (l : List UInt8) : Bool := decide (5 < (elems l).length) || (elems l).any long
def sufE (l : List UInt8) : Bool := decide (1 < (elems l).length) && likeB (lastOf l)
def pathErr (l : List UInt8) : Nat := if badE l then 1 else if longE l then 2 else if sufE l && !sufOk (lastOf l) then 4 else 0
def pathN (l : List UInt8) : Int := if sufE l then (num (restOf (lastOf l))).1 else 0
def pathH (l : List UInt8) : List UInt8 := if sufE l then Lib.join ((elems l).take ((elems l).length - 1)) [47] else l
theorem elems_pos (l : List UInt8) : 0 < (elems l).length := List.length_pos_iff.2 (cutAt_ne 47 _)
theorem last_get {l : List UInt8} {X : List ByteArray} (h : bl X = elems l) (hp : X.length - 1 < X.length) : X[X.length - 1].data.toList = lastOf l := by
  unfold lastOf
  have hl : (elems l).length = X.length := by rw [← h, bl_len]
  rw [hl, List.getD_eq_getElem?_getD, ← h]
  unfold bl
  rw [List.getElem?_map, List.getElem?_eq_getElem hp]; rfl
set_option maxHeartbeats 1000000 in
theorem path_bad (s : ByteArray) (A : Nat → Addr) (m : Int) (w : World) (hs : s.size < 4294967281) (S : Te w A m) (h1 : badE s.data.toList = true) :
    Calls Tryz.prog 151 #[.string s] w fun e w' => e = .returned (.tuple #[.string ⟨#[]⟩, .int .i64 0, .iface 286 (.pointer (some (A 0)))]) ∧ Below w.heap.size w w' := by
  have H1 := hid (show ((elems s.data.toList).any fun e => !elemOk e) = true from h1)
  clear h1
  have hmf : ∀ (fn : Fn) (first cap : Array Value) (w : World), (Instr.makeFunc fn first cap).run Tryz.prog w = .ok (.func fn first cap) w := fun _ _ _ _ => rfl
  have HS := hid S
  clear S
  go_enter Tryz.func151, Tryz.ntmps151
  go_wp2_with fail
  refine (split_any 47 s m w hs HS.out.ml).mono ?_
  rintro e w1 ⟨X, rfl, hX, hc, hb, hz⟩
  have HX := hid (show bl X = elems s.data.toList from hX)
  have HC := hid hc
  have HB := hid hb
  have HS1 := hid (HS.out.below hb)
  have hn := many_le hX
  have HXS := hid (show ∀ x, x ∈ X → x.size < 4294967281 from fun x hx => by have := piece_le hX hx; omega)
  have HLN := hid (show X.length = (elems s.data.toList).length by rw [← HX.out, bl_len])
  clear hX hc hb
  go_wp2_with fail
  refine (has1 w.heap.size X.length X m w1 (by omega) HC.out HS1.out.ml HXS.out).mono ?_
  rintro e w2 ⟨rfl, hb2⟩
  have HB2 := hid (HB.out.trans (hb2.mono HB.out.size))
  have HS2 := hid (HS1.out.below hb2)
  have HC2 := hid (show ∀ j (h : j < X.length), w2.cell? ⟨w.heap.size, 0 + j, none⟩ = some (.string X[j]) from fun j h => cell_below hb2 (HC.out j h))
  rw [HX.out, H1.out]
  clear hb2
  have g0 := HS2.out.sen.g0
  go_wp2_with fail
  go_quiet (fail)
  go_wp2_with fail
  go_ret3
  exact ⟨rfl, HB2.out.trans ((below_drawn _ _).mono HB2.out.size)⟩
set_option maxHeartbeats 1000000 in
theorem path_many (s : ByteArray) (A : Nat → Addr) (m : Int) (w : World) (hs : s.size < 4294967281) (S : Te w A m) (h1 : badE s.data.toList = false) (h2 : 5 < (elems s.data.toList).length) :
    Calls Tryz.prog 151 #[.string s] w fun e w' => e = .returned (.tuple #[.string ⟨#[]⟩, .int .i64 0, .iface 286 (.pointer (some (A 1)))]) ∧ Below w.heap.size w w' := by
  have H1 := hid (show ((elems s.data.toList).any fun e => !elemOk e) = false from h1)
  clear h1
  have hmf : ∀ (fn : Fn) (first cap : Array Value) (w : World), (Instr.makeFunc fn first cap).run Tryz.prog w = .ok (.func fn first cap) w := fun _ _ _ _ => rfl
  have HS := hid S
  clear S
  go_enter Tryz.func151, Tryz.ntmps151
  go_wp2_with fail
  refine (split_any 47 s m w hs HS.out.ml).mono ?_
  rintro e w1 ⟨X, rfl, hX, hc, hb, hz⟩
  have HX := hid (show bl X = elems s.data.toList from hX)
  have HC := hid hc
  have HB := hid hb
  have HS1 := hid (HS.out.below hb)
  have hn := many_le hX
  have HXS := hid (show ∀ x, x ∈ X → x.size < 4294967281 from fun x hx => by have := piece_le hX hx; omega)
  have HLN := hid (show X.length = (elems s.data.toList).length by rw [← HX.out, bl_len])
  clear hX hc hb
  go_wp2_with fail
  refine (has1 w.heap.size X.length X m w1 (by omega) HC.out HS1.out.ml HXS.out).mono ?_
  rintro e w2 ⟨rfl, hb2⟩
  have HB2 := hid (HB.out.trans (hb2.mono HB.out.size))
  have HS2 := hid (HS1.out.below hb2)
  have HC2 := hid (show ∀ j (h : j < X.length), w2.cell? ⟨w.heap.size, 0 + j, none⟩ = some (.string X[j]) from fun j h => cell_below hb2 (HC.out j h))
  rw [HX.out, H1.out]
  clear hb2
  have g1 := HS2.out.sen.g1
  have h5 : decide (5 < (X.length : Int)) = true := decide_eq_true (by have := HLN.out; omega)
  go_wp2_with fail
  go_quiet (fail)
  go_wp2_with fail
  go_ret3
  exact ⟨rfl, HB2.out.trans ((below_drawn _ _).mono HB2.out.size)⟩
set_option maxHeartbeats 1000000 in
theorem path_long (s : ByteArray) (A : Nat → Addr) (m : Int) (w : World) (hs : s.size < 4294967281) (S : Te w A m) (h1 : badE s.data.toList = false) (h5 : (elems s.data.toList).length ≤ 5) (h2 : (elems s.data.toList).any long = true) :
    Calls Tryz.prog 151 #[.string s] w fun e w' => e = .returned (.tuple #[.string ⟨#[]⟩, .int .i64 0, .iface 286 (.pointer (some (A 1)))]) ∧ Below w.heap.size w w' := by
  have H1 := hid (show ((elems s.data.toList).any fun e => !elemOk e) = false from h1)
  have H2 := hid h2
  clear h1 h2
  have hmf : ∀ (fn : Fn) (first cap : Array Value) (w : World), (Instr.makeFunc fn first cap).run Tryz.prog w = .ok (.func fn first cap) w := fun _ _ _ _ => rfl
  have HS := hid S
  clear S
  go_enter Tryz.func151, Tryz.ntmps151
  go_wp2_with fail
  refine (split_any 47 s m w hs HS.out.ml).mono ?_
  rintro e w1 ⟨X, rfl, hX, hc, hb, hz⟩
  have HX := hid (show bl X = elems s.data.toList from hX)
  have HC := hid hc
  have HB := hid hb
  have HS1 := hid (HS.out.below hb)
  have hn := many_le hX
  have HXS := hid (show ∀ x, x ∈ X → x.size < 4294967281 from fun x hx => by have := piece_le hX hx; omega)
  have HLN := hid (show X.length = (elems s.data.toList).length by rw [← HX.out, bl_len])
  clear hX hc hb
  go_wp2_with fail
  refine (has1 w.heap.size X.length X m w1 (by omega) HC.out HS1.out.ml HXS.out).mono ?_
  rintro e w2 ⟨rfl, hb2⟩
  have HB2 := hid (HB.out.trans (hb2.mono HB.out.size))
  have HS2 := hid (HS1.out.below hb2)
  have HC2 := hid (show ∀ j (h : j < X.length), w2.cell? ⟨w.heap.size, 0 + j, none⟩ = some (.string X[j]) from fun j h => cell_below hb2 (HC.out j h))
  rw [HX.out, H1.out]
  clear hb2
  have h5b : decide (5 < (X.length : Int)) = false := decide_eq_false (by have := HLN.out; omega)
  go_wp2_with fail
  refine (has2 w.heap.size X.length X w2 (by omega) HC2.out).mono ?_
  rintro e w3 ⟨rfl, hb3⟩
  have HB3 := hid (HB2.out.trans (hb3.mono HB2.out.size))
  have HS3 := hid (HS2.out.below hb3)
  have HC3 := hid (show ∀ j (h : j < X.length), w3.cell? ⟨w.heap.size, 0 + j, none⟩ = some (.string X[j]) from fun j h => cell_below hb3 (HC2.out j h))
  rw [HX.out, H2.out]
  clear hb3
  have g1 := HS3.out.sen.g1
  go_wp2_with fail
  go_quiet (fail)
  go_wp2_with fail
  go_ret3
  exact ⟨rfl, HB3.out.trans ((below_drawn _ _).mono HB3.out.size)⟩
set_option maxHeartbeats 1000000 in
theorem path_one (s : ByteArray) (A : Nat → Addr) (m : Int) (w : World) (hs : s.size < 4294967281) (S : Te w A m) (h1 : badE s.data.toList = false) (h2 : (elems s.data.toList).any long = false) (h0 : (elems s.data.toList).length = 1) :
    Calls Tryz.prog 151 #[.string s] w fun e w' => e = .returned (.tuple #[.string s, .int .i64 0, .nilIface]) ∧ Below w.heap.size w w' := by
  have H1 := hid (show ((elems s.data.toList).any fun e => !elemOk e) = false from h1)
  have H2 := hid h2
  clear h1 h2
  have hmf : ∀ (fn : Fn) (first cap : Array Value) (w : World), (Instr.makeFunc fn first cap).run Tryz.prog w = .ok (.func fn first cap) w := fun _ _ _ _ => rfl
  have HS := hid S
  clear S
  go_enter Tryz.func151, Tryz.ntmps151
  go_wp2_with fail
  refine (split_any 47 s m w hs HS.out.ml).mono ?_
  rintro e w1 ⟨X, rfl, hX, hc, hb, hz⟩
  have HX := hid (show bl X = elems s.data.toList from hX)
  have HC := hid hc
  have HB := hid hb
  have HS1 := hid (HS.out.below hb)
  have hn := many_le hX
  have HXS := hid (show ∀ x, x ∈ X → x.size < 4294967281 from fun x hx => by have := piece_le hX hx; omega)
  have HLN := hid (show X.length = (elems s.data.toList).length by rw [← HX.out, bl_len])
  clear hX hc hb
  go_wp2_with fail
  refine (has1 w.heap.size X.length X m w1 (by omega) HC.out HS1.out.ml HXS.out).mono ?_
  rintro e w2 ⟨rfl, hb2⟩
  have HB2 := hid (HB.out.trans (hb2.mono HB.out.size))
  have HS2 := hid (HS1.out.below hb2)
  have HC2 := hid (show ∀ j (h : j < X.length), w2.cell? ⟨w.heap.size, 0 + j, none⟩ = some (.string X[j]) from fun j h => cell_below hb2 (HC.out j h))
  rw [HX.out, H1.out]
  clear hb2
  obtain ⟨x, rfl⟩ := List.length_eq_one_iff.1 (HLN.out.trans h0)
  have h5b : decide (5 < (([x] : List ByteArray).length : Int)) = false := decide_eq_false (by have := HLN.out; omega)
  go_wp2_with fail
  refine (has2 w.heap.size 1 [x] w2 (by omega) HC2.out).mono ?_
  rintro e w3 ⟨rfl, hb3⟩
  have HB3 := hid (HB2.out.trans (hb3.mono HB2.out.size))
  have HS3 := hid (HS2.out.below hb3)
  have HC3 := hid (show ∀ j (h : j < ([x] : List ByteArray).length), w3.cell? ⟨w.heap.size, 0 + j, none⟩ = some (.string ([x] : List ByteArray)[j]) from fun j h => cell_below hb3 (HC2.out j h))
  rw [HX.out, H2.out]
  clear hb3
  go_wp2_with fail
  go_ret3
  exact ⟨rfl, HB3.out⟩
set_option maxHeartbeats 1000000 in
theorem path_unlike (s : ByteArray) (A : Nat → Addr) (m : Int) (w : World) (hs : s.size < 4294967281) (S : Te w A m) (h1 : badE s.data.toList = false) (h5 : (elems s.data.toList).length ≤ 5) (h2 : (elems s.data.toList).any long = false) (h0 : 1 < (elems s.data.toList).length) (hk : likeB (lastOf s.data.toList) = false) :
    Calls Tryz.prog 151 #[.string s] w fun e w' => e = .returned (.tuple #[.string s, .int .i64 0, .nilIface]) ∧ Below w.heap.size w w' := by
  have H1 := hid (show ((elems s.data.toList).any fun e => !elemOk e) = false from h1)
  have H2 := hid h2
  have HK := hid hk
  clear h1 h2 hk
  have hmf : ∀ (fn : Fn) (first cap : Array Value) (w : World), (Instr.makeFunc fn first cap).run Tryz.prog w = .ok (.func fn first cap) w := fun _ _ _ _ => rfl
  have HS := hid S
  clear S
  go_enter Tryz.func151, Tryz.ntmps151
  go_wp2_with fail
  refine (split_any 47 s m w hs HS.out.ml).mono ?_
  rintro e w1 ⟨X, rfl, hX, hc, hb, hz⟩
  have HX := hid (show bl X = elems s.data.toList from hX)
  have HC := hid hc
  have HB := hid hb
  have HS1 := hid (HS.out.below hb)
  have hn := many_le hX
  have HXS := hid (show ∀ x, x ∈ X → x.size < 4294967281 from fun x hx => by have := piece_le hX hx; omega)
  have HLN := hid (show X.length = (elems s.data.toList).length by rw [← HX.out, bl_len])
  clear hX hc hb
  go_wp2_with fail
  refine (has1 w.heap.size X.length X m w1 (by omega) HC.out HS1.out.ml HXS.out).mono ?_
  rintro e w2 ⟨rfl, hb2⟩
  have HB2 := hid (HB.out.trans (hb2.mono HB.out.size))
  have HS2 := hid (HS1.out.below hb2)
  have HC2 := hid (show ∀ j (h : j < X.length), w2.cell? ⟨w.heap.size, 0 + j, none⟩ = some (.string X[j]) from fun j h => cell_below hb2 (HC.out j h))
  rw [HX.out, H1.out]
  clear hb2
  have h5b : decide (5 < (X.length : Int)) = false := decide_eq_false (by have := HLN.out; omega)
  go_wp2_with fail
  refine (has2 w.heap.size X.length X w2 (by omega) HC2.out).mono ?_
  rintro e w3 ⟨rfl, hb3⟩
  have HB3 := hid (HB2.out.trans (hb3.mono HB2.out.size))
  have HS3 := hid (HS2.out.below hb3)
  have HC3 := hid (show ∀ j (h : j < X.length), w3.cell? ⟨w.heap.size, 0 + j, none⟩ = some (.string X[j]) from fun j h => cell_below hb3 (HC2.out j h))
  rw [HX.out, H2.out]
  clear hb3
  have hp : X.length - 1 < X.length := by have := HLN.out; omega
  have hx : w3.cell? ⟨w.heap.size, X.length - 1, none⟩ = some (.string X[X.length - 1]) := by have := HC3.out (X.length - 1) hp; rw [Nat.zero_add] at this; exact this
  have HLT := hid (last_get HX.out hp)
  have HLS := hid (HXS.out _ (List.getElem_mem hp))
  have hi1 : ((X.length : Int) - 1) = ((X.length - 1 : Nat) : Int) := by have := HLN.out; omega
  have hi2 : (((X.length - 1 : Nat) : Int) == 0) = false := beq_eq_false_iff_ne.2 (by have := HLN.out; omega)
  generalize hZ : X[X.length - 1] = Z at *
  generalize hN : X.length - 1 = n at *
  go_wp2_with fail
  refine (like_any Z w3 HLS.out).mono ?_
  rintro e w' ⟨rfl, rfl⟩
  rw [HLT.out, HK.out]
  go_wp2_with fail
  go_ret3
  exact ⟨rfl, HB3.out⟩
theorem suffix_no (s : ByteArray) (A : Nat → Addr) (m : Int) (w : World) (hs : s.size < 4294967281) (S : Te w A m) (h : sufOk s.data.toList = false) :
    Calls Tryz.prog 207 #[.string s] w fun e w' => e = .returned (.tuple #[.int .i64 0, .iface 286 (.pointer (some (A 3)))]) ∧ Below w.heap.size w w' := by
  have := suffix_any s A m w hs S
  rw [h] at this
  exact this
theorem suffix_yes (s : ByteArray) (A : Nat → Addr) (m : Int) (w : World) (hs : s.size < 4294967281) (S : Te w A m) (h : sufOk s.data.toList = true) :
    Calls Tryz.prog 207 #[.string s] w fun e w' => e = .returned (.tuple #[.int .i64 (num (restOf s.data.toList)).1, .nilIface]) ∧ Below w.heap.size w w' := by
  have := suffix_any s A m w hs S
  rw [h] at this
  exact this
theorem join_snoc (c : UInt8) (ps : List (List UInt8)) (h : ps ≠ []) (q : List UInt8) : Lib.join (ps ++ [q]) [c] = Lib.join ps [c] ++ ([c] ++ q) := by
  cases ps with
  | nil => exact absurd rfl h
  | cons p r =>
    simp only [List.cons_append, Lib.join_cons, Lib.joinTail]
    simp
theorem join_app (c : UInt8) (qs : List (List UInt8)) : ∀ ps : List (List UInt8), (Lib.join ps [c]).length ≤ (Lib.join (ps ++ qs) [c]).length := by
  induction qs with
  | nil => intro ps; simp
  | cons q r ih =>
    intro ps
    have h1 : (Lib.join ps [c]).length ≤ (Lib.join (ps ++ [q]) [c]).length := by
      by_cases h : ps = []
      · subst h; simp [Lib.join]
      · rw [join_snoc c ps h q]; simp
    have h2 := ih (ps ++ [q])
    rw [List.append_assoc] at h2
    exact Nat.le_trans h1 h2
theorem join_take (X : List ByteArray) (l : List UInt8) (hX : bl X = elems l) (n : Nat) : (Lib.join (bl (X.take n)) [47]).length ≤ l.length := by
  have h := join_app 47 (bl (X.drop n)) (bl (X.take n))
  have e : bl (X.take n) ++ bl (X.drop n) = bl X := by unfold bl; rw [← List.map_append, List.take_append_drop]
  rw [e, hX] at h
  unfold elems at h
  rw [join_cut] at h
  exact h
set_option maxHeartbeats 1000000 in
theorem path_major (s : ByteArray) (A : Nat → Addr) (m : Int) (w : World) (hs : s.size < 4294967281) (S : Te w A m) (h1 : badE s.data.toList = false) (h5 : (elems s.data.toList).length ≤ 5) (h2 : (elems s.data.toList).any long = false) (h0 : 1 < (elems s.data.toList).length) (hk : likeB (lastOf s.data.toList) = true) (ho : sufOk (lastOf s.data.toList) = false) :
    Calls Tryz.prog 151 #[.string s] w fun e w' => e = .returned (.tuple #[.string ⟨#[]⟩, .int .i64 0, .iface 286 (.pointer (some (A 3)))]) ∧ Below w.heap.size w w' := by
  have H1 := hid (show ((elems s.data.toList).any fun e => !elemOk e) = false from h1)
  have H2 := hid h2
  have HK := hid hk
  have HO := hid ho
  clear h1 h2 hk ho
  have hmf : ∀ (fn : Fn) (first cap : Array Value) (w : World), (Instr.makeFunc fn first cap).run Tryz.prog w = .ok (.func fn first cap) w := fun _ _ _ _ => rfl
  have HS := hid S
  clear S
  go_enter Tryz.func151, Tryz.ntmps151
  go_wp2_with fail
  refine (split_any 47 s m w hs HS.out.ml).mono ?_
  rintro e w1 ⟨X, rfl, hX, hc, hb, hz⟩
  have HX := hid (show bl X = elems s.data.toList from hX)
  have HC := hid hc
  have HB := hid hb
  have HS1 := hid (HS.out.below hb)
  have hn := many_le hX
  have HXS := hid (show ∀ x, x ∈ X → x.size < 4294967281 from fun x hx => by have := piece_le hX hx; omega)
  have HLN := hid (show X.length = (elems s.data.toList).length by rw [← HX.out, bl_len])
  clear hX hc hb
  go_wp2_with fail
  refine (has1 w.heap.size X.length X m w1 (by omega) HC.out HS1.out.ml HXS.out).mono ?_
  rintro e w2 ⟨rfl, hb2⟩
  have HB2 := hid (HB.out.trans (hb2.mono HB.out.size))
  have HS2 := hid (HS1.out.below hb2)
  have HC2 := hid (show ∀ j (h : j < X.length), w2.cell? ⟨w.heap.size, 0 + j, none⟩ = some (.string X[j]) from fun j h => cell_below hb2 (HC.out j h))
  rw [HX.out, H1.out]
  clear hb2
  have h5b : decide (5 < (X.length : Int)) = false := decide_eq_false (by have := HLN.out; omega)
  go_wp2_with fail
  refine (has2 w.heap.size X.length X w2 (by omega) HC2.out).mono ?_
  rintro e w3 ⟨rfl, hb3⟩
  have HB3 := hid (HB2.out.trans (hb3.mono HB2.out.size))
  have HS3 := hid (HS2.out.below hb3)
  have HC3 := hid (show ∀ j (h : j < X.length), w3.cell? ⟨w.heap.size, 0 + j, none⟩ = some (.string X[j]) from fun j h => cell_below hb3 (HC2.out j h))
  rw [HX.out, H2.out]
  clear hb3
  have hp : X.length - 1 < X.length := by have := HLN.out; omega
  have hx : w3.cell? ⟨w.heap.size, X.length - 1, none⟩ = some (.string X[X.length - 1]) := by have := HC3.out (X.length - 1) hp; rw [Nat.zero_add] at this; exact this
  have HLT := hid (last_get HX.out hp)
  have HLS := hid (HXS.out _ (List.getElem_mem hp))
  have hi1 : ((X.length : Int) - 1) = ((X.length - 1 : Nat) : Int) := by have := HLN.out; omega
  have hi2 : (((X.length - 1 : Nat) : Int) == 0) = false := beq_eq_false_iff_ne.2 (by have := HLN.out; omega)
  generalize hZ : X[X.length - 1] = Z at *
  generalize hN : X.length - 1 = n at *
  go_wp2_with fail
  refine (like_any Z w3 HLS.out).mono ?_
  rintro e w' ⟨rfl, rfl⟩
  rw [HLT.out, HK.out]
  go_wp2_with fail
  refine (suffix_no Z A m w' HLS.out HS3.out (by rw [HLT.out]; exact HO.out)).mono ?_
  rintro e w4 ⟨rfl, hb4⟩
  have HB4 := hid (HB3.out.trans (hb4.mono HB3.out.size))
  clear hb4
  go_wp2_with fail
  go_ret3
  exact ⟨rfl, HB4.out⟩
set_option maxHeartbeats 1000000 in
theorem path_suffix (s : ByteArray) (A : Nat → Addr) (m : Int) (w : World) (hs : s.size < 4294967281) (S : Te w A m) (h1 : badE s.data.toList = false) (h5 : (elems s.data.toList).length ≤ 5) (h2 : (elems s.data.toList).any long = false) (h0 : 1 < (elems s.data.toList).length) (hk : likeB (lastOf s.data.toList) = true) (ho : sufOk (lastOf s.data.toList) = true) :
    Calls Tryz.prog 151 #[.string s] w fun e w' => (∃ H : ByteArray, e = .returned (.tuple #[.string H, .int .i64 (num (restOf (lastOf s.data.toList))).1, .nilIface]) ∧ H.data.toList = Lib.join ((elems s.data.toList).take ((elems s.data.toList).length - 1)) [47]) ∧ Below w.heap.size w w' := by
  have H1 := hid (show ((elems s.data.toList).any fun e => !elemOk e) = false from h1)
  have H2 := hid h2
  have HK := hid hk
  have HO := hid ho
  clear h1 h2 hk ho
  have hmf : ∀ (fn : Fn) (first cap : Array Value) (w : World), (Instr.makeFunc fn first cap).run Tryz.prog w = .ok (.func fn first cap) w := fun _ _ _ _ => rfl
  have HS := hid S
  clear S
  go_enter Tryz.func151, Tryz.ntmps151
  go_wp2_with fail
  refine (split_any 47 s m w hs HS.out.ml).mono ?_
  rintro e w1 ⟨X, rfl, hX, hc, hb, hz⟩
  have HX := hid (show bl X = elems s.data.toList from hX)
  have HC := hid hc
  have HB := hid hb
  have HS1 := hid (HS.out.below hb)
  have hn := many_le hX
  have HXS := hid (show ∀ x, x ∈ X → x.size < 4294967281 from fun x hx => by have := piece_le hX hx; omega)
  have HLN := hid (show X.length = (elems s.data.toList).length by rw [← HX.out, bl_len])
  clear hX hc hb
  go_wp2_with fail
  refine (has1 w.heap.size X.length X m w1 (by omega) HC.out HS1.out.ml HXS.out).mono ?_
  rintro e w2 ⟨rfl, hb2⟩
  have HB2 := hid (HB.out.trans (hb2.mono HB.out.size))
  have HS2 := hid (HS1.out.below hb2)
  have HC2 := hid (show ∀ j (h : j < X.length), w2.cell? ⟨w.heap.size, 0 + j, none⟩ = some (.string X[j]) from fun j h => cell_below hb2 (HC.out j h))
  rw [HX.out, H1.out]
  clear hb2
  have h5b : decide (5 < (X.length : Int)) = false := decide_eq_false (by have := HLN.out; omega)
  go_wp2_with fail
  refine (has2 w.heap.size X.length X w2 (by omega) HC2.out).mono ?_
  rintro e w3 ⟨rfl, hb3⟩
  have HB3 := hid (HB2.out.trans (hb3.mono HB2.out.size))
  have HS3 := hid (HS2.out.below hb3)
  have HC3 := hid (show ∀ j (h : j < X.length), w3.cell? ⟨w.heap.size, 0 + j, none⟩ = some (.string X[j]) from fun j h => cell_below hb3 (HC2.out j h))
  rw [HX.out, H2.out]
  clear hb3
  have HJ := hid (fun W (hW : Below w3.heap.size w3 W) => Tryz.strings_Join w.heap.size 0 X.length (X.take (X.length - 1)) ⟨#[47]⟩ W (fun j x hx => by
      have hj : j < (X.take (X.length - 1)).length := by
        rcases Nat.lt_or_ge j (X.take (X.length - 1)).length with h | h
        · exact h
        · rw [List.getElem?_eq_none h] at hx; cases hx
      have hj2 : j < X.length := by rw [List.length_take] at hj; omega
      have hx2 : X[j] = x := by
        rw [List.getElem?_eq_getElem hj, List.getElem_take] at hx
        exact Option.some.inj hx
      rw [← hx2]
      exact cell_below hW (HC3.out j hj2)) (by
      have h1 := lt_of_cell (HC3.out 0 (by have := HLN.out; omega))
      have h2 := hW.size
      simp at h1; omega) (by rw [List.length_take]; omega) (by rw [List.length_take]; omega) (by
      have := join_take X s.data.toList HX.out (X.length - 1)
      rw [len_eq] at this
      show (Lib.join (bl (X.take (X.length - 1))) [47]).length ≤ _
      omega))
  rw [show (X.take (X.length - 1)).length = X.length - 1 by rw [List.length_take]; omega] at HJ
  have HJT := hid (show Lib.join (bl (X.take (X.length - 1))) [47] = Lib.join ((elems s.data.toList).take ((elems s.data.toList).length - 1)) [47] by
    rw [← HX.out, bl_len]; unfold bl; rw [List.map_take])
  have hp : X.length - 1 < X.length := by have := HLN.out; omega
  have hx : w3.cell? ⟨w.heap.size, X.length - 1, none⟩ = some (.string X[X.length - 1]) := by have := HC3.out (X.length - 1) hp; rw [Nat.zero_add] at this; exact this
  have HLT := hid (last_get HX.out hp)
  have HLS := hid (HXS.out _ (List.getElem_mem hp))
  have hi1 : ((X.length : Int) - 1) = ((X.length - 1 : Nat) : Int) := by have := HLN.out; omega
  have hi2 : (((X.length - 1 : Nat) : Int) == 0) = false := beq_eq_false_iff_ne.2 (by have := HLN.out; omega)
  generalize hZ : X[X.length - 1] = Z at *
  generalize hN : X.length - 1 = n at *
  go_wp2_with fail
  refine (like_any Z w3 HLS.out).mono ?_
  rintro e w' ⟨rfl, rfl⟩
  rw [HLT.out, HK.out]
  go_wp2_with fail
  refine (suffix_yes Z A m w' HLS.out HS3.out (by rw [HLT.out]; exact HO.out)).mono ?_
  rintro e w4 ⟨rfl, hb4⟩
  have HB4 := hid (HB3.out.trans (hb4.mono HB3.out.size))
  have HB34 := hid hb4
  rw [HLT.out]
  clear hb4
  go_wp2_with fail
  refine (HJ.out _ HB34.out).mono ?_
  rintro e w5 ⟨rfl, hb5⟩
  have HB5 := hid (HB4.out.trans (hb5.mono HB4.out.size))
  clear hb5
  go_wp2_with fail
  go_ret3
  exact ⟨⟨_, rfl, by have := HJT.out; unfold bl at this; rw [List.map_take] at this; exact this⟩, HB5.out⟩
def PathP (A : Nat → Addr) (l : List UInt8) (w w' : World) (e : Ending) : Prop :=
  (∃ (H : ByteArray) (n : Int) (v : Value), e = .returned (.tuple #[.string H, .int .i64 n, v]) ∧ v = errA A (pathErr l) ∧ (pathErr l = 0 → H.data.toList = pathH l ∧ n = pathN l) ∧ (pathErr l ≠ 0 → H = ⟨#[]⟩ ∧ n = 0)) ∧ Below w.heap.size w w'
theorem readPath_any (s : ByteArray) (A : Nat → Addr) (m : Int) (w : World) (hs : s.size < 4294967281) (S : Te w A m) : Calls Tryz.prog 151 #[.string s] w fun e w' => PathP A s.data.toList w w' e := by
  have hp := elems_pos s.data.toList
  cases h1 : badE s.data.toList
  · by_cases h5 : 5 < (elems s.data.toList).length
    · have he : pathErr s.data.toList = 2 := by unfold pathErr longE; rw [h1, decide_eq_true h5]; rfl
      exact (path_many s A m w hs S h1 h5).mono fun e w' h => ⟨⟨_, _, _, h.1, by rw [he]; rfl, (fun h => by rw [he] at h; cases h), fun _ => ⟨rfl, rfl⟩⟩, h.2⟩
    · have d5 := decide_eq_false h5
      cases h2 : (elems s.data.toList).any long
      · have hl : longE s.data.toList = false := by unfold longE; rw [d5, h2]; rfl
        by_cases h0 : 1 < (elems s.data.toList).length
        · cases hk : likeB (lastOf s.data.toList)
          · have hu : sufE s.data.toList = false := by unfold sufE; rw [hk]; simp
            have he : pathErr s.data.toList = 0 := by unfold pathErr; rw [h1, hl, hu]; rfl
            exact (path_unlike s A m w hs S h1 (by omega) h2 h0 hk).mono fun e w' h => ⟨⟨_, _, _, h.1, by rw [he]; rfl, fun _ => ⟨by unfold pathH; rw [hu]; rfl, by unfold pathN; rw [hu]; rfl⟩, fun h => absurd he h⟩, h.2⟩
          · have hu : sufE s.data.toList = true := by unfold sufE; rw [hk, decide_eq_true h0]; rfl
            cases ho : sufOk (lastOf s.data.toList)
            · have he : pathErr s.data.toList = 4 := by unfold pathErr; rw [h1, hl, hu, ho]; rfl
              exact (path_major s A m w hs S h1 (by omega) h2 h0 hk ho).mono fun e w' h => ⟨⟨_, _, _, h.1, by rw [he]; rfl, (fun h => by rw [he] at h; cases h), fun _ => ⟨rfl, rfl⟩⟩, h.2⟩
            · have he : pathErr s.data.toList = 0 := by unfold pathErr; rw [h1, hl, hu, ho]; rfl
              exact (path_suffix s A m w hs S h1 (by omega) h2 h0 hk ho).mono fun e w' ⟨⟨H, e1, e2⟩, hb⟩ => ⟨⟨H, _, _, e1, by rw [he]; rfl, fun _ => ⟨by unfold pathH; rw [hu]; exact e2, by unfold pathN; rw [hu]; rfl⟩, fun h => absurd he h⟩, hb⟩
        · have hu : sufE s.data.toList = false := by unfold sufE; rw [decide_eq_false h0]; rfl
          have he : pathErr s.data.toList = 0 := by unfold pathErr; rw [h1, hl, hu]; rfl
          exact (path_one s A m w hs S h1 h2 (by omega)).mono fun e w' h => ⟨⟨_, _, _, h.1, by rw [he]; rfl, fun _ => ⟨by unfold pathH; rw [hu]; rfl, by unfold pathN; rw [hu]; rfl⟩, fun h => absurd he h⟩, h.2⟩
      · have he : pathErr s.data.toList = 2 := by unfold pathErr longE; rw [h1, h2]; simp
        exact (path_long s A m w hs S h1 (by omega) h2).mono fun e w' h => ⟨⟨_, _, _, h.1, by rw [he]; rfl, (fun h => by rw [he] at h; cases h), fun _ => ⟨rfl, rfl⟩⟩, h.2⟩
  · have he : pathErr s.data.toList = 1 := by unfold pathErr; rw [h1]; rfl
    exact (path_bad s A m w hs S h1).mono fun e w' h => ⟨⟨_, _, _, h.1, by rw [he]; rfl, (fun h => by rw [he] at h; cases h), fun _ => ⟨rfl, rfl⟩⟩, h.2⟩
end Ve
end Go.Proofs.YtanponneancajaaGreatDoor


namespace Go.Proofs.YtanponneancajaaGreatDoor
open Go.RowKit
namespace Ve
def fitsB (major suffix : Int) : Bool := if suffix == 0 then (major == 0 || major == 1) else major == suffix
theorem fits_any (a b : Int) (w : World) : Calls Tryz.prog 152 #[.int .i64 a, .int .i64 b] w fun e w' => e = .returned (.bool (fitsB a b)) ∧ w' = w := by
  have HF := hid (show fitsB a b = if b == 0 then (a == 0 || a == 1) else a == b from rfl)
  cases h : (b == 0)
  · rw [h] at HF
    go_enter Tryz.func152, Tryz.ntmps152
    go_wp2_with fail
    go_ret
    exact ⟨ret_bool (by rw [HF.out]; rfl), rfl⟩
  · rw [h] at HF
    cases h2 : (a == 0)
    · rw [h2] at HF
      go_enter Tryz.func152, Tryz.ntmps152
      go_wp2_with fail
      go_ret
      exact ⟨ret_bool (by rw [HF.out]; rfl), rfl⟩
    · rw [h2] at HF
      go_enter Tryz.func152, Tryz.ntmps152
      go_wp2_with fail
      go_ret
      exact ⟨ret_bool (by rw [HF.out]; rfl), rfl⟩
def modErr (p v : List UInt8) : Nat := if pathErr p = 0 then (if verErr v = 0 then (if fitsB (nAt v 0) (pathN p) then 0 else 4) else verErr v) else pathErr p
theorem verErr_err (l : List UInt8) : verErr l = 0 ∨ verErr l = 1 ∨ verErr l = 2 := by
  unfold verErr
  split
  · simp
  · split
    · exact worse_err (numsErr_err _) (pre_err _)
    · exact numsErr_err _
theorem pathErr_err (l : List UInt8) : pathErr l = 0 ∨ pathErr l = 1 ∨ pathErr l = 2 ∨ pathErr l = 4 := by
  unfold pathErr; split
  · simp
  · split
    · simp
    · split <;> simp
theorem res2 {w w3 : World} {a b : Value} {T : TypeId} (hb : Below (w.heap.size + 1) (w.alloc (.cells #[a, b] T)) w3) :
    (w3.cell? ⟨w.heap.size, 0, none⟩ = some a ∧ w3.cell? ⟨w.heap.size, 1, none⟩ = some b) ∧ w.heap.size < w3.heap.size := by
  refine ⟨⟨?_, ?_⟩, ?_⟩
  · rw [hb.cell (by simp)]; simp
  · rw [hb.cell (by simp)]; simp
  · have := hb.size; simp at this; omega
set_option maxHeartbeats 1000000 in
theorem mcheck_path (p v : ByteArray) (A : Nat → Addr) (m : Int) (w : World) (hp : p.size < 4294967281) (S : Te w A m) (h0 : pathErr p.data.toList ≠ 0) :
    Calls Tryz.prog 110 #[.agg #[.string p, .string v]] w fun e w' => e = .returned (errA A (pathErr p.data.toList)) ∧ Below w.heap.size w w' := by
  have HB0 := hid ((Below.refl w.heap.size w).alloc (Nat.le_refl _) (.cells #[.string p, .string v] 51))
  have HP := hid (readPath_any p A m _ hp (S.below HB0.out))
  obtain ⟨a9, ha9⟩ := errA_ne A h0
  have HE := hid ha9
  clear S h0 ha9
  go_enter Tryz.func110, Tryz.ntmps110
  go_wp2_with fail
  refine HP.out.mono ?_
  rintro e w1 ⟨⟨H, n, v, rfl, hv, _, _⟩, hb⟩
  rw [HE.out] at hv
  subst hv
  have HB := hid (HB0.out.trans (hb.mono HB0.out.size))
  clear hb
  go_wp2_with fail
  go_ret
  exact ⟨by rw [HE.out]; rfl, HB.out⟩
set_option maxHeartbeats 1000000 in
theorem mcheck_ver (p v : ByteArray) (A : Nat → Addr) (m : Int) (w : World) (hp : p.size < 4294967281) (hvs : v.size < 4294967281) (S : Te w A m) (h0 : pathErr p.data.toList = 0) (h1 : verErr v.data.toList ≠ 0) :
    Calls Tryz.prog 110 #[.agg #[.string p, .string v]] w fun e w' => e = .returned (errA A (verErr v.data.toList)) ∧ Below w.heap.size w w' := by
  obtain ⟨a9, ha9⟩ := errV_ne (A 0) (A 1) h1
  have HE := hid ha9
  have HV := hid h1
  have HX := hid (errA_V A (verErr v.data.toList) (verErr_err _))
  clear ha9 h1
  have HB0 := hid ((Below.refl w.heap.size w).alloc (Nat.le_refl _) (.cells #[.string p, .string v] 51))
  have HS0 := hid (S.below HB0.out)
  have HP := hid (readPath_any p A m _ hp HS0.out)
  have H0 := hid h0
  clear S h0
  go_enter Tryz.func110, Tryz.ntmps110
  go_wp2_with fail
  refine HP.out.mono ?_
  rintro e w1 ⟨⟨H, n, ev, rfl, hv, hgood, _⟩, hb⟩
  obtain ⟨_, rfl⟩ := hgood H0.out
  rw [H0.out, errA0] at hv
  subst hv
  obtain ⟨⟨r0, r1⟩, rz⟩ := res2 (hb.mono (by simp))
  have HS1 := hid (HS0.out.below hb)
  have HB := hid (HB0.out.trans (hb.mono HB0.out.size))
  clear hb hgood
  go_wp2_with fail
  refine (vsplit_bad v (A 0) (A 1) m w1 hvs HS1.out.vs HV.out).mono ?_
  rintro e w2 ⟨rfl, hb2⟩
  rw [HE.out]
  have HB2 := hid (HB.out.trans (hb2.mono HB.out.size))
  clear hb2
  go_wp2_with fail
  go_ret
  exact ⟨by rw [← HX.out, HE.out]; rfl, HB2.out.alloc HB2.out.size _⟩
set_option maxHeartbeats 1000000 in
theorem mcheck_major (p v : ByteArray) (A : Nat → Addr) (m : Int) (w : World) (hp : p.size < 4294967281) (hvs : v.size < 4294967281) (S : Te w A m) (h0 : pathErr p.data.toList = 0) (h1 : verErr v.data.toList = 0) (h2 : fitsB (nAt v.data.toList 0) (pathN p.data.toList) = false) :
    Calls Tryz.prog 110 #[.agg #[.string p, .string v]] w fun e w' => e = .returned (.iface 286 (.pointer (some (A 3)))) ∧ Below w.heap.size w w' := by
  have HV := hid h1
  have HF := hid h2
  clear h1 h2
  have HB0 := hid ((Below.refl w.heap.size w).alloc (Nat.le_refl _) (.cells #[.string p, .string v] 51))
  have HS0 := hid (S.below HB0.out)
  have HP := hid (readPath_any p A m _ hp HS0.out)
  have H0 := hid h0
  clear S h0
  go_enter Tryz.func110, Tryz.ntmps110
  go_wp2_with fail
  refine HP.out.mono ?_
  rintro e w1 ⟨⟨H, n, ev, rfl, hv, hgood, _⟩, hb⟩
  obtain ⟨_, rfl⟩ := hgood H0.out
  rw [H0.out, errA0] at hv
  subst hv
  obtain ⟨⟨r0, r1⟩, rz⟩ := res2 (hb.mono (by simp))
  have HS1 := hid (HS0.out.below hb)
  have HB := hid (HB0.out.trans (hb.mono HB0.out.size))
  clear hb hgood
  go_wp2_with fail
  refine (vsplit_good v (A 0) (A 1) m w1 hvs HS1.out.vs HV.out).mono ?_
  rintro e w2 ⟨u, X, rfl, _, hst, hb2⟩
  obtain ⟨pa, na, ca, rfl⟩ := hst.slice
  have HB2 := hid (HB.out.trans (hb2.mono HB.out.size))
  have HS2 := hid (HS1.out.below hb2)
  have HBA := hid ((Below.refl w2.heap.size w2).alloc (Nat.le_refl _) (.cells #[.int .i64 (nAt v.data.toList 0), .int .i64 (nAt v.data.toList 1), .int .i64 (nAt v.data.toList 2), .slice pa na ca] 30))
  have HS3 := hid (HS2.out.below HBA.out)
  have HB3 := hid (HB2.out.trans (HBA.out.mono HB2.out.size))
  clear hb2 hst
  go_wp2_with fail
  refine (fits_any _ _ _).mono ?_
  rintro e w' ⟨rfl, rfl⟩
  rw [HF.out]
  have g3 := HS3.out.sen.g3
  go_wp2_with fail
  go_ret
  exact ⟨rfl, HB3.out⟩
set_option maxHeartbeats 1000000 in
theorem mcheck_ok (p v : ByteArray) (A : Nat → Addr) (m : Int) (w : World) (hp : p.size < 4294967281) (hvs : v.size < 4294967281) (S : Te w A m) (h0 : pathErr p.data.toList = 0) (h1 : verErr v.data.toList = 0) (h2 : fitsB (nAt v.data.toList 0) (pathN p.data.toList) = true) :
    Calls Tryz.prog 110 #[.agg #[.string p, .string v]] w fun e w' => e = .returned (.nilIface) ∧ Below w.heap.size w w' := by
  have HV := hid h1
  have HF := hid h2
  clear h1 h2
  have HB0 := hid ((Below.refl w.heap.size w).alloc (Nat.le_refl _) (.cells #[.string p, .string v] 51))
  have HS0 := hid (S.below HB0.out)
  have HP := hid (readPath_any p A m _ hp HS0.out)
  have H0 := hid h0
  clear S h0
  go_enter Tryz.func110, Tryz.ntmps110
  go_wp2_with fail
  refine HP.out.mono ?_
  rintro e w1 ⟨⟨H, n, ev, rfl, hv, hgood, _⟩, hb⟩
  obtain ⟨_, rfl⟩ := hgood H0.out
  rw [H0.out, errA0] at hv
  subst hv
  obtain ⟨⟨r0, r1⟩, rz⟩ := res2 (hb.mono (by simp))
  have HS1 := hid (HS0.out.below hb)
  have HB := hid (HB0.out.trans (hb.mono HB0.out.size))
  clear hb hgood
  go_wp2_with fail
  refine (vsplit_good v (A 0) (A 1) m w1 hvs HS1.out.vs HV.out).mono ?_
  rintro e w2 ⟨u, X, rfl, _, hst, hb2⟩
  obtain ⟨pa, na, ca, rfl⟩ := hst.slice
  have HB2 := hid (HB.out.trans (hb2.mono HB.out.size))
  have HS2 := hid (HS1.out.below hb2)
  have HBA := hid ((Below.refl w2.heap.size w2).alloc (Nat.le_refl _) (.cells #[.int .i64 (nAt v.data.toList 0), .int .i64 (nAt v.data.toList 1), .int .i64 (nAt v.data.toList 2), .slice pa na ca] 30))
  have HS3 := hid (HS2.out.below HBA.out)
  have HB3 := hid (HB2.out.trans (HBA.out.mono HB2.out.size))
  clear hb2 hst
  go_wp2_with fail
  refine (fits_any _ _ _).mono ?_
  rintro e w' ⟨rfl, rfl⟩
  rw [HF.out]
  go_wp2_with fail
  go_ret
  exact ⟨rfl, HB3.out⟩
theorem mcheck_any (p v : ByteArray) (A : Nat → Addr) (m : Int) (w : World) (hp : p.size < 4294967281) (hv : v.size < 4294967281) (S : Te w A m) :
    Calls Tryz.prog 110 #[.agg #[.string p, .string v]] w fun e w' => e = .returned (errA A (modErr p.data.toList v.data.toList)) ∧ Below w.heap.size w w' := by
  unfold modErr
  by_cases h0 : pathErr p.data.toList = 0
  · rw [if_pos h0]
    by_cases h1 : verErr v.data.toList = 0
    · rw [if_pos h1]
      cases h2 : fitsB (nAt v.data.toList 0) (pathN p.data.toList)
      · exact mcheck_major p v A m w hp hv S h0 h1 h2
      · exact mcheck_ok p v A m w hp hv S h0 h1 h2
    · rw [if_neg h1]; exact mcheck_ver p v A m w hp hv S h0 h1
  · rw [if_neg h0]; exact mcheck_path p v A m w hp S h0
end Ve
end Go.Proofs.YtanponneancajaaGreatDoor


namespace Go.Proofs.YtanponneancajaaGreatDoor
open Go.RowKit
namespace Ve
theorem str_refl (a : ByteArray) : (a.toList == a.toList) = true := by simp
def aheadB (p v q u : List UInt8) : Bool := if p = q then lessB v u else decide (Lib.compareBytes p q < 0)
set_option maxHeartbeats 1000000 in
theorem ahead_any (p v q u : ByteArray) (A : Nat → Addr) (m : Int) (w : World) (hv : v.size < 999999) (hu : u.size < 999999) (S : Te w A m) :
    Calls Tryz.prog 111 #[.agg #[.string p, .string v], .agg #[.string q, .string u]] w fun e w' => e = .returned (.bool (aheadB p.data.toList v.data.toList q.data.toList u.data.toList)) ∧ Below w.heap.size w w' := by
  have HO := hid (show aheadB p.data.toList v.data.toList q.data.toList u.data.toList = if p.data.toList = q.data.toList then lessB v.data.toList u.data.toList else decide (Lib.compareBytes p.data.toList q.data.toList < 0) from rfl)
  have HB0 := hid (((Below.refl w.heap.size w).alloc (Nat.le_refl _) (.cells #[.string p, .string v] 51)).alloc (by simp) (.cells #[.string q, .string u] 51))
  by_cases h : p = q
  · subst h
    rw [if_pos rfl] at HO
    have he := str_refl p
    have HL := hid (fun W (SW : Te W A m) => less_any v u (A 0) (A 1) m W hv hu SW.vs)
    have HS := hid S
    clear S
    go_enter Tryz.func111, Tryz.ntmps111
    go_wp2_with fail
    refine (HL.out _ (HS.out.below HB0.out)).mono ?_
    rintro e w1 ⟨rfl, hb⟩
    have HB := hid (HB0.out.trans (hb.mono HB0.out.size))
    clear hb
    go_wp2_with fail
    go_ret
    exact ⟨ret_bool HO.out.symm, HB.out⟩
  · rw [if_neg (fun e => h (str_ext e))] at HO
    have he := str_ne h
    have HC := hid (show Op.bytesLess p.toList q.toList = decide (Lib.compareBytes p.data.toList q.data.toList < 0) by rw [cb_less, ByteArray.toList_eq, ByteArray.toList_eq])
    clear S h
    go_enter Tryz.func111, Tryz.ntmps111
    go_wp2_with fail
    go_ret
    exact ⟨ret_bool (by rw [HO.out, ← HC.out]), HB0.out⟩
end Ve
end Go.Proofs.YtanponneancajaaGreatDoor


namespace Go.Proofs.YtanponneancajaaGreatDoor
open Go.RowKit
namespace Ve
def mErr (m : Bm) : Nat := modErr m.1.data.toList m.2.data.toList
def mAhead (a b : Bm) : Bool := aheadB a.1.data.toList a.2.data.toList b.1.data.toList b.2.data.toList
def noLess (a b : ByteArray) : Bool := !decide (Lib.compareBytes a.data.toList b.data.toList < 0)
def reqW (own : ByteArray) (prev : Option Bm) (m : Bm) : Nat :=
  if mErr m = 0 then (if m.1 = own then 3 else match prev with
    | none => 0
    | some p => if noLess p.1 m.1 then 8 else 0) else mErr m
def prevOf (l : List Bm) (i : Nat) : Option Bm := if i = 0 then none else l[i - 1]?
def reqE (own : ByteArray) (l : List Bm) (i : Nat) : Nat := match l[i]? with
  | none => 0
  | some m => reqW own (prevOf l i) m
def fstE (E : Nat → Nat) : Nat → Option Nat
  | 0 => none
  | n + 1 => match fstE E n with
    | some i => some i
    | none => if E n = 0 then none else some n
theorem fstE_none {E : Nat → Nat} : ∀ {n : Nat}, (∀ j, j < n → E j = 0) → fstE E n = none
  | 0, _ => rfl
  | n + 1, h => by
    unfold fstE
    rw [fstE_none (n := n) (fun j hj => h j (by omega)), if_pos (h n (by omega))]
theorem fstE_some {E : Nat → Nat} {i : Nat} (h0 : ∀ j, j < i → E j = 0) (hi : E i ≠ 0) : ∀ {n : Nat}, i < n → fstE E n = some i
  | 0, h => by omega
  | n + 1, h => by
    unfold fstE
    rcases Nat.lt_or_ge i n with hh | hh
    · rw [fstE_some h0 hi hh]
    · have : i = n := by omega
      subst this
      rw [fstE_none h0]
      simp only
      rw [if_neg hi]
theorem fstE_of_none {E : Nat → Nat} : ∀ {n : Nat}, fstE E n = none → ∀ j, j < n → E j = 0
  | 0, _, j, hj => by omega
  | n + 1, h, j, hj => by
    unfold fstE at h
    cases h1 : fstE E n with
    | some i => rw [h1] at h; cases h
    | none =>
      rw [h1] at h
      simp only at h
      by_cases h2 : E n = 0
      · rcases Nat.lt_or_ge j n with hh | hh
        · exact fstE_of_none h1 j hh
        · have : j = n := by omega
          rw [this]; exact h2
      · rw [if_neg h2] at h; cases h
theorem fstE_of_some {E : Nat → Nat} {i : Nat} : ∀ {n : Nat}, fstE E n = some i → i < n ∧ E i ≠ 0 ∧ ∀ j, j < i → E j = 0
  | 0, h => by cases h
  | n + 1, h => by
    unfold fstE at h
    cases h1 : fstE E n with
    | some k =>
      rw [h1] at h
      obtain ⟨a, b, c⟩ := fstE_of_some h1
      simp only [Option.some.injEq] at h
      subst h
      exact ⟨by omega, b, c⟩
    | none =>
      rw [h1] at h
      simp only at h
      by_cases h2 : E n = 0
      · rw [if_pos h2] at h; cases h
      · rw [if_neg h2] at h
        simp only [Option.some.injEq] at h
        subst h
        exact ⟨by omega, h2, fstE_of_none h1⟩
def MsAt (w : World) (v : Value) (L : List Bm) : Prop :=
  ∃ (a : Option Addr) (c : Nat), v = .slice a L.length c ∧ L.length ≤ c ∧ (L ≠ [] → ∃ b o, a = some ⟨b, o, none⟩ ∧ ∀ j (h : j < L.length), w.cell? ⟨b, o + j * 2, none⟩ = some (.string L[j].1) ∧ w.cell? ⟨b, o + j * 2 + 1, none⟩ = some (.string L[j].2))
theorem MsAt.below {w w' : World} {v : Value} {L : List Bm} (h : MsAt w v L) (hb : Below w.heap.size w w') : MsAt w' v L := by
  obtain ⟨a, c, e, hc, h⟩ := h
  refine ⟨a, c, e, hc, fun hL => ?_⟩
  obtain ⟨b, o, e2, h2⟩ := h hL
  exact ⟨b, o, e2, fun j hj => ⟨cell_below hb (h2 j hj).1, cell_below hb (h2 j hj).2⟩⟩
end Ve
end Go.Proofs.YtanponneancajaaGreatDoor


namespace Go.Proofs.YtanponneancajaaGreatDoor
open Go.RowKit
namespace Ve
theorem below_drawn_of {B : Nat} {a w : World} (h : Below B a w) (q : Nat) : Below B a (w.drewN q) := ⟨h.os, h.tape, h.output, h.size, h.block⟩
def ErrAt (W : World) (A : Nat → Addr) (v : Value) (c : Nat) (o : Option Nat) : Prop := match o with
  | none => v = errA A c
  | some i => c ≠ 0 ∧ ∃ b, v = .iface 115 (.pointer (some ⟨b, 0, none⟩)) ∧ W.cell? ⟨b, 0, none⟩ = some (.int .i64 i) ∧ W.cell? ⟨b, 1, none⟩ = some (errA A c)
theorem ErrAt.below {W W' : World} {A : Nat → Addr} {v : Value} {c : Nat} {o : Option Nat} (h : ErrAt W A v c o) (hb : Below W.heap.size W W') : ErrAt W' A v c o := by
  cases o with
  | none => exact h
  | some i =>
    obtain ⟨h0, b, h1, h2, h3⟩ := h
    exact ⟨h0, b, h1, cell_below hb h2, cell_below hb h3⟩
def codeE (E : Nat → Nat) (n : Nat) : Nat := match fstE E n with
  | none => 0
  | some i => E i
theorem codeE_none {E : Nat → Nat} {n : Nat} (h : fstE E n = none) : codeE E n = 0 := by unfold codeE; rw [h]
theorem codeE_some {E : Nat → Nat} {n i : Nat} (h : fstE E n = some i) : codeE E n = E i := by unfold codeE; rw [h]
theorem errA_if (A : Nat → Addr) {c : Nat} (h : c ≠ 0) : errA A c = .iface 286 (.pointer (some (A (c - 1)))) := by unfold errA; rw [if_neg h]
theorem fault_at {w1 : World} {A : Nat → Addr} {i c : Nat} (hc : c ≠ 0) (T : TypeId) : ErrAt (w1.alloc (.cells #[.int .i64 i, .iface 286 (.pointer (some (A (c - 1))))] T)) A (.iface 115 (.pointer (some ⟨w1.heap.size, 0, none⟩))) c (some i) :=
  ⟨hc, w1.heap.size, rfl, by simp, by rw [errA_if A hc]; simp⟩
set_option maxHeartbeats 1000000 in
theorem first_mods (K : Nat) (cb : Array Value) (E : Nat → Nat) (L : List Bm) (b o c : Nat) (A : Nat → Addr) (w : World) (eg : ∀ args w, (callFunc K args).run Tryz.prog w = .ok (.enter K args) w) (hL : L.length ≤ 1000000)
    (hc : ∀ j (h : j < L.length), w.cell? ⟨b, o + j * 2, none⟩ = some (.string L[j].1) ∧ w.cell? ⟨b, o + j * 2 + 1, none⟩ = some (.string L[j].2))
    (hK : ∀ i (h : i < L.length) W, Below w.heap.size w W → Calls Tryz.prog K (#[.int .i64 (i : Int), .agg #[.string L[i].1, .string L[i].2]] ++ cb) W fun e w' => e = .returned (errA A (E i)) ∧ Below W.heap.size W w') :
    Calls Tryz.prog 114 #[.slice (some ⟨b, o, none⟩) L.length c, .func (.func K) #[] cb] w fun e w' => ∃ v, e = .returned v ∧ ErrAt w' A v (codeE E L.length) (fstE E L.length) ∧ Below w.heap.size w w' := by
  have HK := hid hK
  have HC := hid hc
  clear hK hc
  go_enter Tryz.func114, Tryz.ntmps114
  go_wp2_with fail
  go_loopw [10] (fun i wr => ∃ k : Nat, k ≤ L.length ∧ i = .int .i64 k ∧ Hid (∀ j, j < k → E j = 0) ∧ Hid (Below w.heap.size w wr)) (fun i _ => L.length - (intOf i).toNat)
  case atStart => exact ⟨0, Nat.zero_le _, rfl, hid (fun j hj => absurd hj (by omega)), hid (Below.refl _ _)⟩
  case round =>
    obtain ⟨k, hk, rfl, HE, HB⟩ := hrel
    by_cases hlt : k < L.length
    · have hx := cell_below HB.out (HC.out k hlt).1
      have hy := cell_below HB.out (HC.out k hlt).2
      have HBa := hid (HB.out.alloc HB.out.size (.cells #[.string L[k].1, .string L[k].2] 51))
      have HP := hid (HK.out k hlt _ HBa.out)
      by_cases h0 : E k = 0
      · rw [h0, errA0] at HP
        go_wp2_with fail
        refine HP.out.mono ?_
        rintro e w1 ⟨rfl, hb1⟩
        have HB1 := hid (HBa.out.trans (hb1.mono HBa.out.size))
        clear hb1
        go_wp2_with fail
        go_roundw
        case rel => exact ⟨k + 1, by omega, by go_num, hid (fun j hj => by
          rcases Nat.lt_or_ge j k with h | h
          · exact HE.out j h
          · have : j = k := by omega
            rw [this]; exact h0), HB1⟩
        case measure => simp [intOf]; omega
      · rw [errA_if A h0] at HP
        have HF := hid (fstE_some HE.out h0 hlt)
        have H0 := hid h0
        clear h0
        go_wp2_with fail
        refine HP.out.mono ?_
        rintro e w1 ⟨rfl, hb1⟩
        have HB1 := hid (HBa.out.trans (hb1.mono HBa.out.size))
        clear hb1
        go_wp2_with fail
        go_ret
        refine ⟨_, rfl, ?_, HB1.out.alloc HB1.out.size _⟩
        rw [codeE_some HF.out, HF.out]
        exact fault_at H0.out _
    · have HF := hid (fstE_none (E := E) (n := L.length) (fun j hj => HE.out j (by omega)))
      go_wp2_with fail
      go_ret
      refine ⟨_, rfl, ?_, HB.out⟩
      rw [codeE_none HF.out, HF.out]
      rfl
theorem first_none (K : Nat) (cb : Array Value) (E : Nat → Nat) (a : Option Addr) (c : Nat) (A : Nat → Addr) (w : World) :
    Calls Tryz.prog 114 #[.slice a 0 c, .func (.func K) #[] cb] w fun e w' => ∃ v, e = .returned v ∧ ErrAt w' A v (codeE E 0) (fstE E 0) ∧ Below w.heap.size w w' := by
  go_enter Tryz.func114, Tryz.ntmps114
  go_wp2_with fail
  go_loopw [10] (fun i wr => i = .int .i64 0 ∧ wr = w) (fun i _ => 0)
  case atStart => exact ⟨rfl, rfl⟩
  case round =>
    obtain ⟨rfl, rfl⟩ := hrel
    go_wp2_with fail
    go_ret
    exact ⟨_, rfl, rfl, Below.refl _ _⟩
theorem first_any (K : Nat) (cb : Array Value) (E : Nat → Nat) (L : List Bm) (v : Value) (A : Nat → Addr) (w : World) (eg : ∀ args w, (callFunc K args).run Tryz.prog w = .ok (.enter K args) w) (hL : L.length ≤ 1000000) (hv : MsAt w v L)
    (hK : ∀ i (h : i < L.length) W, Below w.heap.size w W → Calls Tryz.prog K (#[.int .i64 (i : Int), .agg #[.string L[i].1, .string L[i].2]] ++ cb) W fun e w' => e = .returned (errA A (E i)) ∧ Below W.heap.size W w') :
    Calls Tryz.prog 114 #[v, .func (.func K) #[] cb] w fun e w' => ∃ u, e = .returned u ∧ ErrAt w' A u (codeE E L.length) (fstE E L.length) ∧ Below w.heap.size w w' := by
  obtain ⟨a, c, rfl, _, h⟩ := hv
  cases L with
  | nil => exact first_none K cb E a c A w
  | cons x r =>
    obtain ⟨b, o, rfl, h2⟩ := h (by simp)
    exact first_mods K cb E (x :: r) b o c A w eg hL h2 hK
end Ve
end Go.Proofs.YtanponneancajaaGreatDoor


namespace Go.Proofs.YtanponneancajaaGreatDoor
open Go.RowKit
namespace Ve
theorem modSame (p v q u : ByteArray) (w : World) : (Op.equalIn 10000 51 (.agg #[.string p, .string v]) (.agg #[.string q, .string u])).run Tryz.prog w = .ok (decide (p = q ∧ v = u)) w := by
  have u3 := Tryz.underlying9
  have a3 := Tryz.isAgg9
  have z3 := Tryz.sizeOf9
  have hS : Tryz.prog.underlying 51 = some (.struct (Tryz.prog.fieldsOf 51)) := by kernel_rfl
  have hp : Tryz.prog.stoodInHeld 51 = false := by kernel_rfl
  rw [show (10000 : Nat) = 9999 + 1 from rfl, run_equalIn_agg w 9999 51 _ _ hS hp]
  simp only [Program.fieldsOf, Tryz.underlying51]
  by_cases h1 : p = q
  · subst h1
    by_cases h2 : v = u
    · subst h2
      have e1 := str_refl p
      have e2 := str_refl v
      go_simp
    · have e1 := str_refl p
      have e2 := str_ne h2
      go_simp
  · have e1 := str_ne h1
    go_simp
theorem modEql (p v q u : ByteArray) (w : World) : (binOp .eql 51 (.agg #[.string p, .string v]) (.agg #[.string q, .string u])).run Tryz.prog w = .ok (.bool (decide (p = q ∧ v = u))) w := by
  rw [run_eql_struct, modSame]; rfl
theorem modNeq (p v q u : ByteArray) (w : World) : (binOp .neq 51 (.agg #[.string p, .string v]) (.agg #[.string q, .string u])).run Tryz.prog w = .ok (.bool (!decide (p = q ∧ v = u))) w := by
  rw [run_neq_struct, modSame]; rfl
theorem modGuard : Tryz.prog.eqGuardType Tryz.prog.depth 51 = false := by kernel_rfl
end Ve
end Go.Proofs.YtanponneancajaaGreatDoor


namespace Go.Proofs.YtanponneancajaaGreatDoor
open Go.RowKit
namespace Ve
abbrev Raw := Bm × Value × Value × Bool
def rawV (r : Raw) : Value := .agg #[.string r.1.1, .string r.1.2, r.2.1, r.2.2.1, .bool r.2.2.2]
def slR (r : Raw) : Prop := (∃ a n c, r.2.1 = .slice a n c) ∧ ∃ a n c, r.2.2.1 = .slice a n c
def EsAt (w : World) (v : Value) (L : List Raw) : Prop :=
  ∃ (a : Option Addr) (c : Nat), v = .slice a L.length c ∧ L.length ≤ c ∧ (∀ r, r ∈ L → slR r) ∧ (L ≠ [] → ∃ b o, a = some ⟨b, o, none⟩ ∧ ∀ j (h : j < L.length), w.cell? ⟨b, o + j * 5, none⟩ = some (.string L[j].1.1) ∧ w.cell? ⟨b, o + j * 5 + 1, none⟩ = some (.string L[j].1.2) ∧
    w.cell? ⟨b, o + j * 5 + 2, none⟩ = some L[j].2.1 ∧ w.cell? ⟨b, o + j * 5 + 3, none⟩ = some L[j].2.2.1 ∧ w.cell? ⟨b, o + j * 5 + 4, none⟩ = some (.bool L[j].2.2.2))
theorem EsAt.below {w w' : World} {v : Value} {L : List Raw} (h : EsAt w v L) (hb : Below w.heap.size w w') : EsAt w' v L := by
  obtain ⟨a, c, e, hc, hs, h⟩ := h
  refine ⟨a, c, e, hc, hs, fun hL => ?_⟩
  obtain ⟨b, o, e2, h2⟩ := h hL
  exact ⟨b, o, e2, fun j hj => ⟨cell_below hb (h2 j hj).1, cell_below hb (h2 j hj).2.1, cell_below hb (h2 j hj).2.2.1, cell_below hb (h2 j hj).2.2.2.1, cell_below hb (h2 j hj).2.2.2.2⟩⟩
def idxE (P : Raw → Bool) (L : List Raw) (i : Nat) : Nat := match L[i]? with
  | some r => if P r then 1 else 0
  | none => 0
def idxOf (P : Raw → Bool) (L : List Raw) : Int := match fstE (idxE P L) L.length with
  | some k => (k : Int)
  | none => -1
theorem idxE_at {P : Raw → Bool} {L : List Raw} {i : Nat} (h : i < L.length) : idxE P L i = if P L[i] then 1 else 0 := by unfold idxE; rw [List.getElem?_eq_getElem h]
theorem idxE_zero {P : Raw → Bool} {L : List Raw} {n : Nat} (hn : n ≤ L.length) (h : ∀ j (hj : j < L.length), j < n → P L[j] = false) : ∀ j, j < n → idxE P L j = 0 := fun j hj => by
  rw [idxE_at (by omega), h j (by omega) hj]; rfl
theorem idx_hit {P : Raw → Bool} {L : List Raw} {k : Nat} (hk : k < L.length) (h0 : ∀ j (hj : j < L.length), j < k → P L[j] = false) (h : P L[k] = true) : idxOf P L = (k : Int) := by
  unfold idxOf
  rw [fstE_some (idxE_zero (by omega) h0) (by rw [idxE_at hk, if_pos h]; decide) hk]
theorem idx_next {P : Raw → Bool} {L : List Raw} {k : Nat} (hk : k < L.length) (h0 : ∀ j (hj : j < L.length), j < k → P L[j] = false) (h : P L[k] = false) : ∀ j (hj : j < L.length), j < k + 1 → P L[j] = false := fun j hj hjk => by
  rcases Nat.lt_or_ge j k with h1 | h1
  · exact h0 j hj h1
  · have : j = k := by omega
    subst this; exact h
set_option maxHeartbeats 2000000 in
set_option maxRecDepth 100000 in
theorem idxF_some (K : Nat) (cb : Array Value) (P : Raw → Bool) (L : List Raw) (b o c : Nat) (w : World) (eg : ∀ args w, (callFunc K args).run Tryz.prog w = .ok (.enter K args) w) (hL : L.length ≤ 1000000) (hs : ∀ r, r ∈ L → slR r)
    (hc : ∀ j (h : j < L.length), w.cell? ⟨b, o + j * 5, none⟩ = some (.string L[j].1.1) ∧ w.cell? ⟨b, o + j * 5 + 1, none⟩ = some (.string L[j].1.2) ∧ w.cell? ⟨b, o + j * 5 + 2, none⟩ = some L[j].2.1 ∧ w.cell? ⟨b, o + j * 5 + 3, none⟩ = some L[j].2.2.1 ∧ w.cell? ⟨b, o + j * 5 + 4, none⟩ = some (.bool L[j].2.2.2))
    (hK : ∀ i (h : i < L.length) W, Below w.heap.size w W → Calls Tryz.prog K (#[rawV L[i]] ++ cb) W fun e w' => e = .returned (.bool (P L[i])) ∧ Below W.heap.size W w') :
    Calls Tryz.prog 70 #[.slice (some ⟨b, o, none⟩) L.length c, .func (.func K) #[] cb] w fun e w' => e = .returned (.int .i64 (idxOf P L)) ∧ Below w.heap.size w w' := by
  have HK := hid hK
  have HC := hid hc
  have HSL := hid hs
  generalize hr : idxOf P L = r
  have HR := hid hr
  clear hK hc hr hs
  go_enter Tryz.func70, Tryz.ntmps70
  go_wp2_with fail
  go_loopw [8] (fun i wr => ∃ k : Nat, k ≤ L.length ∧ i = .int .i64 k ∧ Hid (∀ j (h : j < L.length), j < k → P L[j] = false) ∧ Hid (Below w.heap.size w wr)) (fun i _ => L.length - (intOf i).toNat)
  case atStart => exact ⟨0, Nat.zero_le _, rfl, hid (fun j _ hj => absurd hj (by omega)), hid (Below.refl _ _)⟩
  case round =>
    obtain ⟨k, hk, rfl, HA, HB⟩ := hrel
    by_cases hlt : k < L.length
    · have HP := hid (HK.out k hlt wr HB.out)
      obtain ⟨y0, y1, y2, y3, y4⟩ := HC.out k hlt
      have x0 := cell_below HB.out y0
      have x1 := cell_below HB.out y1
      have x2 := cell_below HB.out y2
      have x3 := cell_below HB.out y3
      have x4 := cell_below HB.out y4
      obtain ⟨⟨ra, rn, rc, hrv⟩, pa, pn, pc, hpv⟩ := HSL.out L[k] (List.getElem_mem hlt)
      have hkI : (k : Int) < (L.length : Int) := by omega
      have HLT := hid hlt
      have HF := hid (fun h => idx_hit hlt HA.out h)
      have HN := hid (fun h => idx_next hlt HA.out h)
      rw [hrv] at x2
      rw [hpv] at x3
      unfold rawV at HP
      rw [hrv, hpv] at HP
      clear y0 y1 y2 y3 y4
      generalize hx : L[k] = x at *
      cases hp : P x
      · rw [hp] at HP
        have HN2 := hid (HN.out hp)
        clear hp hx hrv hpv hlt
        go_wp2_with fail
        refine HP.out.mono ?_
        rintro e w1 ⟨rfl, hb⟩
        have HB1 := hid (HB.out.trans (hb.mono HB.out.size))
        clear hb
        go_wp2_with fail
        go_roundw
        case rel => exact ⟨k + 1, by have := HLT.out; omega, by go_num, HN2, HB1⟩
        case measure => have := HLT.out; simp [intOf]; omega
      · rw [hp] at HP
        have HF2 := hid (HF.out hp)
        clear hp hx hrv hpv hlt
        go_wp2_with fail
        refine HP.out.mono ?_
        rintro e w1 ⟨rfl, hb⟩
        have HB1 := hid (HB.out.trans (hb.mono HB.out.size))
        clear hb
        go_wp2_with fail
        go_ret
        exact ⟨by rw [← HR.out, HF2.out]; rfl, HB1.out⟩
    · have HF := hid (show idxOf P L = -1 by unfold idxOf; rw [fstE_none (idxE_zero (Nat.le_refl _) (fun j hj _ => HA.out j hj (by omega)))])
      go_wp2_with fail
      go_ret
      exact ⟨by rw [← HR.out, HF.out]; rfl, HB.out⟩
theorem idxF_none (K : Nat) (cb : Array Value) (a : Option Addr) (c : Nat) (w : World) :
    Calls Tryz.prog 70 #[.slice a 0 c, .func (.func K) #[] cb] w fun e w' => e = .returned (.int .i64 (-1)) ∧ Below w.heap.size w w' := by
  go_enter Tryz.func70, Tryz.ntmps70
  go_wp2_with fail
  go_loopw [8] (fun i wr => i = .int .i64 0 ∧ wr = w) (fun i _ => 0)
  case atStart => exact ⟨rfl, rfl⟩
  case round =>
    obtain ⟨rfl, rfl⟩ := hrel
    go_wp2_with fail
    go_ret
    exact ⟨rfl, Below.refl _ _⟩
theorem idxF_any (K : Nat) (cb : Array Value) (P : Raw → Bool) (L : List Raw) (v : Value) (w : World) (eg : ∀ args w, (callFunc K args).run Tryz.prog w = .ok (.enter K args) w) (hL : L.length ≤ 1000000) (hv : EsAt w v L)
    (hK : ∀ i (h : i < L.length) W, Below w.heap.size w W → Calls Tryz.prog K (#[rawV L[i]] ++ cb) W fun e w' => e = .returned (.bool (P L[i])) ∧ Below W.heap.size W w') :
    Calls Tryz.prog 70 #[v, .func (.func K) #[] cb] w fun e w' => e = .returned (.int .i64 (idxOf P L)) ∧ Below w.heap.size w w' := by
  obtain ⟨a, c, rfl, _, hs, h⟩ := hv
  cases L with
  | nil => exact idxF_none K cb a c w
  | cons x r =>
    obtain ⟨b, o, rfl, h2⟩ := h (by simp)
    exact idxF_some K cb P (x :: r) b o c w eg hL hs h2 hK
def isM (m : Bm) (r : Raw) : Bool := decide (r.1.1 = m.1 ∧ r.1.2 = m.2)
set_option maxHeartbeats 1000000 in
theorem findK_any (m : Bm) (r : Raw) (hs : slR r) (b : Nat) (W : World) (h0 : W.cell? ⟨b, 0, none⟩ = some (.string m.1)) (h1 : W.cell? ⟨b, 1, none⟩ = some (.string m.2)) :
    Calls Tryz.prog 71 (#[rawV r] ++ #[.pointer (some ⟨b, 0, none⟩)]) W fun e w' => e = .returned (.bool (isM m r)) ∧ Below W.heap.size W w' := by
  obtain ⟨⟨p, v⟩, rv, pv, bk⟩ := r
  obtain ⟨⟨ra, rn, rc, rfl⟩, pa, pn, pc, rfl⟩ := hs
  have heq := fun W => modEql p v m.1 m.2 W
  have hgd := modGuard
  show Calls Tryz.prog 71 #[.agg #[.string p, .string v, .slice ra rn rc, .slice pa pn pc, .bool bk], .pointer (some ⟨b, 0, none⟩)] W _
  unfold isM
  have HB0 := hid ((Below.refl W.heap.size W).alloc (Nat.le_refl _) (.cells #[.string p, .string v, .slice ra rn rc, .slice pa pn pc, .bool bk] 54))
  have c0 := cell_below HB0.out h0
  have c1 := cell_below HB0.out h1
  have hbb : ¬ b = W.heap.size := by have := lt_of_cell h0; simp at this; omega
  have hbb2 : ¬ W.heap.size = b := fun h => hbb h.symm
  generalize decide (p = m.1 ∧ v = m.2) = z at *
  go_enter Tryz.func71, Tryz.ntmps71
  go_wp2_with fail
  go_ret
  exact ⟨rfl, HB0.out⟩
set_option maxHeartbeats 1000000 in
theorem find_any (L : List Raw) (m : Bm) (v : Value) (w : World) (hL : L.length ≤ 1000000) (hv : EsAt w v L) :
    Calls Tryz.prog 27 #[v, .agg #[.string m.1, .string m.2]] w fun e w' => e = .returned (.int .i64 (idxOf (isM m) L)) ∧ Below w.heap.size w w' := by
  obtain ⟨a, c, hv1, _, hs, _⟩ := id hv
  have HB0 := hid ((Below.refl w.heap.size w).alloc (Nat.le_refl _) (.cells #[.string m.1, .string m.2] 51))
  have eg : ∀ args w, (callFunc 71 args).run Tryz.prog w = .ok (.enter 71 args) w := enters_of Tryz.func71 (by kernel_rfl) rfl
  have HF := hid (idxF_any 71 #[.pointer (some ⟨w.heap.size, 0, none⟩)] (isM m) L v (w.alloc (.cells #[.string m.1, .string m.2] 51)) eg hL (hv.below HB0.out) (fun i hi W hW =>
    findK_any m L[i] (hs L[i] (List.getElem_mem hi)) w.heap.size W (cell_below hW (by simp)) (cell_below hW (by simp))))
  subst hv1
  clear hv hs eg
  go_enter Tryz.func27, Tryz.ntmps27
  go_wp2_with fail
  refine HF.out.mono ?_
  rintro e w1 ⟨rfl, hb⟩
  have HB := hid (HB0.out.trans (hb.mono HB0.out.size))
  clear hb
  go_wp2_with fail
  go_ret
  exact ⟨rfl, HB.out⟩
end Ve
end Go.Proofs.YtanponneancajaaGreatDoor
