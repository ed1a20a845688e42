
import Derived.Test.YtemhofbhmnnijaaGreatDoorPj46
import Derived.Test.YtemhofbhmnnijaaGreatDoorPj47
namespace Go.Proofs.YtemhofbhmnnijaaGreatDoor
open Go.RowKit Go.Maps
namespace Ve
theorem tail_eq (p : ByteArray) : ((p.extract (p.size - 4) p.size).toList == [47, 46, 46, 46]) = decide (p.data.toList.drop (p.size - 4) = slashDots) := by
  rw [ByteArray.toList_eq, extract_list, List.take_of_length_le (by rw [List.length_drop, len_eq]; exact Nat.le_refl _), Bool.eq_iff_iff, beq_iff_eq, decide_eq_true_iff]; rfl
set_option maxRecDepth 100000 in
set_option maxHeartbeats 2000000 in
theorem rism_any (p s : ByteArray) (w : World) (hp : p.size ≤ 1000) (hs : s.size ≤ 1000) :
    Calls Tryz.prog 10 #[.string p, .string s] w fun e w' => e = .returned (.bool (ismB p s)) ∧ Below w.heap.size w w' := by
  have HM := hid (rmat_any p s w hp hs)
  have HZ := hid (show ismB p s = (matB p s || (decide (4 ≤ p.size) && (decide (p.data.toList.drop (p.size - 4) = slashDots) && matB (p.extract 0 (p.size - 4)) s))) from rfl)
  generalize ismB p s = z at *
  cases hm : matB p s
  · rw [hm] at HM
    rw [hm, Bool.false_or] at HZ
    by_cases h4 : 4 ≤ p.size
    · have h4I : ¬ (p.size : Int) < 4 := by omega
      have HT := hid (tail_eq p)
      have HM2 := hid (fun W => rmat_any (p.extract 0 (p.size - 4)) s W (by rw [ByteArray.size_extract]; omega) hs)
      rw [decide_eq_true h4, Bool.true_and] at HZ
      have hx1 : (p.size : Int) - 4 = ((p.size - 4 : Nat) : Int) := by omega
      have hx2 : ((p.size - 4 : Nat) : Int) ≤ (p.size : Int) := by omega
      have hx0 := ix_pos (p.size - 4)
      have hw64 : wrap64 ((p.size - 4 : Nat) : Int) = ((p.size - 4 : Nat) : Int) := IntWalk.wrap64_in _ (by omega)
      have hk64 : IntKind.i64.wrap ((p.size - 4 : Nat) : Int) = ((p.size - 4 : Nat) : Int) := by rw [IntKind.wrap_i64] <;> omega
      have htn : ((p.size - 4 : Nat) : Int).toNat = p.size - 4 := Int.toNat_natCast _
      by_cases hd : p.data.toList.drop (p.size - 4) = slashDots
      · have hq : ((p.extract (p.size - 4) p.size).toList == [47, 46, 46, 46]) = true := by rw [HT.out]; exact decide_eq_true hd
        rw [decide_eq_true hd, Bool.true_and] at HZ
        clear hm h4 hd HT
        go_enter Tryz.func10, Tryz.ntmps10
        go_wp2_with fail
        refine HM.out.mono ?_
        rintro e w1 ⟨rfl, hb⟩
        have HB := hid hb
        clear hb
        go_wp2_with fail
        refine (HM2.out _).mono ?_
        rintro e w2 ⟨rfl, hb⟩
        have HB2 := hid (HB.out.trans (hb.mono HB.out.size))
        clear hb
        go_wp2_with fail
        go_ret
        exact ⟨ret_bool HZ.out.symm, HB2.out⟩
      · have hq : ((p.extract (p.size - 4) p.size).toList == [47, 46, 46, 46]) = false := by rw [HT.out]; exact decide_eq_false hd
        rw [decide_eq_false hd, Bool.false_and] at HZ
        clear hm h4 hd HT HM2
        go_enter Tryz.func10, Tryz.ntmps10
        go_wp2_with fail
        refine HM.out.mono ?_
        rintro e w1 ⟨rfl, hb⟩
        have HB := hid hb
        clear hb
        go_wp2_with fail
        go_ret
        exact ⟨ret_bool HZ.out.symm, HB.out⟩
    · have h4I : (p.size : Int) < 4 := by omega
      rw [decide_eq_false h4, Bool.false_and] at HZ
      clear hm h4
      go_enter Tryz.func10, Tryz.ntmps10
      go_wp2_with fail
      refine HM.out.mono ?_
      rintro e w1 ⟨rfl, hb⟩
      have HB := hid hb
      clear hb
      go_wp2_with fail
      go_ret
      exact ⟨ret_bool HZ.out.symm, HB.out⟩
  · rw [hm] at HM
    rw [hm, Bool.true_or] at HZ
    clear hm
    go_enter Tryz.func10, Tryz.ntmps10
    go_wp2_with fail
    refine HM.out.mono ?_
    rintro e w1 ⟨rfl, hb⟩
    have HB := hid hb
    clear hb
    go_wp2_with fail
    go_ret
    exact ⟨ret_bool HZ.out.symm, HB.out⟩
set_option maxRecDepth 100000 in
set_option maxHeartbeats 2000000 in
theorem riw_any (p : ByteArray) (w : World) (hp : p.size ≤ 1000) :
    Calls Tryz.prog 5 #[.string p] w fun e w' => e = .returned (.bool (wildB p)) ∧ Below w.heap.size w w' := by
  have HBG := hid (fun x W => rbeg_any x ⟨#[46, 46, 46]⟩ W)
  have hlp : p.data.toList.length = p.size := len_eq p
  have HY := hid (fun i (hi : i < p.size) (h : dots.isPrefixOf (p.data.toList.drop i) = true) => show wildB p = true from (tok_wild _).2 ⟨i, by rw [hlp]; exact hi, h⟩)
  have HNO := hid (fun (h : ∀ i, i < p.size → dots.isPrefixOf (p.data.toList.drop i) = false) => show wildB p = false by
    cases hw : wildB p
    · rfl
    · obtain ⟨i, hi, hd⟩ := (tok_wild _).1 hw
      rw [h i (by rw [← hlp]; exact hi)] at hd; cases hd)
  clear hlp
  go_enter Tryz.func5, Tryz.ntmps5
  go_wp2_with fail
  go_loopw [3] (fun iv wr => ∃ i : Nat, i ≤ p.size ∧ iv = .int .i64 i ∧ Hid (∀ j, j < i → dots.isPrefixOf (p.data.toList.drop j) = false) ∧ wr = w) (fun iv _ => p.size - (intOf iv).toNat)
  case atStart => exact ⟨0, Nat.zero_le _, rfl, hid (fun j hj => absurd hj (Nat.not_lt_zero _)), rfl⟩
  case round =>
    obtain ⟨i, hi, rfl, HA, rfl⟩ := hrel
    by_cases hlt : i < p.size
    · have hiI := ix_lt hlt
      have hi0 := ix_pos i
      have HLT := hid hlt
      have HBI := hid (HBG.out (p.extract i p.size) wr)
      rw [beg_dots] at HBI
      cases hd : dots.isPrefixOf (p.data.toList.drop i)
      · rw [hd] at HBI
        have HA2 := hid (show ∀ j, j < i + 1 → dots.isPrefixOf (p.data.toList.drop j) = false from fun j hj => by
          rcases Nat.lt_or_ge j i with h | h
          · exact HA.out j h
          · have : j = i := by omega
            subst this; exact hd)
        clear hd hlt
        go_wp2_with fail
        refine HBI.out.mono ?_
        rintro e w2 ⟨rfl, rfl⟩
        go_wp2_with fail
        go_roundw
        case rel => exact ⟨i + 1, HLT.out, by first | exact nr_idx i | exact nx_idx HLT.out (by omega : p.size ≤ 1000000), HA2, by first | rfl | trivial⟩
        case measure => first | exact nr_meas HLT.out | exact nx_meas HLT.out (by omega : p.size ≤ 1000000)
      · rw [hd] at HBI
        have HW := hid (HY.out i hlt hd)
        clear hd hlt
        go_wp2_with fail
        refine HBI.out.mono ?_
        rintro e w2 ⟨rfl, rfl⟩
        go_wp2_with fail
        go_ret
        exact ⟨ret_bool HW.out.symm, Below.refl _ _⟩
    · have hiI := ix_nlt hlt
      have HW := hid (HNO.out (fun j hj => HA.out j (by omega)))
      clear hlt
      go_wp2_with fail
      go_ret
      exact ⟨ret_bool HW.out.symm, Below.refl _ _⟩
def patE (p : ByteArray) : Nat := if pathErr (xsOf p.data.toList) = 4 then 0 else pathErr (xsOf p.data.toList)
def XsAt (p : List UInt8) (i : Nat) (S : ByteArray) : Prop := ∃ T, tok p = T ++ tok (p.drop i) ∧ S.data.toList = T.map (fun t => t.getD 120) ∧ S.size ≤ i
theorem xs_any {p : List UInt8} {i : Nat} {S : ByteArray} (h : XsAt p i S) (hd : dots.isPrefixOf (p.drop i) = true) : XsAt p (i + 3) (S ++ ⟨#[120]⟩) := by
  obtain ⟨T, h1, h2, h3⟩ := h
  refine ⟨_, tok_read_any h1 hd, by rw [List.map_append, ← h2]; simp, ?_⟩
  rw [ByteArray.size_append]
  have : (⟨#[120]⟩ : ByteArray).size = 1 := rfl
  omega
theorem xs_one {p S : ByteArray} {i : Nat} (hi : i < p.size) (h : XsAt p.data.toList i S) (hd : dots.isPrefixOf (p.data.toList.drop i) = false) : XsAt p.data.toList (i + 1) (S ++ p.extract i (i + 1)) := by
  obtain ⟨T, h1, h2, h3⟩ := h
  have hl : i < p.data.toList.length := by rw [len_eq]; exact hi
  refine ⟨_, tok_read_one hl h1 hd, ?_, ?_⟩
  · rw [List.map_append, ← h2]
    have he : (p.extract i (i + 1)).data.toList = [p.data.toList[i]] := by
      rw [extract_list, List.drop_eq_getElem_cons hl, show i + 1 - i = 1 by omega]; rfl
    show (S ++ p.extract i (i + 1)).data.toList = S.data.toList ++ [p.data.toList[i]]
    rw [← he]; simp
  · rw [ByteArray.size_append, ByteArray.size_extract]
    omega
set_option maxRecDepth 100000 in
set_option maxHeartbeats 2000000 in
theorem rpe_any (p : ByteArray) (w : World) (hp : p.size ≤ 1000) :
    Calls Tryz.prog 8 #[.string p] w fun e w' => e = .returned (.int .i64 (patE p : Nat)) ∧ Below w.heap.size w w' := by
  have HBG := hid (fun x W => rbeg_any x ⟨#[46, 46, 46]⟩ W)
  have HLP := hid (len_eq p)
  have HPE := hid (fun S (hS : S.size ≤ 1000) => pathError_any S w (by omega))
  have HPZ := hid (show patE p = if pathErr (xsOf p.data.toList) = 4 then 0 else pathErr (xsOf p.data.toList) from rfl)
  generalize patE p = z at *
  go_enter Tryz.func8, Tryz.ntmps8
  go_wp2_with fail
  go_loopw [3, 4] (fun sv iv wr => ∃ (i : Nat) (S : ByteArray), i ≤ p.size ∧ iv = .int .i64 i ∧ sv = .string S ∧ Hid (XsAt p.data.toList i S) ∧ S.size ≤ 1000 ∧ wr = w) (fun _ iv _ => p.size - (intOf iv).toNat)
  case atStart => exact ⟨0, ⟨#[]⟩, Nat.zero_le _, rfl, rfl, hid ⟨[], rfl, rfl, Nat.le_refl _⟩, Nat.zero_le _, rfl⟩
  case round =>
    obtain ⟨i, S, hi, rfl, rfl, HX, hSz, rfl⟩ := hrel
    by_cases hlt : i < p.size
    · have hiI := ix_lt hlt
      have hi0 := ix_pos i
      have HLT := hid hlt
      have HBI := hid (HBG.out (p.extract i p.size) wr)
      rw [beg_dots] at HBI
      cases hd : dots.isPrefixOf (p.data.toList.drop i)
      · rw [hd] at HBI
        have HX2 := hid (xs_one hlt HX.out hd)
        have hi1 := ix_pos1 i
        have hiw := ix_w1 hlt (by omega : p.size ≤ 1000000)
        have hik := ix_k1 hlt (by omega : p.size ≤ 1000000)
        have hit := ix_nat1 i
        have hile : (i : Int) + 1 ≤ (p.size : Int) := by omega
        have hile2 : (i : Int) ≤ (i : Int) + 1 := by omega
        clear hd hlt
        go_wp2_with fail
        refine HBI.out.mono ?_
        rintro e w2 ⟨rfl, rfl⟩
        go_wp2_with fail
        exact ⟨⟨i + 1, _, HLT.out, rfl, rfl, HX2, by obtain ⟨_, _, _, h⟩ := HX2.out; have := HLT.out; omega, trivial⟩, nr_meas HLT.out⟩
      · rw [hd] at HBI
        have HX2 := hid (xs_any HX.out hd)
        have HRM := hid (dots_room hd)
        have hi3w : wrap64 ((i : Int) + 3) = (i : Int) + 3 := IntWalk.wrap64_in _ (by omega)
        have hi3k : IntKind.i64.wrap ((i : Int) + 3) = (i : Int) + 3 := by rw [IntKind.wrap_i64] <;> omega
        clear hd hlt
        go_wp2_with fail
        refine HBI.out.mono ?_
        rintro e w2 ⟨rfl, rfl⟩
        go_wp2_with fail
        refine ⟨⟨i + 3, _, by have := HRM.out; rw [HLP.out] at this; exact this, rfl, rfl, HX2, by obtain ⟨_, _, _, h⟩ := HX2.out; have := HRM.out; rw [HLP.out] at this; omega, trivial⟩, ?_⟩
        have := HLT.out
        show p.size - ((i : Int) + 3).toNat < p.size - ((i : Int)).toNat
        omega
    · have hiI := ix_nlt hlt
      have hie : i = p.size := by omega
      subst hie
      obtain ⟨T, h1, h2, h3⟩ := HX.out
      rw [List.drop_eq_nil_of_le (Nat.le_of_eq HLP.out), tok_nil, List.append_nil] at h1
      have HS := hid (show S.data.toList = xsOf p.data.toList by rw [h2, ← h1]; rfl)
      have HP := hid (HPE.out S hSz)
      rw [HS.out] at HP
      clear hlt h1 h2 h3
      by_cases h4 : pathErr (xsOf p.data.toList) = 4
      · rw [h4] at HP
        rw [if_pos h4] at HPZ
        clear h4
        go_wp2_with fail
        refine HP.out.mono ?_
        rintro e w2 ⟨rfl, hb⟩
        have HB := hid hb
        clear hb
        go_wp2_with fail
        go_ret
        exact ⟨by rw [HPZ.out]; rfl, HB.out⟩
      · rw [if_neg h4] at HPZ
        have hq : (((pathErr (xsOf p.data.toList) : Nat) : Int) == 4) = false := by rw [beq_eq_false_iff_ne]; omega
        have hq2 : ¬ ((pathErr (xsOf p.data.toList) : Nat) : Int) = 4 := by omega
        generalize pathErr (xsOf p.data.toList) = pe at *
        clear h4
        go_wp2_with fail
        refine HP.out.mono ?_
        rintro e w2 ⟨rfl, hb⟩
        have HB := hid hb
        clear hb
        go_wp2_with fail
        go_ret
        exact ⟨by rw [HPZ.out]; rfl, HB.out⟩
end Ve
end Go.Proofs.YtemhofbhmnnijaaGreatDoor
