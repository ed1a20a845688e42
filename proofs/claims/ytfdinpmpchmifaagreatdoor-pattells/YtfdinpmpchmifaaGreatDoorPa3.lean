/-
  What IsMatch, IsWild and PatternError of the document's answer say.
-/
import Derived.Test.YtfdinpmpchmifaaGreatDoorPa2
import Derived.Test.YtfdinpmpchmifaaGreatDoorRefF
import Derived.Test.YtfdinpmpchmifaaGreatDoorCode
import Derived.Test.YtfdinpmpchmifaaGreatDoorTe
import Derived.Test.YtfdinpmpchmifaaGreatDoorVerE
import Derived.Test.YtfdinpmpchmifaaGreatDoorPa1
import Derived.Deep.AppendLies
import Derived.Test.YtfdinpmpchmifaaGreatDoorModD
namespace Go.Proofs.YtfdinpmpchmifaaGreatDoor
open Go.RowKit Go.Maps
namespace Ve

theorem tail_eq (p : ByteArray) : ((p.extract (p.size - 4) p.size).toList == [47, 46, 46, 46]) = decide (p.data.toList.drop (p.size - 4) = slashDots) := by
  rw [ByteArray.toList_eq, extract_list, List.take_of_length_le (by rw [List.length_drop, len_eq]; exact Nat.le_refl _), Bool.eq_iff_iff, beq_iff_eq, decide_eq_true_iff]; rfl
set_option maxRecDepth 100000 in
set_option maxHeartbeats 2000000 in
/-- pewholderref3.IsMatch. -/
theorem rism_any (p s : ByteArray) (w : World) (hp : p.size ≤ 1000) (hs : s.size ≤ 1000) :
    Calls Tryz.prog 10 #[.string p, .string s] w fun e w' => e = .returned (.bool (ismB p s)) ∧ Below w.heap.size w w' := by
  have HM := hid (rmat_any p s w hp hs)
  have HZ := hid (show ismB p s = (matB p s || (decide (4 ≤ p.size) && (decide (p.data.toList.drop (p.size - 4) = slashDots) && matB (p.extract 0 (p.size - 4)) s))) from rfl)
  generalize ismB p s = z at *
  cases hm : matB p s
  · rw [hm] at HM
    rw [hm, Bool.false_or] at HZ
    by_cases h4 : 4 ≤ p.size
    · have h4I : ¬ (p.size : Int) < 4 := by omega
      have HT := hid (tail_eq p)
      have HM2 := hid (fun W => rmat_any (p.extract 0 (p.size - 4)) s W (by rw [ByteArray.size_extract]; omega) hs)
      rw [decide_eq_true h4, Bool.true_and] at HZ
      have hx1 : (p.size : Int) - 4 = ((p.size - 4 : Nat) : Int) := by omega
      have hx2 : ((p.size - 4 : Nat) : Int) ≤ (p.size : Int) := by omega
      have hx0 := ix_pos (p.size - 4)
      have hw64 : wrap64 ((p.size - 4 : Nat) : Int) = ((p.size - 4 : Nat) : Int) := IntWalk.wrap64_in _ (by omega)
      have hk64 : IntKind.i64.wrap ((p.size - 4 : Nat) : Int) = ((p.size - 4 : Nat) : Int) := by rw [IntKind.wrap_i64] <;> omega
      have htn : ((p.size - 4 : Nat) : Int).toNat = p.size - 4 := Int.toNat_natCast _
      by_cases hd : p.data.toList.drop (p.size - 4) = slashDots
      · have hq : ((p.extract (p.size - 4) p.size).toList == [47, 46, 46, 46]) = true := by rw [HT.out]; exact decide_eq_true hd
        rw [decide_eq_true hd, Bool.true_and] at HZ
        clear hm h4 hd HT
        go_enter Tryz.func10, Tryz.ntmps10
        go_wp2_with fail
        refine HM.out.mono ?_
        rintro e w1 ⟨rfl, hb⟩
        have HB := hid hb
        clear hb
        go_wp2_with fail
        refine (HM2.out _).mono ?_
        rintro e w2 ⟨rfl, hb⟩
        have HB2 := hid (HB.out.trans (hb.mono HB.out.size))
        clear hb
        go_wp2_with fail
        go_ret
        exact ⟨ret_bool HZ.out.symm, HB2.out⟩
      · have hq : ((p.extract (p.size - 4) p.size).toList == [47, 46, 46, 46]) = false := by rw [HT.out]; exact decide_eq_false hd
        rw [decide_eq_false hd, Bool.false_and] at HZ
        clear hm h4 hd HT HM2
        go_enter Tryz.func10, Tryz.ntmps10
        go_wp2_with fail
        refine HM.out.mono ?_
        rintro e w1 ⟨rfl, hb⟩
        have HB := hid hb
        clear hb
        go_wp2_with fail
        go_ret
        exact ⟨ret_bool HZ.out.symm, HB.out⟩
    · have h4I : (p.size : Int) < 4 := by omega
      rw [decide_eq_false h4, Bool.false_and] at HZ
      clear hm h4
      go_enter Tryz.func10, Tryz.ntmps10
      go_wp2_with fail
      refine HM.out.mono ?_
      rintro e w1 ⟨rfl, hb⟩
      have HB := hid hb
      clear hb
      go_wp2_with fail
      go_ret
      exact ⟨ret_bool HZ.out.symm, HB.out⟩
  · rw [hm] at HM
    rw [hm, Bool.true_or] at HZ
    clear hm
    go_enter Tryz.func10, Tryz.ntmps10
    go_wp2_with fail
    refine HM.out.mono ?_
    rintro e w1 ⟨rfl, hb⟩
    have HB := hid hb
    clear hb
    go_wp2_with fail
    go_ret
    exact ⟨ret_bool HZ.out.symm, HB.out⟩
set_option maxRecDepth 100000 in
set_option maxHeartbeats 2000000 in
/-- pewholderref3.IsWild. -/
theorem riw_any (p : ByteArray) (w : World) (hp : p.size ≤ 1000) :
    Calls Tryz.prog 5 #[.string p] w fun e w' => e = .returned (.bool (wildB p)) ∧ Below w.heap.size w w' := by
  have HBG := hid (fun x W => rbeg_any x ⟨#[46, 46, 46]⟩ W)
  have hlp : p.data.toList.length = p.size := len_eq p
  have HY := hid (fun i (hi : i < p.size) (h : dots.isPrefixOf (p.data.toList.drop i) = true) => show wildB p = true from (tok_wild _).2 ⟨i, by rw [hlp]; exact hi, h⟩)
  have HNO := hid (fun (h : ∀ i, i < p.size → dots.isPrefixOf (p.data.toList.drop i) = false) => show wildB p = false by
    cases hw : wildB p
    · rfl
    · obtain ⟨i, hi, hd⟩ := (tok_wild _).1 hw
      rw [h i (by rw [← hlp]; exact hi)] at hd; cases hd)
  clear hlp
  go_enter Tryz.func5, Tryz.ntmps5
  go_wp2_with fail
  go_loopw [3] (fun iv wr => ∃ i : Nat, i ≤ p.size ∧ iv = .int .i64 i ∧ Hid (∀ j, j < i → dots.isPrefixOf (p.data.toList.drop j) = false) ∧ wr = w) (fun iv _ => p.size - (intOf iv).toNat)
  case atStart => exact ⟨0, Nat.zero_le _, rfl, hid (fun j hj => absurd hj (Nat.not_lt_zero _)), rfl⟩
  case round =>
    obtain ⟨i, hi, rfl, HA, rfl⟩ := hrel
    by_cases hlt : i < p.size
    · have hiI := ix_lt hlt
      have hi0 := ix_pos i
      have HLT := hid hlt
      have HBI := hid (HBG.out (p.extract i p.size) wr)
      rw [beg_dots] at HBI
      cases hd : dots.isPrefixOf (p.data.toList.drop i)
      · rw [hd] at HBI
        have HA2 := hid (show ∀ j, j < i + 1 → dots.isPrefixOf (p.data.toList.drop j) = false from fun j hj => by
          rcases Nat.lt_or_ge j i with h | h
          · exact HA.out j h
          · have : j = i := by omega
            subst this; exact hd)
        clear hd hlt
        go_wp2_with fail
        refine HBI.out.mono ?_
        rintro e w2 ⟨rfl, rfl⟩
        go_wp2_with fail
        go_roundw
        case rel => exact ⟨i + 1, HLT.out, by first | exact nr_idx i | exact nx_idx HLT.out (by omega : p.size ≤ 1000000), HA2, by first | rfl | trivial⟩
        case measure => first | exact nr_meas HLT.out | exact nx_meas HLT.out (by omega : p.size ≤ 1000000)
      · rw [hd] at HBI
        have HW := hid (HY.out i hlt hd)
        clear hd hlt
        go_wp2_with fail
        refine HBI.out.mono ?_
        rintro e w2 ⟨rfl, rfl⟩
        go_wp2_with fail
        go_ret
        exact ⟨ret_bool HW.out.symm, Below.refl _ _⟩
    · have hiI := ix_nlt hlt
      have HW := hid (HNO.out (fun j hj => HA.out j (by omega)))
      clear hlt
      go_wp2_with fail
      go_ret
      exact ⟨ret_bool HW.out.symm, Below.refl _ _⟩
/-- What is wrong with a pattern. -/
def patE (p : ByteArray) : Nat := if pathErr (xsOf p.data.toList) = 4 then 0 else pathErr (xsOf p.data.toList)
/-- The text so far. -/
def XsAt (p : List UInt8) (i : Nat) (S : ByteArray) : Prop := ∃ T, tok p = T ++ tok (p.drop i) ∧ S.data.toList = T.map (fun t => t.getD 120) ∧ S.size ≤ i
theorem xs_any {p : List UInt8} {i : Nat} {S : ByteArray} (h : XsAt p i S) (hd : dots.isPrefixOf (p.drop i) = true) : XsAt p (i + 3) (S ++ ⟨#[120]⟩) := by
  obtain ⟨T, h1, h2, h3⟩ := h
  refine ⟨_, tok_read_any h1 hd, by rw [List.map_append, ← h2]; simp, ?_⟩
  rw [ByteArray.size_append]
  have : (⟨#[120]⟩ : ByteArray).size = 1 := rfl
  omega
theorem xs_one {p S : ByteArray} {i : Nat} (hi : i < p.size) (h : XsAt p.data.toList i S) (hd : dots.isPrefixOf (p.data.toList.drop i) = false) : XsAt p.data.toList (i + 1) (S ++ p.extract i (i + 1)) := by
  obtain ⟨T, h1, h2, h3⟩ := h
  have hl : i < p.data.toList.length := by rw [len_eq]; exact hi
  refine ⟨_, tok_read_one hl h1 hd, ?_, ?_⟩
  · rw [List.map_append, ← h2]
    have he : (p.extract i (i + 1)).data.toList = [p.data.toList[i]] := by
      rw [extract_list, List.drop_eq_getElem_cons hl, show i + 1 - i = 1 by omega]; rfl
    show (S ++ p.extract i (i + 1)).data.toList = S.data.toList ++ [p.data.toList[i]]
    rw [← he]; simp
  · rw [ByteArray.size_append, ByteArray.size_extract]
    omega
set_option maxRecDepth 100000 in
set_option maxHeartbeats 2000000 in
/-- pewholderref3.PatternError. -/
theorem rpe_any (p : ByteArray) (w : World) (hp : p.size ≤ 1000) :
    Calls Tryz.prog 8 #[.string p] w fun e w' => e = .returned (.int .i64 (patE p : Nat)) ∧ Below w.heap.size w w' := by
  have HBG := hid (fun x W => rbeg_any x ⟨#[46, 46, 46]⟩ W)
  have HLP := hid (len_eq p)
  have HPE := hid (fun S (hS : S.size ≤ 1000) => pathError_any S w (by omega))
  have HPZ := hid (show patE p = if pathErr (xsOf p.data.toList) = 4 then 0 else pathErr (xsOf p.data.toList) from rfl)
  generalize patE p = z at *
  go_enter Tryz.func8, Tryz.ntmps8
  go_wp2_with fail
  go_loopw [3, 4] (fun sv iv wr => ∃ (i : Nat) (S : ByteArray), i ≤ p.size ∧ iv = .int .i64 i ∧ sv = .string S ∧ Hid (XsAt p.data.toList i S) ∧ S.size ≤ 1000 ∧ wr = w) (fun _ iv _ => p.size - (intOf iv).toNat)
  case atStart => exact ⟨0, ⟨#[]⟩, Nat.zero_le _, rfl, rfl, hid ⟨[], rfl, rfl, Nat.le_refl _⟩, Nat.zero_le _, rfl⟩
  case round =>
    obtain ⟨i, S, hi, rfl, rfl, HX, hSz, rfl⟩ := hrel
    by_cases hlt : i < p.size
    · have hiI := ix_lt hlt
      have hi0 := ix_pos i
      have HLT := hid hlt
      have HBI := hid (HBG.out (p.extract i p.size) wr)
      rw [beg_dots] at HBI
      cases hd : dots.isPrefixOf (p.data.toList.drop i)
      · rw [hd] at HBI
        have HX2 := hid (xs_one hlt HX.out hd)
        have hi1 := ix_pos1 i
        have hiw := ix_w1 hlt (by omega : p.size ≤ 1000000)
        have hik := ix_k1 hlt (by omega : p.size ≤ 1000000)
        have hit := ix_nat1 i
        have hile : (i : Int) + 1 ≤ (p.size : Int) := by omega
        have hile2 : (i : Int) ≤ (i : Int) + 1 := by omega
        clear hd hlt
        go_wp2_with fail
        refine HBI.out.mono ?_
        rintro e w2 ⟨rfl, rfl⟩
        go_wp2_with fail
        exact ⟨⟨i + 1, _, HLT.out, rfl, rfl, HX2, by obtain ⟨_, _, _, h⟩ := HX2.out; have := HLT.out; omega, trivial⟩, nr_meas HLT.out⟩
      · rw [hd] at HBI
        have HX2 := hid (xs_any HX.out hd)
        have HRM := hid (dots_room hd)
        have hi3w : wrap64 ((i : Int) + 3) = (i : Int) + 3 := IntWalk.wrap64_in _ (by omega)
        have hi3k : IntKind.i64.wrap ((i : Int) + 3) = (i : Int) + 3 := by rw [IntKind.wrap_i64] <;> omega
        clear hd hlt
        go_wp2_with fail
        refine HBI.out.mono ?_
        rintro e w2 ⟨rfl, rfl⟩
        go_wp2_with fail
        refine ⟨⟨i + 3, _, by have := HRM.out; rw [HLP.out] at this; exact this, rfl, rfl, HX2, by obtain ⟨_, _, _, h⟩ := HX2.out; have := HRM.out; rw [HLP.out] at this; omega, trivial⟩, ?_⟩
        have := HLT.out
        show p.size - ((i : Int) + 3).toNat < p.size - ((i : Int)).toNat
        omega
    · have hiI := ix_nlt hlt
      have hie : i = p.size := by omega
      subst hie
      obtain ⟨T, h1, h2, h3⟩ := HX.out
      rw [List.drop_eq_nil_of_le (Nat.le_of_eq HLP.out), tok_nil, List.append_nil] at h1
      have HS := hid (show S.data.toList = xsOf p.data.toList by rw [h2, ← h1]; rfl)
      have HP := hid (HPE.out S hSz)
      rw [HS.out] at HP
      clear hlt h1 h2 h3
      by_cases h4 : pathErr (xsOf p.data.toList) = 4
      · rw [h4] at HP
        rw [if_pos h4] at HPZ
        clear h4
        go_wp2_with fail
        refine HP.out.mono ?_
        rintro e w2 ⟨rfl, hb⟩
        have HB := hid hb
        clear hb
        go_wp2_with fail
        go_ret
        exact ⟨by rw [HPZ.out]; rfl, HB.out⟩
      · rw [if_neg h4] at HPZ
        have hq : (((pathErr (xsOf p.data.toList) : Nat) : Int) == 4) = false := by rw [beq_eq_false_iff_ne]; omega
        have hq2 : ¬ ((pathErr (xsOf p.data.toList) : Nat) : Int) = 4 := by omega
        generalize pathErr (xsOf p.data.toList) = pe at *
        clear h4
        go_wp2_with fail
        refine HP.out.mono ?_
        rintro e w2 ⟨rfl, hb⟩
        have HB := hid hb
        clear hb
        go_wp2_with fail
        go_ret
        exact ⟨by rw [HPZ.out]; rfl, HB.out⟩
end Ve
end Go.Proofs.YtfdinpmpchmifaaGreatDoor

/-
  What SameTexts answers of any two lists of texts; a list that was appended is a slice of its own.
-/
namespace Go.Proofs.YtfdinpmpchmifaaGreatDoor
open Go.RowKit
namespace Ve

theorem owned_full {w : World} {base : Nat} {e : TypeId} {v : Value} {X : List ByteArray} (h : w.ownsRow base e 1 v X.length (X.map Value.string)) (hz : X = [] → v = .slice none 0 0) :
    (X = [] ∧ v = .slice none 0 0) ∨ (X ≠ [] ∧ ∃ bk cp, v = .slice (some ⟨bk, 0, none⟩) X.length cp ∧ X.length ≤ cp ∧ bk < w.heap.size ∧ ∀ j (h : j < X.length), w.cell? ⟨bk, 0 + j, none⟩ = some (.string X[j])) := by
  by_cases hX : X = []
  · exact Or.inl ⟨hX, hz hX⟩
  · refine Or.inr ⟨hX, ?_⟩
    obtain ⟨g, cap, e1, e2, e3, e4⟩ := owned_cells h hX
    obtain ⟨_, ⟨_, hn0⟩ | ⟨g', cap', cur, hv, hg, hblk, hcap, hcm, hcs, hct⟩⟩ := h
    · exact absurd (List.length_eq_zero_iff.1 hn0) hX
    · rw [e1] at hv
      simp at hv
      exact ⟨g, cap, e1, by rw [hv.2]; exact hcap, e3, fun j h => by rw [Nat.zero_add]; exact e4 j h⟩

theorem owned_slice {w : World} {base n : Nat} {e : TypeId} {v : Value} {xs : List Value} (h : w.ownsRow base e 1 v n xs) : ∃ a n c, v = .slice a n c := by
  obtain ⟨_, ⟨hv, _⟩ | ⟨g', cap', cur, hv, _⟩⟩ := h
  · exact ⟨_, _, _, hv⟩
  · exact ⟨_, _, _, hv⟩

theorem same_all (sx sa : Option Addr) (cx cp : Nat) (X2 X : List ByteArray) (w : World) (hn : X.length ≤ 1000000)
    (h2 : X2 = [] ∨ ∃ g, sx = some ⟨g, 0, none⟩ ∧ ∀ j (hj : j < X2.length), w.cell? ⟨g, j, none⟩ = some (.string X2[j])) (h1 : X ≠ [] → ∃ bk o, sa = some ⟨bk, o, none⟩ ∧ ∀ j (h : j < X.length), w.cell? ⟨bk, o + j, none⟩ = some (.string X[j])) :
    Calls Tryz.prog 12 #[.slice sx X2.length cx, .slice sa X.length cp] w fun e w' => e = .returned (.bool (decide (X2 = X))) ∧ Below w.heap.size w w' := by
  by_cases hl : X2.length = X.length
  · by_cases hX : X = []
    · subst hX
      have : X2 = [] := List.length_eq_zero_iff.1 hl
      subst this
      exact (same_none sx sa cx cp w).mono fun e w' ⟨e1, e2⟩ => ⟨by rw [e1]; rfl, by rw [e2]; exact Below.refl _ _⟩
    · obtain ⟨bk, o, rfl, hc⟩ := h1 hX
      rcases h2 with rfl | ⟨g, rfl, hg⟩
      · exact absurd (List.length_eq_zero_iff.1 hl.symm) hX
      · rw [← hl]
        exact same_some g 0 cx bk o cp X2 X w hl (by omega) (fun j h => by rw [Nat.zero_add]; exact hg j h) hc
  · have hd : decide (X2 = X) = false := by
      rw [decide_eq_false_iff_not]; intro h; exact hl (by rw [h])
    rw [hd]
    exact (same_len sx sa _ cx _ cp w (beq_eq_false_iff_ne.2 (by omega))).mono fun e w' ⟨e1, e2⟩ => ⟨e1, by rw [e2]; exact Below.refl _ _⟩

end Ve
end Go.Proofs.YtfdinpmpchmifaaGreatDoor

/-
  What coded of the statements (of chapters 10 to 14) answers of an error with its own number.
-/
namespace Go.Proofs.YtfdinpmpchmifaaGreatDoor
open Go.RowKit
namespace Ve

set_option maxHeartbeats 1000000 in
theorem coded3_any (A : Nat → Addr) (c : Nat) (w : World) (S : Er.Sen w A) (hc : c ≤ 10) :
    Calls Tryz.prog 6 #[errA A c, .int .i64 ((c : Nat) : Int)] w fun e w' => e = .returned (.bool true) ∧ Below w.heap.size w w' := by
  have HC := hid (show Calls Tryz.prog 15 #[errA A c] w fun e w' => e = .returned (.tuple #[.int .i64 (c : Nat), .int .i64 (-1)]) ∧ Below w.heap.size w w' by
    cases c with
    | zero => exact (Er.code_nil w).mono fun e w' h => ⟨h.1, by rw [h.2]; exact Below.refl _ _⟩
    | succ j => exact Er.code_sen A j w S (by omega))
  generalize errA A c = x at *
  generalize ((c : Nat) : Int) = z at *
  have e1 : (z == z) = true := beq_self_eq_true z
  clear S hc
  go_enter Tryz.func6, Tryz.ntmps6
  go_wp2_with fail
  refine HC.out.mono ?_
  rintro e w1 ⟨rfl, hb⟩
  have HB := hid hb
  clear hb
  go_wp2_with fail
  go_ret
  exact ⟨rfl, HB.out⟩
end Ve
end Go.Proofs.YtfdinpmpchmifaaGreatDoor

/-
  A row of texts in memory.
-/
namespace Go.Proofs.YtfdinpmpchmifaaGreatDoor
open Go.RowKit
namespace Ve

/-- Texts lie in a slice. -/
def TxAt (w : World) (v : Value) (X : List ByteArray) : Prop :=
  ∃ (a : Option Addr) (c : Nat), v = .slice a X.length c ∧ X.length ≤ c ∧ (X ≠ [] → ∃ b o, a = some ⟨b, o, none⟩ ∧ ∀ j (h : j < X.length), w.cell? ⟨b, o + j, none⟩ = some (.string X[j]))
theorem TxAt.below {w w' : World} {v : Value} {X : List ByteArray} (h : TxAt w v X) (hb : Below w.heap.size w w') : TxAt w' v X := by
  obtain ⟨a, c, e, hc, h⟩ := h
  refine ⟨a, c, e, hc, fun hL => ?_⟩
  obtain ⟨b, o, e2, h2⟩ := h hL
  exact ⟨b, o, e2, fun j hj => cell_below hb (h2 j hj)⟩
theorem own_tx {w : World} {B : Nat} {e : TypeId} {v : Value} {X : List ByteArray} (h : w.ownsRow B e 1 v X.length (X.map Value.string)) : TxAt w v X := by
  obtain ⟨_, ⟨hv, hn0⟩ | ⟨g, cap, cur, hv, hg, hblk, hcap, hcm, hcs, hct⟩⟩ := h
  · exact ⟨none, 0, by rw [hv, hn0], by omega, fun hL => absurd (List.length_eq_zero_iff.1 hn0) hL⟩
  · refine ⟨_, cap, hv, hcap, fun _ => ⟨g, 0, rfl, fun j hj => ?_⟩⟩
    have h1 : (X.map Value.string)[j]? = some (.string X[j]) := by simp [hj]
    rw [← hct, List.getElem?_take, if_pos (by omega)] at h1
    simp only [World.cell?, hblk]
    rw [← h1]; simp
theorem tx_cellK {W : World} {a : Option Addr} {n c : Nat} {X : List ByteArray} (h : TxAt W (.slice a n c) X) {k : Nat} (hk : k < X.length) : ∃ b o, a = some ⟨b, o, none⟩ ∧ W.cell? ⟨b, o + k, none⟩ = some (.string X[k]) := by
  obtain ⟨a', c', e, _, h⟩ := h
  injection e with e1 e2 e3
  subst e1
  obtain ⟨b', o', e4, h4⟩ := h (by intro h0; rw [h0] at hk; simp at hk)
  exact ⟨b', o', e4, h4 k hk⟩
end Ve
end Go.Proofs.YtfdinpmpchmifaaGreatDoor

/-
  pewholderlaw3.PatTells walked: what package pat says of patterns is what the document says, where it answers as it is asked to.
-/
namespace Go.Proofs.YtfdinpmpchmifaaGreatDoor
open Go.RowKit Go.Maps
namespace Ve

def PChkC (T : World → Prop) (A : Nat → Addr) : Prop := ∀ (p : ByteArray) (w : World), p.size ≤ 100 → T w → Calls Tryz.prog 7 #[.string p] w fun e w' => e = .returned (errA A (patE p)) ∧ Below w.heap.size w w'
def SomeC (T : World → Prop) : Prop := ∀ (p : ByteArray) (X : List ByteArray) (v : Value) (w : World), p.size ≤ 100 → X.length ≤ 20 → (∀ x, x ∈ X → x.size ≤ 100) → T w → TxAt w v X →
  Calls Tryz.prog 13 #[.string p, v] w fun e w' => ∃ u, e = .returned u ∧ w'.ownsRow w.heap.size 9 1 u (X.filter (ismB p)).length ((X.filter (ismB p)).map Value.string) ∧ Below w.heap.size w w'
theorem row_kept {W W3 : World} {B n : Nat} {e : TypeId} {u : Value} {xs : List Value} {r : Option Nat} (h : W.ownsRow B e 1 u n xs) (hg : W.grownBy W3 r) (hne : ∀ b, u.ownBlock = some b → r ≠ some b) : W3.ownsRow B e 1 u n xs := by
  refine ⟨h.1, ?_⟩
  rcases h.2 with h0 | ⟨g, cap, cur, e1, e2, e3, e4⟩
  · exact Or.inl h0
  · refine Or.inr ⟨g, cap, cur, e1, e2, ?_, e4⟩
    rw [hg.block g (lt_of_blk e3) (fun e => hne g (by rw [e1]; rfl) e.symm)]; exact e3
/-- Two rows of texts that grow. -/
structure Pw (w W : World) (v u : Value) (X Y : List ByteArray) : Prop where
  own : W.ownsRow w.heap.size 9 1 v X.length (X.map Value.string)
  wnt : W.ownsRow w.heap.size 9 1 u Y.length (Y.map Value.string)
  ap : ∀ b, v.ownBlock = some b → u.ownBlock ≠ some b
  bl : Below w.heap.size w W
theorem Pw.below {w W W' : World} {v u : Value} {X Y : List ByteArray} (h : Pw w W v u X Y) (hb : Below W.heap.size W W') : Pw w W' v u X Y :=
  ⟨owns_below h.own hb, owns_below h.wnt hb, h.ap, h.bl.trans (hb.mono h.bl.size)⟩
theorem Pw.swap {w W : World} {v u : Value} {X Y : List ByteArray} (h : Pw w W v u X Y) : Pw w W u v Y X := ⟨h.wnt, h.own, fun b h1 h2 => h.ap b h2 h1, h.bl⟩
theorem Pw.app {w W W3 : World} {v u : Value} {X Y : List ByteArray} {x : ByteArray} {g cap : Nat} {o : Obj} (h : Pw w W v u X Y)
    (hown : W3.ownsRow w.heap.size 9 1 (.slice (some ⟨g, 0, none⟩) (X.length + 1) cap) (X.length + 1) (X.map Value.string ++ [.string x])) (hg : (W.alloc o).grownBy W3 v.ownBlock) (hat : v.ownBlock = some g ∨ g = W.heap.size + 1) :
    Pw w W3 (.slice (some ⟨g, 0, none⟩) (X.length + 1) cap) u (X ++ [x]) Y := by
  refine ⟨by rw [List.length_append, List.map_append]; exact hown, row_kept (h.wnt.alloc o) hg (fun b h1 h2 => h.ap b h2 h1), fun b hb hu => ?_, ?_⟩
  · have : g = b := by simpa [Value.ownBlock] using hb
    subst this
    rcases hat with h1 | h1
    · exact h.ap g h1 hu
    · have := (h.wnt.lt g hu).2
      omega
  · exact (h.bl.alloc h.bl.size o).grown hg (by simp; exact Nat.le_succ_of_le h.bl.size) (fun k hk => (h.own.lt k hk).1)
theorem own_zero {W : World} {B : Nat} {u : Value} {Y : List ByteArray} (h : W.ownsRow B 9 1 u Y.length (Y.map Value.string)) : ∃ sx c, u = .slice sx Y.length c ∧ (Y = [] ∨ ∃ g, sx = some ⟨g, 0, none⟩ ∧ ∀ j (hj : j < Y.length), W.cell? ⟨g, j, none⟩ = some (.string Y[j])) := by
  rcases h.2 with ⟨h1, h2⟩ | ⟨g, cap, cur, e1, e2, e3, e4, e5, e6, e7⟩
  · exact ⟨none, 0, by rw [h1, h2], Or.inl (List.length_eq_zero_iff.1 h2)⟩
  · refine ⟨_, cap, e1, Or.inr ⟨g, rfl, fun j hj => ?_⟩⟩
    have h3 : (cur.toList.take (Y.length * 1))[j]? = cur[j]? := by
      rw [List.getElem?_take_of_lt (by omega)]; simp
    rw [Lib.cell_of_heap e3, ← h3, e7, List.getElem?_map, List.getElem?_eq_getElem hj]; rfl
/-- The texts that are kept, as far as they are read. -/
theorem flt_yes {p : ByteArray} {X : List ByteArray} {k : Nat} (hk : k < X.length) (h : ismB p X[k] = true) : (X.take (k + 1)).filter (ismB p) = (X.take k).filter (ismB p) ++ [X[k]] := by
  rw [List.take_succ_eq_append_getElem hk, List.filter_append]; simp [h]
theorem flt_no {p : ByteArray} {X : List ByteArray} {k : Nat} (hk : k < X.length) (h : ismB p X[k] = false) : (X.take (k + 1)).filter (ismB p) = (X.take k).filter (ismB p) := by
  rw [List.take_succ_eq_append_getElem hk, List.filter_append]; simp [h]
theorem patE_le (p : ByteArray) : patE p ≤ 10 := by
  unfold patE
  split
  · exact Nat.zero_le _
  · rcases pathErr_err (xsOf p.data.toList) with h | h | h | h <;> omega
set_option maxRecDepth 100000 in
set_option maxHeartbeats 2000000 in
theorem pt_main {T : World → Prop} {A : Nat → Addr} (MC : MatchC T) (WC : WildC T) (CC : PChkC T A) (SC : SomeC T) (KT : StayT T) (p : ByteArray) (X : List ByteArray) (v : Value) (w : World) (hT : T w) (hS : ∀ W, Below w.heap.size w W → Er.Sen W A) (hx : TxAt w v X) (hp : p.size ≤ 60) (hl : X.length ≤ 15) :
    Calls Tryz.prog 3 #[.string p, v] w fun e w' => e = .returned (.bool true) ∧ Below w.heap.size w w' := by
  obtain ⟨i0, hi, hz0, hz1, hz2⟩ := info_parts infoStr
  have g1 : ¬ (60 : Int) < (p.size : Int) := by omega
  have g2 : ¬ (15 : Int) < (X.length : Int) := by omega
  have HPD := hid (patterned_any MC WC KT w hT)
  have HIW := hid (fun W => riw_any p W (by omega))
  have HCK := hid (fun W (h : Below w.heap.size w W) => CC p W (by omega) (KT w W hT h))
  have HPE := hid (fun W => rpe_any p W (by omega))
  have HCD := hid (fun W (h : Below w.heap.size w W) => coded3_any A (patE p) W (hS W h) (patE_le p))
  have HWC := hid (fun W (h : Below w.heap.size w W) => WC p W (by omega) (KT w W hT h))
  have HIM := hid (fun s W (hs : s.size ≤ 60) => rism_any p s W (by omega) (by omega))
  have HMC := hid (fun s W (hs : s.size ≤ 60) (h : Below w.heap.size w W) => MC p s W (by omega) (by omega) (KT w W hT h))
  have HSC := hid (fun u W (h : Below w.heap.size w W) (hs : ∀ x, x ∈ X → x.size ≤ 60) (hu : TxAt W u X) => SC p X u W (by omega) (by omega) (fun x h => by have := hs x h; omega) (KT w W hT h) hu)
  have HX := hid (fun W (h : Below w.heap.size w W) => hx.below h)
  have HVB := hid (fun (b o : Nat) (n c : Nat) (hv : v = .slice (some ⟨b, o, none⟩) n c) (hX : X ≠ []) => show b < w.heap.size by
    obtain ⟨a, c', e, _, h⟩ := hx
    obtain ⟨b', o', e2, h2⟩ := h hX
    rw [hv] at e
    injection e with e3
    rw [e2] at e3
    injection e3 with e4
    injection e4 with e5
    rw [e5]
    have := lt_of_cell (h2 0 (List.length_pos_iff.2 hX))
    simpa using this)
  obtain ⟨va, vc, hv, -⟩ := id hx
  subst hv
  clear MC WC CC SC KT hT hS hx
  generalize patE p = pe at *
  obtain ⟨ev, hev⟩ : ∃ ev, errA A pe = ev := ⟨_, rfl⟩
  rw [hev] at HCK HCD
  clear hev
  go_enter Tryz.func3, Tryz.ntmps3
  go_wp2_with fail
  refine HPD.out.mono ?_
  rintro e w1 ⟨rfl, hb⟩
  have HB1 := hid hb
  clear hb HPD
  go_wp2_with fail
  refine (HIW.out _).mono ?_
  rintro e w2 ⟨rfl, hb⟩
  have HB2 := hid (HB1.out.trans (hb.mono HB1.out.size))
  clear hb HIW HB1
  go_wp2_with fail
  refine (HCK.out _ HB2.out).mono ?_
  rintro e w3 ⟨rfl, hb⟩
  have HB3 := hid (HB2.out.trans (hb.mono HB2.out.size))
  clear hb HCK HB2
  go_wp2_with fail
  refine (HPE.out _).mono ?_
  rintro e w4 ⟨rfl, hb⟩
  have HB4 := hid (HB3.out.trans (hb.mono HB3.out.size))
  clear hb HPE HB3
  go_wp2_with fail
  refine (HCD.out _ HB4.out).mono ?_
  rintro e w5 ⟨rfl, hb⟩
  have HB5 := hid (HB4.out.trans (hb.mono HB4.out.size))
  clear hb HCD HB4
  have wq : (wildB p != wildB p) = false := by simp
  go_wp2_with fail
  refine (HWC.out _ HB5.out).mono ?_
  rintro e w6 ⟨rfl, hb⟩
  have HB6 := hid (HB5.out.trans (hb.mono HB5.out.size))
  clear hb HWC HB5
  generalize wildB p = wb at *
  go_wp2_with fail
  go_loopw [7, 8, 9] (fun ov nv iv wr => ∃ i : Nat, i ≤ X.length ∧ iv = .int .i64 i ∧ Hid (Pw w wr ov nv (X.take i) ((X.take i).filter (ismB p))) ∧ Hid (∀ j (h : j < X.length), j < i → X[j].size ≤ 60)) (fun _ _ iv _ => X.length - (intOf iv).toNat)
  case atStart => exact ⟨0, Nat.zero_le _, rfl, hid ⟨World.ownsRow_nil _ _ _ _, World.ownsRow_nil _ _ _ _, fun b h => by simp [Value.ownBlock] at h, HB6.out⟩, hid (fun j _ h => absurd h (Nat.not_lt_zero _))⟩
  case round =>
    obtain ⟨i, hi9, rfl, HPW, HSZ⟩ := hrel
    by_cases hlt : i < X.length
    · have hiI := ix_lt hlt
      have hi0 := ix_pos i
      have HLT := hid hlt
      obtain ⟨la, lc, hla, -, hcells⟩ := HX.out _ HPW.out.bl
      obtain ⟨lb, lo, rfl, hcc⟩ := hcells (by intro h; rw [h] at hlt; simp at hlt)
      injection hla with hla1 hla2 hla3
      subst hla1
      have y0 := hcc i hlt
      have HLB := hid (HVB.out lb lo _ _ rfl (by intro h; rw [h] at hlt; simp at hlt))
      have HCL := hid (fun W (h : Below wr.heap.size wr W) => cell_below h y0)
      have HTK := hid (List.take_succ_eq_append_getElem hlt)
      have HFY := hid (fun h => flt_yes (p := p) hlt h)
      have HFN := hid (fun h => flt_no (p := p) hlt h)
      have HZN := hid (show X[i].size ≤ 60 → ∀ j (h : j < X.length), j < i + 1 → X[j].size ≤ 60 from fun h0 j h1 h2 => by
        rcases Nat.lt_or_ge j i with h | h
        · exact HSZ.out j h1 h
        · have : j = i := by omega
          subst this; exact h0)
      have HLE := hid (show (X.take i).length ≤ 15 by rw [List.length_take]; omega)
      have HLF := hid (show ((X.take i).filter (ismB p)).length ≤ 15 from Nat.le_trans (List.length_filter_le _ _) HLE.out)
      clear hcells hcc hla2 hla3 HX
      generalize X[i] = x at *
      by_cases hsz : x.size ≤ 60
      · have gz : ¬ (60 : Int) < (x.size : Int) := by omega
        have HI := hid (HIM.out x wr hsz)
        have HM := hid (fun W (h : Below w.heap.size w W) => HMC.out x W hsz h)
        have HZ2 := hid (HZN.out hsz)
        generalize (X.take i).filter (ismB p) = Y at *
        generalize X.take i = Xi at *
        cases hz : ismB p x
        · rw [hz] at HI HM
          have HF := hid (HFN.out hz)
          clear hz hsz hlt HFY HFN HZN
          go_wp2_with fail
          refine HI.out.mono ?_
          rintro e w7 ⟨rfl, hb⟩
          have HPW7 := hid (HPW.out.below hb)
          have y1 := HCL.out _ hb
          have HB7 := hid hb
          clear hb
          go_wp2_with fail
          refine (HM.out _ HPW7.out.bl).mono ?_
          rintro e w8 ⟨rfl, hb⟩
          have HPW8 := hid (HPW7.out.below hb)
          have y2 := HCL.out _ (HB7.out.trans (hb.mono HB7.out.size))
          clear hb y0 y1
          go_wp2_with (at_builtin; refine wpList_append_lies _ rfl _ _ 22 rfl w.heap.size 9 i0 _ 1 16 Tryz.underlying22 hi hz0 hz1 hz2 rfl (by decide) _ _ _ rfl (HPW8.out.own.alloc _) ⟨w8.heap.size, 0, none⟩ 1 1 [.string x] rfl rfl ?c1 ?c2 (by decide) ?c3 ?c4 ?c5 (w8.heap.size + 1) (by simp) ?_)
          case c1 => exact World.news_of_block (cs := #[.string x]) (heap_new _ _)
          case c2 => intro u hu; simp at hu; rw [hu]; rfl
          case c3 => have := HLE.out; unfold maxLen; omega
          case c4 => have := HLE.out; omega
          case c5 => have := HPW8.out.bl.size; simp; omega
          intro g cap w9 hown hgrow hat _
          have HPW9 := hid (HPW8.out.app hown hgrow hat)
          clear hown hgrow hat
          go_wp2_with fail
          go_roundw
          case rel => exact ⟨i + 1, HLT.out, by first | exact nr_idx i | exact nx_idx HLT.out (by omega : X.length ≤ 1000000), hid (by rw [HF.out, HTK.out]; exact HPW9.out), HZ2⟩
          case measure => first | exact nr_meas HLT.out | exact nx_meas HLT.out (by omega : X.length ≤ 1000000)
        · rw [hz] at HI HM
          have HF := hid (HFY.out hz)
          clear hz hsz hlt HFY HFN HZN
          go_wp2_with fail
          refine HI.out.mono ?_
          rintro e w7 ⟨rfl, hb⟩
          have HPW7 := hid (HPW.out.below hb)
          have y1 := HCL.out _ hb
          have HB7 := hid hb
          clear hb
          go_wp2_with fail
          refine (HM.out _ HPW7.out.bl).mono ?_
          rintro e w8 ⟨rfl, hb⟩
          have HPW8 := hid (HPW7.out.below hb)
          have HB8 := hid (HB7.out.trans (hb.mono HB7.out.size))
          have y2 := HCL.out _ HB8.out
          clear hb y0 y1
          go_wp2_with (at_builtin; refine wpList_append_lies _ rfl _ _ 22 rfl w.heap.size 9 i0 _ 1 16 Tryz.underlying22 hi hz0 hz1 hz2 rfl (by decide) _ _ _ rfl (HPW8.out.own.alloc _) ⟨w8.heap.size, 0, none⟩ 1 1 [.string x] rfl rfl ?c1 ?c2 (by decide) ?c3 ?c4 ?c5 (w8.heap.size + 1) (by simp) ?_)
          case c1 => exact World.news_of_block (cs := #[.string x]) (heap_new _ _)
          case c2 => intro u hu; simp at hu; rw [hu]; rfl
          case c3 => have := HLE.out; unfold maxLen; omega
          case c4 => have := HLE.out; omega
          case c5 => have := HPW8.out.bl.size; simp; omega
          intro g cap w9 hown hgrow hat _
          have HPW9 := hid (HPW8.out.app hown hgrow hat)
          have y3 : w9.cell? ⟨lb, lo + i, none⟩ = some (.string x) := by
            rw [hgrow.cell_far _ (by have := lt_of_cell y2; simp at this ⊢; omega) (fun e => by
              have h1 := (HPW8.out.own.lt lb e.symm).1
              have h2 := HLB.out
              omega)]
            exact cell_below ((Below.refl _ _).alloc (Nat.le_refl _) _) y2
          clear hown hgrow hat y2
          generalize hXL : Xi.length + 1 = xl at *
          go_wp2_with (at_builtin; refine wpList_append_lies _ rfl _ _ 22 rfl w.heap.size 9 i0 _ 1 16 Tryz.underlying22 hi hz0 hz1 hz2 rfl (by decide) _ _ _ rfl (HPW9.out.wnt.alloc _) ⟨w9.heap.size, 0, none⟩ 1 1 [.string x] rfl rfl ?d1 ?d2 (by decide) ?d3 ?d4 ?d5 (w9.heap.size + 1) (by simp) ?_)
          case d1 => exact World.news_of_block (cs := #[.string x]) (heap_new _ _)
          case d2 => intro u hu; simp at hu; rw [hu]; rfl
          case d3 => have := HLF.out; unfold maxLen; omega
          case d4 => have := HLF.out; omega
          case d5 => have := HPW9.out.bl.size; simp; omega
          intro g2 cap2 w10 hown hgrow hat _
          have HPWa := hid (HPW9.out.swap.app hown hgrow hat).swap
          clear hown hgrow hat
          go_wp2_with fail
          go_roundw
          case rel => exact ⟨i + 1, HLT.out, by first | exact nr_idx i | exact nx_idx HLT.out (by omega : X.length ≤ 1000000), hid (by rw [HF.out, HTK.out]; exact HPWa.out), HZ2⟩
          case measure => first | exact nr_meas HLT.out | exact nx_meas HLT.out (by omega : X.length ≤ 1000000)
      · have gz : (60 : Int) < (x.size : Int) := by omega
        clear hsz hlt
        go_wp2_with fail
        go_ret
        exact ⟨rfl, HPW.out.bl⟩
    · have hiI := ix_nlt hlt
      have hie : i = X.length := by omega
      subst hie
      rw [List.take_length] at HPW
      have HSX := hid (show ∀ x, x ∈ X → x.size ≤ 60 from fun x hx => by
        obtain ⟨j, hj, e⟩ := List.getElem_of_mem hx
        rw [← e]; exact HSZ.out j hj hj)
      have HSO := hid (HSC.out _ wr HPW.out.bl HSX.out (own_tx HPW.out.own))
      obtain ⟨oa, oc, ho, hoz⟩ := own_zero HPW.out.own
      obtain ⟨na, nc, hn, hnz⟩ := own_zero HPW.out.wnt
      have HTN := hid (own_tx HPW.out.wnt)
      subst ho hn
      clear hlt
      go_wp2_with fail
      refine HSO.out.mono ?_
      rintro e w7 ⟨u, rfl, hu, hb⟩
      have HB7 := hid hb
      have HPW7 := hid (HPW.out.below hb)
      obtain ⟨ua, uc, hue, huz⟩ := own_zero hu
      subst hue
      obtain ⟨na', nc', e1, _, hnc⟩ := HTN.out.below hb
      injection e1 with e2 e3 e4
      subst e2
      have HSAME := hid (same_all ua na uc nc (X.filter (ismB p)) (X.filter (ismB p)) w7 (Nat.le_trans (List.length_filter_le _ _) (by omega)) huz hnc)
      rw [decide_eq_true rfl] at HSAME
      have HXL := hid (fun W (h : Below w.heap.size w W) => HX.out W h)
      have HOZ := hid (fun W (h : Below wr.heap.size wr W) => show X = [] ∨ ∃ g, oa = some ⟨g, 0, none⟩ ∧ ∀ j (hj : j < X.length), W.cell? ⟨g, j, none⟩ = some (.string X[j]) by
        rcases hoz with h0 | ⟨g, h1, h2⟩
        · exact Or.inl h0
        · exact Or.inr ⟨g, h1, fun j hj => cell_below h (h2 j hj)⟩)
      clear hb hu hoz hnz huz hnc
      try clear e3
      try clear e4
      generalize (X.filter (ismB p)).length = fl at *
      go_wp2_with fail
      refine HSAME.out.mono ?_
      rintro e w8 ⟨rfl, hb⟩
      have HB8 := hid (HB7.out.trans (hb.mono HB7.out.size))
      have HBW := hid (HPW.out.bl.trans (HB8.out.mono HPW.out.bl.size))
      obtain ⟨la, lc, hla, _, hlcc⟩ := HXL.out _ HBW.out
      injection hla with f1 f2 f3
      subst f1
      have HS2 := hid (same_all oa va oc vc X X w8 (by omega) (HOZ.out _ HB8.out) hlcc)
      rw [decide_eq_true rfl] at HS2
      clear hb hlcc
      try clear f2
      try clear f3
      go_wp2_with fail
      refine HS2.out.mono ?_
      rintro e w9 ⟨rfl, hb⟩
      have HBe := hid (HBW.out.trans (hb.mono HBW.out.size))
      clear hb
      go_wp2_with fail
      go_ret
      exact ⟨rfl, HBe.out⟩
end Ve
end Go.Proofs.YtfdinpmpchmifaaGreatDoor

/-
  What mod.LikePath answers: mod.Path's error, but ErrMajor.
-/
namespace Go.Proofs.YtfdinpmpchmifaaGreatDoor
open Go.RowKit
namespace Ve

/-- Three of the errors are unlike. -/
structure Ds (w : World) (A : Nat → Addr) : Prop where
  b0 : ∃ c t, w.heap[(A 0).block]? = some (.cells c t (0, 0))
  b1 : ∃ c t, w.heap[(A 1).block]? = some (.cells c t (0, 0))
  b3 : ∃ c t, w.heap[(A 3).block]? = some (.cells c t (0, 0))
  n0 : A 0 ≠ A 3
  n1 : A 1 ≠ A 3
theorem blk_stayD {w w' : World} {b : Nat} (hb : Below w.heap.size w w') (h : ∃ c t, w.heap[b]? = some (.cells c t (0, 0))) : ∃ c t, w'.heap[b]? = some (.cells c t (0, 0)) := by
  obtain ⟨c, t, e⟩ := h
  exact ⟨c, t, (hb.block _ (lt_of_blk e)).trans e⟩
theorem Ds.below {w w' : World} {A : Nat → Addr} (h : Ds w A) (hb : Below w.heap.size w w') : Ds w' A := ⟨blk_stayD hb h.b0, blk_stayD hb h.b1, blk_stayD hb h.b3, h.n0, h.n1⟩
/-- LikePath's error, by its number. -/
def likeE (l : List UInt8) : Nat := if pathErr l = 4 then 0 else pathErr l
theorem mpath_l (s : ByteArray) (A : Nat → Addr) (m : Int) (w : World) (hs : s.size < 4294967281) (S : Te w A m) :
    Calls Tryz.prog 24 #[.string s] w fun e w' => e = .returned (errA A (pathErr s.data.toList)) ∧ Below w.heap.size w w' := by
  have HP := hid (readPath_any s A m w hs S)
  clear S
  go_enter Tryz.func24, Tryz.ntmps24
  go_wp2_with fail
  refine HP.out.mono ?_
  rintro e w1 ⟨⟨H, n, v, rfl, hv, _, _⟩, hb⟩
  have HV := hid hv
  have HB := hid hb
  clear hb hv
  go_wp2_with fail
  go_ret
  exact ⟨by rw [← HV.out]; rfl, HB.out⟩
set_option maxHeartbeats 1000000 in
/-- mod.LikePath. -/
theorem lkp_any (s : ByteArray) (A : Nat → Addr) (m : Int) (w : World) (hs : s.size < 4294967281) (S : Te w A m) (D : Ds w A) :
    Calls Tryz.prog 16 #[.string s] w fun e w' => e = .returned (errA A (likeE s.data.toList)) ∧ Below w.heap.size w w' := by
  have HP := hid (mpath_l s A m w hs S)
  have HG := hid (fun W (h : Below w.heap.size w W) => cell_below h S.sen.g3)
  obtain ⟨i9, hi9, hcmp9⟩ := Option.map_eq_some_iff.1 compS
  obtain ⟨j9, hj9, hjs9⟩ := Option.map_eq_some_iff.1 sizeS
  have HQ0 := hid (fun W => run_eql_iface_nil_left (P := Tryz.prog) W 127 (.pointer (some (A 3))) Tryz.underlying27)
  have HQ1 := hid (fun W => run_eql_iface_ptr_same (P := Tryz.prog) W (A 3) Tryz.underlying27 Tryz.underlying127 hi9 hcmp9 hj9)
  have HQ2 := hid (fun W (h : Below w.heap.size w W) => by
    obtain ⟨c1, t1, e1⟩ := (D.below h).b0
    obtain ⟨c2, t2, e2⟩ := (D.below h).b3
    exact run_eql_iface_ptr_other (P := Tryz.prog) W Tryz.underlying27 Tryz.underlying127 hi9 hcmp9 hj9 (by rw [hjs9]; decide) D.n0 e1 e2)
  have HQ3 := hid (fun W (h : Below w.heap.size w W) => by
    obtain ⟨c1, t1, e1⟩ := (D.below h).b1
    obtain ⟨c2, t2, e2⟩ := (D.below h).b3
    exact run_eql_iface_ptr_other (P := Tryz.prog) W Tryz.underlying27 Tryz.underlying127 hi9 hcmp9 hj9 (by rw [hjs9]; decide) D.n1 e1 e2)
  have HE := hid (show likeE s.data.toList = if pathErr s.data.toList = 4 then 0 else pathErr s.data.toList from rfl)
  have HPE := hid (pathErr_err s.data.toList)
  generalize likeE s.data.toList = pe at *
  clear S D hi9 hcmp9 hj9 hjs9
  go_enter Tryz.func16, Tryz.ntmps16
  rcases HPE.out with h | h | h | h
  · rw [h] at HP HE
    have HE2 := hid (show pe = 0 from HE.out)
    rw [errA0] at HP
    clear h HE HPE
    go_wp2_with fail
    refine HP.out.mono ?_
    rintro e w2 ⟨rfl, hb⟩
    have HB2 := hid hb
    have g3 := HG.out _ HB2.out
    have q0 := HQ0.out w2
    clear hb
    go_wp2_with fail
    go_ret
    exact ⟨by rw [HE2.out]; rfl, HB2.out⟩
  · rw [h] at HP HE
    have HE2 := hid (show pe = 1 from HE.out)
    rw [errA1] at HP
    clear h HE HPE
    go_wp2_with fail
    refine HP.out.mono ?_
    rintro e w2 ⟨rfl, hb⟩
    have HB2 := hid hb
    have g3 := HG.out _ HB2.out
    have q0 := HQ2.out w2 HB2.out
    clear hb
    go_wp2_with fail
    go_ret
    exact ⟨by rw [HE2.out]; rfl, HB2.out⟩
  · rw [h] at HP HE
    have HE2 := hid (show pe = 2 from HE.out)
    rw [errA2] at HP
    clear h HE HPE
    go_wp2_with fail
    refine HP.out.mono ?_
    rintro e w2 ⟨rfl, hb⟩
    have HB2 := hid hb
    have g3 := HG.out _ HB2.out
    have q0 := HQ3.out w2 HB2.out
    clear hb
    go_wp2_with fail
    go_ret
    exact ⟨by rw [HE2.out]; rfl, HB2.out⟩
  · rw [h] at HP HE
    have HE2 := hid (show pe = 0 from HE.out)
    rw [errA4] at HP
    clear h HE HPE
    go_wp2_with fail
    refine HP.out.mono ?_
    rintro e w2 ⟨rfl, hb⟩
    have HB2 := hid hb
    have g3 := HG.out _ HB2.out
    have q0 := HQ1.out w2
    clear hb
    go_wp2_with fail
    go_ret
    exact ⟨by rw [HE2.out]; rfl, HB2.out⟩
end Ve
end Go.Proofs.YtfdinpmpchmifaaGreatDoor

/-
  What Check and Some of package pat answer; Match, Wild, Check and Some are as they are asked to be.
-/
namespace Go.Proofs.YtfdinpmpchmifaaGreatDoor
open Go.RowKit
namespace Ve

/-- What the walks ask of a world: the errors, each another one, and the library's bound. -/
def Tw (A : Nat → Addr) (m : Int) (w : World) : Prop := Te w A m ∧ Er.Sen w A
theorem Tw.below {A : Nat → Addr} {m : Int} {w w' : World} (h : Tw A m w) (hb : Below w.heap.size w w') : Tw A m w' := ⟨h.1.below hb, h.2.below hb⟩
theorem match_c (A : Nat → Addr) (m : Int) : MatchC (Tw A m) := fun p s w hp hs hT => match_m m p s w hp hs hT.1.ml
theorem wild_c (A : Nat → Addr) (m : Int) : WildC (Tw A m) := fun p w hp hT => wild_m m p w hp hT.1.ml
theorem Tw.ds {A : Nat → Addr} {m : Int} {w : World} (h : Tw A m w) : Ds w A := ⟨h.2.blk 0 (by omega), h.2.blk 1 (by omega), h.2.blk 3 (by omega), h.2.inj 0 3 (by omega) (by omega) (by omega), h.2.inj 1 3 (by omega) (by omega) (by omega)⟩
/-- strings.ReplaceAll of any text by an x. -/
theorem xs_ra (p : ByteArray) (m : Int) (w : World) (hp : p.size ≤ 100) (hm : w.cell? ⟨11, 0, none⟩ = some (.int .i64 m)) :
    Calls Tryz.prog 17 #[.string p, .string ⟨#[46, 46, 46]⟩, .string ⟨#[120]⟩] w fun e w' => ∃ S : ByteArray, e = .returned (.string S) ∧ S.data.toList = xsOf p.data.toList ∧ S.size ≤ 100 ∧ Below w.heap.size w w' := by
  have hc := Lib.countB_le ⟨#[46, 46, 46]⟩ (by decide) _ p (Nat.le_refl _)
  refine (Tryz.strings_ReplaceAll p ⟨#[46, 46, 46]⟩ ⟨#[120]⟩ m w (by omega) hm (by decide) (by
    show p.size + Lib.countB p ⟨#[46, 46, 46]⟩ * 1 ≤ _
    omega)).mono fun e w' ⟨h1, h2⟩ => ⟨_, h1, (xs_is _).symm, ?_, h2⟩
  have h3 := xs_len p.data.toList
  rw [len_eq, xs_is] at h3
  show (Lib.replaceAll p.data.toList dots [120]).toArray.size ≤ 100
  rw [List.size_toArray]; omega
set_option maxHeartbeats 1000000 in
/-- pat.Check. -/
theorem pchk_c (A : Nat → Addr) (m : Int) : PChkC (Tw A m) A := fun p w hp hT => by
  have HR := hid (xs_ra p m w hp hT.1.ml)
  have HP := hid (fun S W (hs : S.size ≤ 100) (h : Below w.heap.size w W) => lkp_any S A m W (by omega) (hT.1.below h) (hT.ds.below h))
  have HE := hid (show patE p = likeE (xsOf p.data.toList) from rfl)
  generalize patE p = pe at *
  clear hT
  go_enter Tryz.func7, Tryz.ntmps7
  go_wp2_with fail
  refine HR.out.mono ?_
  rintro e w1 ⟨S, rfl, hS, hz, hb⟩
  have HB1 := hid hb
  have HPP := hid (HP.out S w1 hz hb)
  rw [hS, ← HE.out] at HPP
  clear hS hz hb HP HR
  obtain ⟨ev, hev⟩ : ∃ ev, errA A pe = ev := ⟨_, rfl⟩
  have HEV := hid hev
  rw [hev] at HPP
  clear hev
  go_wp2_with fail
  refine HPP.out.mono ?_
  rintro e w2 ⟨rfl, hb⟩
  have HB2 := hid (HB1.out.trans (hb.mono HB1.out.size))
  clear hb
  go_wp2_with fail
  go_ret
  exact ⟨by rw [HEV.out]; rfl, HB2.out⟩
theorem owns_from {w : World} {B C : Nat} {e : TypeId} {size : Nat} {v : Value} {n : Nat} {xs : List Value} (h : w.ownsRow B e size v n xs) (hb : C ≤ B) : w.ownsRow C e size v n xs := by
  obtain ⟨hl, h | ⟨g, cap, cur, e1, e2, r⟩⟩ := h
  · exact ⟨hl, Or.inl h⟩
  · exact ⟨hl, Or.inr ⟨g, cap, cur, e1, Nat.le_trans hb e2, r⟩⟩
set_option maxHeartbeats 4000000 in
set_option maxRecDepth 100000 in
/-- pat.Some. -/
theorem some_c (A : Nat → Addr) (m : Int) : SomeC (Tw A m) := fun p X v w hp hl hs hT hx => by
  obtain ⟨i0, hi, hz0, hz1, hz2⟩ := info_parts infoStr
  have HM := hid (matcher_any p m w hp hT.1.ml)
  have HX := hid (fun W (h : Below w.heap.size w W) => hx.below h)
  have HS := hid hs
  obtain ⟨va, vc, hv, -⟩ := id hx
  subst hv
  clear hT hx hs
  go_enter Tryz.func13, Tryz.ntmps13
  go_wp2_with fail
  refine HM.out.mono ?_
  rintro e w1 ⟨f, rfl, ⟨K, cb, rfl, en, hK⟩, hb⟩
  have HB1 := hid hb
  have HK := hid hK
  clear hb hK HM
  go_wp2_with fail
  go_loopw [6, 13] (fun ov iv wr => ∃ k : Nat, k ≤ X.length ∧ iv = .int .i64 k ∧ Hid (wr.ownsRow w1.heap.size 9 1 ov ((X.take k).filter (ismB p)).length (((X.take k).filter (ismB p)).map Value.string)) ∧ Hid (Below w1.heap.size w1 wr)) (fun _ iv _ => X.length - (intOf iv).toNat)
  case atStart => exact ⟨0, Nat.zero_le _, rfl, hid (World.ownsRow_nil _ _ _ _), hid (Below.refl _ _)⟩
  case round =>
    obtain ⟨k, hk, rfl, HO, HN⟩ := hrel
    have HB := hid (HB1.out.trans (HN.out.mono HB1.out.size))
    by_cases hlt : k < X.length
    · have hkI := ix_lt hlt
      have hk0 := ix_pos k
      have HLT := hid hlt
      obtain ⟨la, lc, hla, -, hcells⟩ := HX.out _ HB.out
      obtain ⟨lb, lo, rfl, hcc⟩ := hcells (by intro h; rw [h] at hlt; simp at hlt)
      injection hla with hla1 hla2 hla3
      subst hla1
      have y0 := hcc k hlt
      have HLN := hid (show ((X.take k).filter (ismB p)).length ≤ 20 from Nat.le_trans (List.length_filter_le _ _) (by rw [List.length_take]; omega))
      have HFY := hid (fun h => flt_yes (p := p) hlt h)
      have HFN := hid (fun h => flt_no (p := p) hlt h)
      have HKX := hid (HK.out wr X[k] HN.out (HS.out _ (List.getElem_mem hlt)))
      clear hcells hcc hla2 hla3 HX
      generalize X[k] = x at *
      generalize (X.take k).filter (ismB p) = Y at *
      clear hlt
      cases hz : ismB p x
      · rw [hz] at HKX
        have HF := hid (HFN.out hz)
        clear hz HFY HFN
        go_wp2_with fail
        refine HKX.out.mono ?_
        rintro e w2 ⟨rfl, hb⟩
        have HO2 := hid (owns_below HO.out hb)
        have HN2 := hid (HN.out.trans (hb.mono HN.out.size))
        clear hb
        go_wp2_with fail
        go_roundw
        case rel => exact ⟨k + 1, HLT.out, by first | exact nr_idx k | exact nx_idx HLT.out (by omega : X.length ≤ 1000000), by rw [HF.out]; exact HO2, HN2⟩
        case measure => first | exact nr_meas HLT.out | exact nx_meas HLT.out (by omega : X.length ≤ 1000000)
      · rw [hz] at HKX
        have HF := hid (HFY.out hz)
        clear hz HFY HFN
        go_wp2_with fail
        refine HKX.out.mono ?_
        rintro e w2 ⟨rfl, hb⟩
        have HO2 := hid (owns_below HO.out hb)
        have HN2 := hid (HN.out.trans (hb.mono HN.out.size))
        clear hb
        go_wp2_with (at_builtin; refine wpList_append_own _ rfl _ _ 22 rfl w1.heap.size 9 i0 _ 1 16 Tryz.underlying22 hi hz0 hz1 hz2 rfl (by decide) _ _ _ rfl (HO2.out.alloc _) ⟨w2.heap.size, 0, none⟩ 1 1 [.string x] rfl rfl ?c1 ?c2 ?c3 ?c4 ?c5 ?_)
        case c1 => exact World.news_of_block (cs := #[.string x]) (heap_new _ _)
        case c2 => intro u hu; simp at hu; rw [hu]; rfl
        case c3 => have := HLN.out; unfold maxLen; omega
        case c4 => have := HLN.out; omega
        case c5 => have := HN2.out.size; simp; omega
        intro v' w3 hown hgrow _
        have HR3 := hid (rel_app HN2.out.size HN2.out HO2.out (Below.refl _ _) hgrow)
        have HO3 := hid hown
        clear hown hgrow
        go_wp2_with fail
        go_roundw
        case rel => exact ⟨k + 1, HLT.out, by first | exact nr_idx k | exact nx_idx HLT.out (by omega : X.length ≤ 1000000), by rw [HF.out, List.length_append, List.map_append]; exact HO3, HR3⟩
        case measure => first | exact nr_meas HLT.out | exact nx_meas HLT.out (by omega : X.length ≤ 1000000)
    · have HTR := hid (show X.take k = X from List.take_of_length_le (by omega))
      rw [HTR.out] at HO
      have hkI := ix_nlt hlt
      clear hlt
      go_wp2_with fail
      go_ret
      exact ⟨_, rfl, owns_from HO.out HB1.out.size, HB.out⟩
end Ve
end Go.Proofs.YtfdinpmpchmifaaGreatDoor

/-
  pewholderlaw3.PatTells where what is given is too long; and for any input.
-/
namespace Go.Proofs.YtfdinpmpchmifaaGreatDoor
open Go.RowKit
namespace Ve

set_option maxRecDepth 100000 in
set_option maxHeartbeats 2000000 in
theorem pt_long {T : World → Prop} (MC : MatchC T) (WC : WildC T) (KT : StayT T) (p : ByteArray) (X : List ByteArray) (va : Option Addr) (vc : Nat) (w : World) (hT : T w) (h : 60 < p.size ∨ (¬ 60 < p.size ∧ (15 < X.length))) :
    Calls Tryz.prog 3 #[.string p, .slice va X.length vc] w fun e w' => e = .returned (.bool true) ∧ Below w.heap.size w w' := by
  have HPD := hid (patterned_any MC WC KT w hT)
  clear MC WC KT hT
  rcases id h with h0 | ⟨h0, h1⟩
  · have g0 : (60 : Int) < (p.size : Int) := by omega
    clear h
    go_enter Tryz.func3, Tryz.ntmps3
    go_wp2_with fail
    refine HPD.out.mono ?_
    rintro e w1 ⟨rfl, hb⟩
    have HB := hid hb
    clear hb
    go_wp2_with fail
    go_ret
    exact ⟨rfl, HB.out⟩
  · have g0 : ¬ (60 : Int) < (p.size : Int) := by omega
    have g1 : (15 : Int) < (X.length : Int) := by omega
    clear h
    go_enter Tryz.func3, Tryz.ntmps3
    go_wp2_with fail
    refine HPD.out.mono ?_
    rintro e w1 ⟨rfl, hb⟩
    have HB := hid hb
    clear hb
    go_wp2_with fail
    go_ret
    exact ⟨rfl, HB.out⟩
theorem patTells_any {T : World → Prop} {A : Nat → Addr} (MC : MatchC T) (WC : WildC T) (CC : PChkC T A) (SC : SomeC T) (KT : StayT T) (p : ByteArray) (X : List ByteArray) (va : Option Addr) (vc : Nat) (w : World) (hT : T w) (hS : ∀ W, Below w.heap.size w W → Er.Sen W A) (hx : TxAt w (.slice va X.length vc) X) :
    Calls Tryz.prog 3 #[.string p, .slice va X.length vc] w fun e w' => e = .returned (.bool true) ∧ Below w.heap.size w w' := by
  by_cases h0 : 60 < p.size
  · exact pt_long MC WC KT p X va vc w hT (Or.inl h0)
  by_cases h1 : 15 < X.length
  · exact pt_long MC WC KT p X va vc w hT (Or.inr ⟨h0, h1⟩)
  exact pt_main MC WC CC SC KT p X _ w hT hS hx (by omega) (by omega)
end Ve
end Go.Proofs.YtfdinpmpchmifaaGreatDoor
