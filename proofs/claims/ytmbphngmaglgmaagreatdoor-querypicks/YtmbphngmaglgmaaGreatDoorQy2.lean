/-
  What begins, signOf, isWord and QueryError of the document's answer say.
-/
import Derived.Test.YtmbphngmaglgmaaGreatDoorQy1
import Derived.Test.YtmbphngmaglgmaaGreatDoorFileA
import Derived.Deep.RegionHeld
import Derived.Test.YtmbphngmaglgmaaGreatDoorVerR
import Derived.Test.YtmbphngmaglgmaaGreatDoorVerQ
import Derived.Test.YtmbphngmaglgmaaGreatDoorOrdB
import Derived.Test.YtmbphngmaglgmaaGreatDoorSplitAny
import Derived.Shelf.SlSortCmp.WholeK
import Derived.Shelf.SlGeneric
import Derived.Test.YtmbphngmaglgmaaGreatDoorProg
import Derived.Laws.AppendOwnNone
import Derived.Test.YtmbphngmaglgmaaGreatDoorAhead
import Derived.Laws.StructEq
import Derived.OwnWalk
import Derived.Deep.AppendLies
namespace Go.Proofs.YtmbphngmaglgmaaGreatDoor
open Go.RowKit
namespace Ve

set_option maxHeartbeats 1000000 in
theorem rbeg_any (s h : ByteArray) (w : World) : Calls Tryz.prog 96 #[.string s, .string h] w fun e w' => e = .returned (.bool (begB s h)) ∧ w' = w := by
  by_cases hl : h.size ≤ s.size
  · have h1 : ¬ (s.size : Int) < (h.size : Int) := by omega
    have h2 : (h.size : Int) ≤ (s.size : Int) := by omega
    have h3 : (0 : Int) ≤ (h.size : Int) := by omega
    have HX := hid (show ((s.extract 0 h.size).toList == h.toList) = begB s h by
      rw [ByteArray.toList_eq, ByteArray.toList_eq, extract_list]
      simp only [List.drop_zero, Nat.sub_zero]
      exact take_beq _ _)
    generalize begB s h = z at *
    go_enter Tryz.func96, Tryz.ntmps96
    go_wp2_with fail
    go_ret
    exact ⟨ret_bool HX.out, rfl⟩
  · have h1 : (s.size : Int) < (h.size : Int) := by omega
    have HX := hid (begB_long hl)
    generalize begB s h = z at *
    go_enter Tryz.func96, Tryz.ntmps96
    go_wp2_with fail
    go_ret
    exact ⟨ret_bool HX.out.symm, rfl⟩
theorem eqW (q b : ByteArray) : decide (q = b) = (q.toList == b.data.toList) := by
  by_cases h : q = b
  · subst h; simp [ByteArray.toList_eq]
  · rw [decide_eq_false h, ← ByteArray.toList_eq, str_ne h]
theorem rword_any (q : ByteArray) (w : World) : Calls Tryz.prog 43 #[.string q] w fun e w' => e = .returned (.bool (isWd q)) ∧ w' = w := by
  have HZ := hid (show isWd q = ((q.toList == [108, 97, 116, 101, 115, 116]) || (q.toList == [117, 112, 103, 114, 97, 100, 101]) || (q.toList == [112, 97, 116, 99, 104]) || (q.toList == [110, 111, 110, 101])) by
    unfold isWd
    rw [eqW, eqW, eqW, eqW]
    rfl)
  generalize isWd q = z at *
  cases h1 : (q.toList == [108, 97, 116, 101, 115, 116])
  · cases h2 : (q.toList == [117, 112, 103, 114, 97, 100, 101])
    · cases h3 : (q.toList == [112, 97, 116, 99, 104])
      · rw [h1, h2, h3] at HZ
        go_enter Tryz.func43, Tryz.ntmps43
        go_wp2_with fail
        go_ret
        exact ⟨ret_bool HZ.out.symm, rfl⟩
      · rw [h1, h2, h3] at HZ
        go_enter Tryz.func43, Tryz.ntmps43
        go_wp2_with fail
        go_ret
        exact ⟨ret_bool HZ.out.symm, rfl⟩
    · rw [h1, h2] at HZ
      go_enter Tryz.func43, Tryz.ntmps43
      go_wp2_with fail
      go_ret
      exact ⟨ret_bool HZ.out.symm, rfl⟩
  · rw [h1] at HZ
    go_enter Tryz.func43, Tryz.ntmps43
    go_wp2_with fail
    go_ret
    exact ⟨ret_bool HZ.out.symm, rfl⟩
theorem sgn_0 {q : ByteArray} (h : begB q sLe = true) : sgn q = (sLe, q.extract 2 q.size) := by unfold sgn; rw [if_pos h]
theorem sgn_1 {q : ByteArray} (h0 : begB q sLe = false) (h : begB q sGe = true) : sgn q = (sGe, q.extract 2 q.size) := by unfold sgn; rw [if_neg (by rw [h0]; simp), if_pos h]
theorem sgn_2 {q : ByteArray} (h0 : begB q sLe = false) (h1 : begB q sGe = false) (h : begB q sLt = true) : sgn q = (sLt, q.extract 1 q.size) := by unfold sgn; rw [if_neg (by rw [h0]; simp), if_neg (by rw [h1]; simp), if_pos h]
theorem sgn_3 {q : ByteArray} (h0 : begB q sLe = false) (h1 : begB q sGe = false) (h2 : begB q sLt = false) (h : begB q sGt = true) : sgn q = (sGt, q.extract 1 q.size) := by unfold sgn; rw [if_neg (by rw [h0]; simp), if_neg (by rw [h1]; simp), if_neg (by rw [h2]; simp), if_pos h]
theorem sgn_4 {q : ByteArray} (h0 : begB q sLe = false) (h1 : begB q sGe = false) (h2 : begB q sLt = false) (h3 : begB q sGt = false) : sgn q = (bE, q) := by unfold sgn; rw [if_neg (by rw [h0]; simp), if_neg (by rw [h1]; simp), if_neg (by rw [h2]; simp), if_neg (by rw [h3]; simp)]
theorem begB_size {s h : ByteArray} (hb : begB s h = true) : h.size ≤ s.size := by
  rcases Nat.lt_or_ge s.size h.size with hl | hl
  · rw [begB_long (by omega)] at hb; cases hb
  · exact hl
def sgAt : Nat → ByteArray
  | 0 => sLe
  | 1 => sGe
  | 2 => sLt
  | _ => sGt
set_option maxRecDepth 100000 in
set_option maxHeartbeats 2000000 in
/-- signOf a query. -/
theorem rsgn_any (q : ByteArray) (w : World) : Calls Tryz.prog 44 #[.string q] w fun e w' => e = .returned (.tuple #[.string (sgn q).1, .string (sgn q).2]) ∧ Below w.heap.size w w' := by
  have HB0 := hid ((Below.refl w.heap.size w).alloc (Nat.le_refl _) (.cells #[.string ⟨#[60, 61]⟩, .string ⟨#[62, 61]⟩, .string ⟨#[60]⟩, .string ⟨#[62]⟩] 9))
  have hN := heap_alloc_new w (.cells #[.string ⟨#[60, 61]⟩, .string ⟨#[62, 61]⟩, .string ⟨#[60]⟩, .string ⟨#[62]⟩] 9)
  have k0 : (w.alloc (.cells #[.string ⟨#[60, 61]⟩, .string ⟨#[62, 61]⟩, .string ⟨#[60]⟩, .string ⟨#[62]⟩] 9)).cell? ⟨w.heap.size, 0, none⟩ = some (.string ⟨#[60, 61]⟩) := by rw [Lib.cell_of_heap hN]; rfl
  have k1 : (w.alloc (.cells #[.string ⟨#[60, 61]⟩, .string ⟨#[62, 61]⟩, .string ⟨#[60]⟩, .string ⟨#[62]⟩] 9)).cell? ⟨w.heap.size, 1, none⟩ = some (.string ⟨#[62, 61]⟩) := by rw [Lib.cell_of_heap hN]; rfl
  have k2 : (w.alloc (.cells #[.string ⟨#[60, 61]⟩, .string ⟨#[62, 61]⟩, .string ⟨#[60]⟩, .string ⟨#[62]⟩] 9)).cell? ⟨w.heap.size, 2, none⟩ = some (.string ⟨#[60]⟩) := by rw [Lib.cell_of_heap hN]; rfl
  have k3 : (w.alloc (.cells #[.string ⟨#[60, 61]⟩, .string ⟨#[62, 61]⟩, .string ⟨#[60]⟩, .string ⟨#[62]⟩] 9)).cell? ⟨w.heap.size, 3, none⟩ = some (.string ⟨#[62]⟩) := by rw [Lib.cell_of_heap hN]; rfl
  have HBG := hid (fun h W => rbeg_any q h W)
  clear hN
  go_enter Tryz.func44, Tryz.ntmps44
  go_wp2_with fail
  generalize w.alloc (.cells #[.string ⟨#[60, 61]⟩, .string ⟨#[62, 61]⟩, .string ⟨#[60]⟩, .string ⟨#[62]⟩] 9) = w1 at *
  go_loopw [5] (fun iv wr => ∃ k : Nat, k ≤ 4 ∧ iv = .int .i64 k ∧ Hid (∀ j, j < k → begB q (sgAt j) = false) ∧ wr = w1) (fun iv _ => 4 - (intOf iv).toNat)
  case atStart => exact ⟨0, by decide, rfl, hid (fun j hj => absurd hj (Nat.not_lt_zero _)), rfl⟩
  case round =>
    obtain ⟨k, hk, rfl, HA, rfl⟩ := hrel
    rcases (by omega : k = 0 ∨ k = 1 ∨ k = 2 ∨ k = 3 ∨ k = 4) with rfl | rfl | rfl | rfl | rfl
    · have HC := hid (HBG.out ⟨#[60, 61]⟩ wr)
      cases hb : begB q ⟨#[60, 61]⟩
      · rw [hb] at HC
        have HA2 := hid (show ∀ j, j < 1 → begB q (sgAt j) = false from fun j hj => by
          rcases Nat.lt_or_ge j 0 with h | h
          · exact HA.out j h
          · have : j = 0 := by omega
            subst this; exact hb)
        clear hb
        go_wp2_with fail
        refine HC.out.mono ?_
        rintro e w2 ⟨rfl, rfl⟩
        go_wp2_with fail
        go_roundw
        case rel => exact ⟨1, by decide, rfl, HA2, by first | rfl | trivial⟩
        case measure => simp [intOf]
      · rw [hb] at HC
        have HS := hid (sgn_0  hb)
        have hz := begB_size hb
        have hz2 : (2 : Int) ≤ (q.size : Int) := by have : 2 ≤ q.size := hz; omega
        have hz3 : 2 ≤ q.size := hz
        clear hb hz
        go_wp2_with fail
        refine HC.out.mono ?_
        rintro e w2 ⟨rfl, rfl⟩
        go_wp2_with fail
        go_region_with fail
        all_goals
          go_wp2_with fail
          go_ret2
          exact ⟨by rw [HS.out]; rfl, below_drawn_of HB0.out _⟩
    · have HC := hid (HBG.out ⟨#[62, 61]⟩ wr)
      cases hb : begB q ⟨#[62, 61]⟩
      · rw [hb] at HC
        have HA2 := hid (show ∀ j, j < 2 → begB q (sgAt j) = false from fun j hj => by
          rcases Nat.lt_or_ge j 1 with h | h
          · exact HA.out j h
          · have : j = 1 := by omega
            subst this; exact hb)
        clear hb
        go_wp2_with fail
        refine HC.out.mono ?_
        rintro e w2 ⟨rfl, rfl⟩
        go_wp2_with fail
        go_roundw
        case rel => exact ⟨2, by decide, rfl, HA2, by first | rfl | trivial⟩
        case measure => simp [intOf]
      · rw [hb] at HC
        have HS := hid (sgn_1 (HA.out 0 (by decide)) hb)
        have hz := begB_size hb
        have hz2 : (2 : Int) ≤ (q.size : Int) := by have : 2 ≤ q.size := hz; omega
        have hz3 : 2 ≤ q.size := hz
        clear hb hz
        go_wp2_with fail
        refine HC.out.mono ?_
        rintro e w2 ⟨rfl, rfl⟩
        go_wp2_with fail
        go_region_with fail
        all_goals
          go_wp2_with fail
          go_ret2
          exact ⟨by rw [HS.out]; rfl, below_drawn_of HB0.out _⟩
    · have HC := hid (HBG.out ⟨#[60]⟩ wr)
      cases hb : begB q ⟨#[60]⟩
      · rw [hb] at HC
        have HA2 := hid (show ∀ j, j < 3 → begB q (sgAt j) = false from fun j hj => by
          rcases Nat.lt_or_ge j 2 with h | h
          · exact HA.out j h
          · have : j = 2 := by omega
            subst this; exact hb)
        clear hb
        go_wp2_with fail
        refine HC.out.mono ?_
        rintro e w2 ⟨rfl, rfl⟩
        go_wp2_with fail
        go_roundw
        case rel => exact ⟨3, by decide, rfl, HA2, by first | rfl | trivial⟩
        case measure => simp [intOf]
      · rw [hb] at HC
        have HS := hid (sgn_2 (HA.out 0 (by decide)) (HA.out 1 (by decide)) hb)
        have hz := begB_size hb
        have hz2 : (1 : Int) ≤ (q.size : Int) := by have : 1 ≤ q.size := hz; omega
        have hz3 : 1 ≤ q.size := hz
        clear hb hz
        go_wp2_with fail
        refine HC.out.mono ?_
        rintro e w2 ⟨rfl, rfl⟩
        go_wp2_with fail
        go_region_with fail
        all_goals
          go_wp2_with fail
          go_ret2
          exact ⟨by rw [HS.out]; rfl, below_drawn_of HB0.out _⟩
    · have HC := hid (HBG.out ⟨#[62]⟩ wr)
      cases hb : begB q ⟨#[62]⟩
      · rw [hb] at HC
        have HA2 := hid (show ∀ j, j < 4 → begB q (sgAt j) = false from fun j hj => by
          rcases Nat.lt_or_ge j 3 with h | h
          · exact HA.out j h
          · have : j = 3 := by omega
            subst this; exact hb)
        clear hb
        go_wp2_with fail
        refine HC.out.mono ?_
        rintro e w2 ⟨rfl, rfl⟩
        go_wp2_with fail
        go_roundw
        case rel => exact ⟨4, by decide, rfl, HA2, by first | rfl | trivial⟩
        case measure => simp [intOf]
      · rw [hb] at HC
        have HS := hid (sgn_3 (HA.out 0 (by decide)) (HA.out 1 (by decide)) (HA.out 2 (by decide)) hb)
        have hz := begB_size hb
        have hz2 : (1 : Int) ≤ (q.size : Int) := by have : 1 ≤ q.size := hz; omega
        have hz3 : 1 ≤ q.size := hz
        clear hb hz
        go_wp2_with fail
        refine HC.out.mono ?_
        rintro e w2 ⟨rfl, rfl⟩
        go_wp2_with fail
        go_region_with fail
        all_goals
          go_wp2_with fail
          go_ret2
          exact ⟨by rw [HS.out]; rfl, below_drawn_of HB0.out _⟩
    · have HS := hid (sgn_4 (HA.out 0 (by decide)) (HA.out 1 (by decide)) (HA.out 2 (by decide)) (HA.out 3 (by decide)))
      go_wp2_with fail
      go_ret2
      exact ⟨by rw [HS.out]; rfl, HB0.out⟩
set_option maxRecDepth 100000 in
set_option maxHeartbeats 2000000 in
/-- QueryError of a query. -/
theorem rqerr_any (q : ByteArray) (w : World) (hq : q.size < 999999) : Calls Tryz.prog 17 #[.string q] w fun e w' => e = .returned (.int .i64 (qErr q : Nat)) ∧ Below w.heap.size w w' := by
  have HW := hid (rword_any q w)
  have HSG := hid (rsgn_any q w)
  have HVO := hid (fun W => verOf_any (sgn q).2 W (by have := sgn_size q; omega))
  have HHO := hid (fun W => headOf_any q W (by omega))
  cases hw : isWd q
  · rw [hw] at HW
    obtain ⟨sv, hsv⟩ : ∃ sv, sgn q = sv := ⟨_, rfl⟩
    obtain ⟨sg, v⟩ := sv
    have HE1 := hid (fun h => qErr_ver (q := q) hw h)
    have HE2 := hid (fun h1 h2 => qErr_head (q := q) hw h1 h2)
    rw [hsv] at HSG HVO HE1 HE2
    simp only at HSG HVO HE1 HE2
    clear hw hsv
    by_cases hs : sg = bE
    · replace hs : sg = ⟨#[]⟩ := hs
      subst hs
      go_enter Tryz.func17, Tryz.ntmps17
      go_wp2_with fail
      refine HW.out.mono ?_
      rintro e w1 ⟨rfl, rfl⟩
      go_wp2_with fail
      refine HSG.out.mono ?_
      rintro e w2 ⟨rfl, hb⟩
      have HB2 := hid hb
      clear hb
      go_wp2_with fail
      refine (HVO.out w2).mono ?_
      rintro e w3 ⟨h, hb⟩
      have HB3 := hid (HB2.out.trans (hb.mono HB2.out.size))
      clear hb
      rcases h with ⟨h0, rfl⟩ | ⟨h0, sa, cap, X2, rfl, -⟩
      · by_cases h1 : verErr v.data.toList = 1
        · have HQ := hid (HE2.out (by first | rfl | trivial) h1)
          rw [h1]
          clear h0 h1 HE1 HE2
          go_wp2_with fail
          refine (HHO.out _).mono ?_
          rintro e w4 ⟨h, hb⟩
          have HB4 := hid ((HB3.out.alloc HB3.out.size _).trans (hb.mono (by simp; exact Nat.le_succ_of_le HB3.out.size)))
          clear hb
          rcases h with ⟨-, c, -, rfl, hc⟩ | ⟨ho, g, cap, rfl, -⟩
          · have HC := hid hc
            clear hc
            go_wp2_with fail
            go_ret
            exact ⟨by rw [HQ.out]; first | rfl | (rw [HC.out]; rfl) | (simp [HC.out]), HB4.out⟩
          · have HC := hid (headErr_ok ho)
            clear ho
            go_wp2_with fail
            go_ret
            exact ⟨by rw [HQ.out, HC.out]; rfl, HB4.out⟩
        · have HQ := hid (HE1.out (Or.inr h1))
          have n1 : (((verErr v.data.toList : Nat) : Int) == 1) = false := by simp; omega
          have n2 : ¬ ((verErr v.data.toList : Nat) : Int) = 1 := by omega
          have n3 : (((verErr v.data.toList : Nat) : Int) != 1) = true := by simp; omega
          have n4 : ¬ verErr v.data.toList = 1 := h1
          generalize verErr v.data.toList = ve at *
          clear h0 h1 HE1 HE2
          have HB4 := hid (HB3.out.alloc HB3.out.size (.cells #[.int .i64 0, .int .i64 0, .int .i64 0, .slice none 0 0] 46))
          go_wp2_with fail
          go_ret
          exact ⟨by rw [HQ.out]; rfl, HB4.out⟩
      · have HQ := hid (HE1.out (Or.inr (by rw [h0]; decide)))
        rw [h0] at HQ
        clear h0 HE1 HE2
        have HB4 := hid (HB3.out.alloc HB3.out.size (.cells #[.int .i64 (nAt v.data.toList 0), .int .i64 (nAt v.data.toList 1), .int .i64 (nAt v.data.toList 2), .slice sa X2.length cap] 46))
        go_wp2_with fail
        go_ret
        exact ⟨by rw [HQ.out]; rfl, HB4.out⟩
    · have HQ := hid (HE1.out (Or.inl hs))
      have he2 : (sg.toList == []) = false := by
        have := eqW sg bE
        rw [decide_eq_false hs] at this
        exact this.symm
      clear hs HE1 HE2
      go_enter Tryz.func17, Tryz.ntmps17
      go_wp2_with fail
      refine HW.out.mono ?_
      rintro e w1 ⟨rfl, rfl⟩
      go_wp2_with fail
      refine HSG.out.mono ?_
      rintro e w2 ⟨rfl, hb⟩
      have HB2 := hid hb
      clear hb
      go_wp2_with fail
      refine (HVO.out w2).mono ?_
      rintro e w3 ⟨h, hb⟩
      have HB3 := hid (HB2.out.trans (hb.mono HB2.out.size))
      clear hb
      rcases h with ⟨h0, rfl⟩ | ⟨h0, sa, cap, X2, rfl, -⟩
      · have HB4 := hid (HB3.out.alloc HB3.out.size (.cells #[.int .i64 0, .int .i64 0, .int .i64 0, .slice none 0 0] 46))
        generalize verErr v.data.toList = ve at *
        go_wp2_with fail
        go_ret
        exact ⟨by rw [HQ.out]; rfl, HB4.out⟩
      · have HB4 := hid (HB3.out.alloc HB3.out.size (.cells #[.int .i64 (nAt v.data.toList 0), .int .i64 (nAt v.data.toList 1), .int .i64 (nAt v.data.toList 2), .slice sa X2.length cap] 46))
        rw [h0] at HQ
        go_wp2_with fail
        go_ret
        exact ⟨by rw [HQ.out]; rfl, HB4.out⟩
  · rw [hw] at HW
    have HQ := hid (qErr_word hw)
    clear hw
    go_enter Tryz.func17, Tryz.ntmps17
    go_wp2_with fail
    refine HW.out.mono ?_
    rintro e w1 ⟨rfl, rfl⟩
    go_wp2_with fail
    go_ret
    exact ⟨by rw [HQ.out]; rfl, Below.refl _ _⟩
end Ve
end Go.Proofs.YtmbphngmaglgmaaGreatDoor

/-
  The order on versions turns round, and is nought for one version alone (plain). No Go here.
-/
namespace Go.Proofs.YtmbphngmaglgmaaGreatDoor
namespace Ve

theorem ordPart_swap (a b : List UInt8) : ordPart b a = -ordPart a b := by
  unfold ordPart
  cases h1 : digs a <;> cases h2 : digs b
  · simp only [Bool.false_eq_true, if_false]; exact cb_swap a b
  · simp
  · simp
  · simp only [if_true]; exact fst_swap (ci_swap _ _) (cb_swap _ _)
theorem ordPart_zero (a b : List UInt8) : ordPart a b = 0 ↔ a = b := by
  unfold ordPart
  cases h1 : digs a <;> cases h2 : digs b
  · simp only [Bool.false_eq_true, if_false]; exact cb_zero a b
  · simp only [Bool.false_eq_true, if_false, if_true]
    constructor
    · intro h; cases h
    · intro h; subst h; rw [h1] at h2; cases h2
  · simp only [Bool.false_eq_true, if_false, if_true]
    constructor
    · intro h; cases h
    · intro h; subst h; rw [h1] at h2; cases h2
  · simp only [if_true]
    rw [fst_zero, cb_zero]
    constructor
    · intro h; exact h.2
    · intro h; subst h; exact ⟨ci_self _, rfl⟩
theorem ordPs_swap : ∀ (a b : List (List UInt8)), ordPs b a = -ordPs a b
  | [], [] => rfl
  | [], _ :: _ => rfl
  | _ :: _, [] => rfl
  | x :: xs, y :: ys => fst_swap (ordPart_swap x y) (ordPs_swap xs ys)
theorem ordPs_zero : ∀ (a b : List (List UInt8)), ordPs a b = 0 ↔ a = b
  | [], [] => by simp [ordPs]
  | [], _ :: _ => by simp [ordPs]
  | _ :: _, [] => by simp [ordPs]
  | x :: xs, y :: ys => by
    unfold ordPs
    rw [fst_zero, ordPart_zero, ordPs_zero xs ys]
    simp
theorem ordPre_swap (a b : List (List UInt8)) : ordPre b a = -ordPre a b := by
  unfold ordPre
  by_cases h : a = [] ∨ b = []
  · rw [if_pos h, if_pos h.symm]; exact ci_swap _ _
  · rw [if_neg h, if_neg (fun k => h k.symm)]; exact ordPs_swap a b
theorem ordPre_zero (a b : List (List UInt8)) : ordPre a b = 0 ↔ a = b := by
  unfold ordPre
  by_cases h : a = [] ∨ b = []
  · rw [if_pos h, ci_zero]
    constructor
    · intro e
      rcases h with h | h
      · subst h; simp at e; exact e.symm
      · subst h; simp at e; exact List.length_eq_zero_iff.1 (by omega)
    · intro e; subst e; rfl
  · rw [if_neg h]; exact ordPs_zero a b
theorem ordV_swap (s t : List UInt8) : ordV t s = -ordV s t :=
  fst_swap (ci_swap _ _) (fst_swap (ci_swap _ _) (fst_swap (ci_swap _ _) (ordPre_swap _ _)))
theorem ordV_zero {s t : List UInt8} (hs : verErr s = 0) (ht : verErr t = 0) : ordV s t = 0 ↔ s = t := by
  unfold ordV ordN
  rw [fst_zero, fst_zero, fst_zero, ci_zero, ci_zero, ci_zero, ordPre_zero]
  constructor
  · rintro ⟨h0, h1, h2, h3⟩
    rw [← text_back s hs, ← text_back t ht, h0, h1, h2, h3]
  · intro h; subst h; exact ⟨rfl, rfl, rfl, rfl⟩
theorem ordV_range (s t : List UInt8) : ordV s t = -1 ∨ ordV s t = 0 ∨ ordV s t = 1 := ordN_range _ _ _ _ _ _ _ _
end Ve
end Go.Proofs.YtmbphngmaglgmaaGreatDoor

/-
  The order on versions: what is less than what is less is less; lists that rise are told by what they hold (plain). No Go here.
-/
namespace Go.Proofs.YtmbphngmaglgmaaGreatDoor
namespace Ve

theorem fst_lt {a b : Int} : fst a b < 0 ↔ a < 0 ∨ a = 0 ∧ b < 0 := by
  unfold fst
  by_cases h : a = 0
  · rw [if_pos h]; subst h; simp
  · rw [if_neg h]; simp [h]
theorem lex_trans {a1 a2 a3 b1 b2 b3 : Int} (h12 : a1 < 0 → a2 < 0 → a3 < 0) (h0l : a1 = 0 → a3 = a2) (h0r : a2 = 0 → a3 = a1) (hb : a1 = 0 → a2 = 0 → b1 < 0 → b2 < 0 → b3 < 0) :
    fst a1 b1 < 0 → fst a2 b2 < 0 → fst a3 b3 < 0 := by
  rw [fst_lt, fst_lt, fst_lt]
  rintro (h1 | ⟨h1, k1⟩) (h2 | ⟨h2, k2⟩)
  · exact Or.inl (h12 h1 h2)
  · exact Or.inl (by rw [h0r h2]; exact h1)
  · exact Or.inl (by rw [h0l h1]; exact h2)
  · exact Or.inr ⟨by rw [h0l h1]; exact h2, hb h1 h2 k1 k2⟩
theorem ci_trans {x y z : Int} (h1 : Lib.compareInt x y < 0) (h2 : Lib.compareInt y z < 0) : Lib.compareInt x z < 0 := by
  have e1 : x < y := by
    unfold Lib.compareInt at h1
    split at h1
    · assumption
    · split at h1 <;> omega
  have e2 : y < z := by
    unfold Lib.compareInt at h2
    split at h2
    · assumption
    · split at h2 <;> omega
  rw [ci_lt (by omega)]; decide
theorem cb_trans : ∀ (a b c : List UInt8), Lib.compareBytes a b < 0 → Lib.compareBytes b c < 0 → Lib.compareBytes a c < 0
  | [], [], _, h, _ => by simp [Lib.compareBytes] at h
  | [], _ :: _, [], _, h => by simp [Lib.compareBytes] at h
  | [], _ :: _, _ :: _, _, _ => by simp [Lib.compareBytes]
  | _ :: _, [], _, h, _ => by simp [Lib.compareBytes] at h
  | _ :: _, _ :: _, [], _, h => by simp [Lib.compareBytes] at h
  | x :: a, y :: b, z :: c, h1, h2 => by
    unfold Lib.compareBytes at h1 h2 ⊢
    by_cases h3 : x < y
    · by_cases h4 : y < z
      · rw [if_pos (UInt8.lt_trans h3 h4)]; decide
      · rw [if_neg h4] at h2
        by_cases h5 : z < y
        · rw [if_pos h5] at h2; omega
        · have := u8_eq h4 h5
          subst this
          rw [if_pos h3]; decide
    · rw [if_neg h3] at h1
      by_cases h4 : y < x
      · rw [if_pos h4] at h1; omega
      · rw [if_neg h4] at h1
        have := u8_eq h3 h4
        subst this
        by_cases h5 : x < z
        · rw [if_pos h5]; decide
        · rw [if_neg h5] at h2 ⊢
          by_cases h6 : z < x
          · rw [if_pos h6] at h2; omega
          · rw [if_neg h6] at h2 ⊢
            exact cb_trans a b c h1 h2
theorem ordPart_trans {a b c : List UInt8} (h1 : ordPart a b < 0) (h2 : ordPart b c < 0) : ordPart a c < 0 := by
  unfold ordPart at *
  cases ha : digs a <;> cases hb : digs b <;> cases hc : digs c <;> rw [ha, hb] at h1 <;> rw [hb, hc] at h2
  · exact cb_trans _ _ _ h1 h2
  · exact absurd (show (1 : Int) < 0 from h2) (by decide)
  · exact absurd (show (1 : Int) < 0 from h1) (by decide)
  · exact absurd (show (1 : Int) < 0 from h1) (by decide)
  · show (-1 : Int) < 0; decide
  · exact absurd (show (1 : Int) < 0 from h2) (by decide)
  · show (-1 : Int) < 0; decide
  · refine lex_trans (fun h k => ci_trans h k) ?_ ?_ (fun _ _ h k => cb_trans _ _ _ h k) h1 h2
    · intro h; rw [(ci_zero _ _).1 h]
    · intro h; rw [(ci_zero _ _).1 h]
theorem ordPs_trans : ∀ (a b c : List (List UInt8)), ordPs a b < 0 → ordPs b c < 0 → ordPs a c < 0
  | [], [], _, h, _ => by simp [ordPs] at h
  | [], _ :: _, [], _, h => by simp [ordPs] at h
  | [], _ :: _, _ :: _, _, _ => by simp [ordPs]
  | _ :: _, [], _, h, _ => by simp [ordPs] at h
  | _ :: _, _ :: _, [], _, h => by simp [ordPs] at h
  | x :: a, y :: b, z :: c, h1, h2 => by
    unfold ordPs at h1 h2 ⊢
    refine lex_trans (fun h k => ordPart_trans h k) ?_ ?_ (fun _ _ h k => ordPs_trans a b c h k) h1 h2
    · intro h; rw [(ordPart_zero _ _).1 h]
    · intro h; rw [(ordPart_zero _ _).1 h]
theorem ordPre_trans {a b c : List (List UInt8)} (h1 : ordPre a b < 0) (h2 : ordPre b c < 0) : ordPre a c < 0 := by
  unfold ordPre at *
  by_cases ha : a = []
  · subst ha
    rw [if_pos (Or.inl rfl)] at h1
    exfalso
    have : ¬ Lib.compareInt (b.length : Int) (([] : List (List UInt8)).length : Int) < 0 := by
      unfold Lib.compareInt
      split
      · rename_i h; simp at h; omega
      · split <;> omega
    exact this h1
  · by_cases hb : b = []
    · subst hb
      rw [if_pos (Or.inl rfl)] at h2
      exfalso
      have : ¬ Lib.compareInt (c.length : Int) (([] : List (List UInt8)).length : Int) < 0 := by
        unfold Lib.compareInt
        split
        · rename_i h; simp at h; omega
        · split <;> omega
      exact this h2
    · by_cases hc : c = []
      · subst hc
        rw [if_pos (Or.inr rfl)]
        rw [ci_lt (by have := List.length_pos_iff.2 ha; simp; omega)]; decide
      · rw [if_neg (by rintro (h | h); exact ha h; exact hb h)] at h1
        rw [if_neg (by rintro (h | h); exact hb h; exact hc h)] at h2
        rw [if_neg (by rintro (h | h); exact ha h; exact hc h)]
        exact ordPs_trans a b c h1 h2
theorem ordV_trans {s t u : List UInt8} (h1 : ordV s t < 0) (h2 : ordV t u < 0) : ordV s u < 0 := by
  unfold ordV ordN at *
  refine lex_trans (fun h k => ci_trans h k) ?_ ?_ (fun _ _ => lex_trans (fun h k => ci_trans h k) ?_ ?_ (fun _ _ => lex_trans (fun h k => ci_trans h k) ?_ ?_ (fun _ _ h k => ordPre_trans h k))) h1 h2
  all_goals (intro h; rw [(ci_zero _ _).1 h])
theorem ordV_irr {s t : List UInt8} (h : ordV s t < 0) : ¬ ordV t s < 0 := by rw [ordV_swap s t]; omega

/-- Each is less than those behind it. -/
def rises (l : List (List UInt8)) : Prop := l.Pairwise fun s t => ordV s t < 0
theorem rises_same : ∀ (a b : List (List UInt8)), rises a → rises b → (∀ x, x ∈ a ↔ x ∈ b) → a = b
  | [], [], _, _, _ => rfl
  | [], y :: _, _, _, h => absurd ((h y).2 (by simp)) (by simp)
  | x :: _, [], _, _, h => absurd ((h x).1 (by simp)) (by simp)
  | x :: a, y :: b, ha, hb, h => by
    obtain ⟨ha1, ha2⟩ := List.pairwise_cons.1 ha
    obtain ⟨hb1, hb2⟩ := List.pairwise_cons.1 hb
    have exy : x = y := by
      rcases List.mem_cons.1 ((h x).1 (by simp)) with e | e
      · exact e
      · rcases List.mem_cons.1 ((h y).2 (by simp)) with k | k
        · exact k.symm
        · exact absurd (hb1 x e) (ordV_irr (ha1 y k))
    subst exy
    have hxa : x ∉ a := fun k => ordV_irr (ha1 x k) (ha1 x k)
    have hxb : x ∉ b := fun k => ordV_irr (hb1 x k) (hb1 x k)
    rw [rises_same a b ha2 hb2 (fun z => ⟨fun k => by
      rcases List.mem_cons.1 ((h z).1 (List.mem_cons_of_mem _ k)) with e | e
      · subst e; exact absurd k hxa
      · exact e, fun k => by
      rcases List.mem_cons.1 ((h z).2 (List.mem_cons_of_mem _ k)) with e | e
      · subst e; exact absurd k hxb
      · exact e⟩)]
end Ve
end Go.Proofs.YtmbphngmaglgmaaGreatDoor

/-
  A row of versions' parts in memory; what slices.insertionSortCmpFunc makes of it.
-/
namespace Go.Proofs.YtmbphngmaglgmaaGreatDoor
open Go.RowKit
namespace Ve

/-- A version's text, and the slice of its pre. -/
abbrev Rc := List UInt8 × Value
def rcells (r : Rc) : List Value := [.int .i64 (nAt r.1 0), .int .i64 (nAt r.1 1), .int .i64 (nAt r.1 2), r.2]
/-- A record's pre lies in memory, and not in block g. -/
def RcAt (W : World) (g : Nat) (r : Rc) : Prop := verErr r.1 = 0 ∧ r.1.length ≤ 80 ∧ StrsAt W r.2 (strs (preOf r.1)) ∧ ∀ b o s n c, r.2 = .slice (some ⟨b, o, s⟩) n c → b ≠ g
/-- The row of records in block g. -/
structure Rw (w0 W : World) (g : Nat) (D : List Rc) : Prop where
  bl : Below w0.heap.size w0 W
  lo : w0.heap.size ≤ g
  hi : g < W.heap.size
  fz : ∀ o, W.frozen? ⟨g, o, none⟩ = false
  rc : ∀ r, r ∈ D → RcAt W g r
  c0 : ∀ j (h : j < D.length), W.cell? ⟨g, j * 4, none⟩ = some (.int .i64 (nAt D[j].1 0))
  c1 : ∀ j (h : j < D.length), W.cell? ⟨g, j * 4 + 1, none⟩ = some (.int .i64 (nAt D[j].1 1))
  c2 : ∀ j (h : j < D.length), W.cell? ⟨g, j * 4 + 2, none⟩ = some (.int .i64 (nAt D[j].1 2))
  c3 : ∀ j (h : j < D.length), W.cell? ⟨g, j * 4 + 3, none⟩ = some D[j].2
theorem RcAt.below {W W' : World} {g : Nat} {r : Rc} (h : RcAt W g r) (hb : Below W.heap.size W W') : RcAt W' g r := ⟨h.1, h.2.1, h.2.2.1.below hb, h.2.2.2⟩
theorem Rw.below {w0 W W' : World} {g : Nat} {D : List Rc} (h : Rw w0 W g D) (hb : Below W.heap.size W W') : Rw w0 W' g D :=
  ⟨h.bl.trans (hb.mono h.bl.size), h.lo, Nat.lt_of_lt_of_le h.hi hb.size, fun o => by rw [hb.frozen h.hi]; exact h.fz o, fun r hr => (h.rc r hr).below hb,
   fun j hj => cell_below hb (h.c0 j hj), fun j hj => cell_below hb (h.c1 j hj), fun j hj => cell_below hb (h.c2 j hj), fun j hj => cell_below hb (h.c3 j hj)⟩

theorem Rw.at {w0 W : World} {g : Nat} {D : List Rc} (h : Rw w0 W g D) {j : Nat} {r : Rc} (hj : D[j]? = some r) :
    W.cell? ⟨g, j * 4, none⟩ = some (.int .i64 (nAt r.1 0)) ∧ W.cell? ⟨g, j * 4 + 1, none⟩ = some (.int .i64 (nAt r.1 1)) ∧ W.cell? ⟨g, j * 4 + 2, none⟩ = some (.int .i64 (nAt r.1 2)) ∧ W.cell? ⟨g, j * 4 + 3, none⟩ = some r.2 := by
  obtain ⟨hl, rfl⟩ := List.getElem?_eq_some_iff.1 hj
  exact ⟨h.c0 j hl, h.c1 j hl, h.c2 j hl, h.c3 j hl⟩
/-- Two neighbours' cells, and the row. -/
def Two (w0 W : World) (g j : Nat) (D : List Rc) (y x : Rc) : Prop :=
  W.cell? ⟨g, j * 4, none⟩ = some (.int .i64 (nAt y.1 0)) ∧ W.cell? ⟨g, j * 4 + 1, none⟩ = some (.int .i64 (nAt y.1 1)) ∧ W.cell? ⟨g, j * 4 + 2, none⟩ = some (.int .i64 (nAt y.1 2)) ∧ W.cell? ⟨g, j * 4 + 3, none⟩ = some y.2 ∧
  W.cell? ⟨g, (j + 1) * 4, none⟩ = some (.int .i64 (nAt x.1 0)) ∧ W.cell? ⟨g, (j + 1) * 4 + 1, none⟩ = some (.int .i64 (nAt x.1 1)) ∧ W.cell? ⟨g, (j + 1) * 4 + 2, none⟩ = some (.int .i64 (nAt x.1 2)) ∧ W.cell? ⟨g, (j + 1) * 4 + 3, none⟩ = some x.2 ∧ Hid (Rw w0 W g D)
theorem Rw.two {w0 W : World} {g : Nat} {D : List Rc} (h : Rw w0 W g D) {j : Nat} {y x : Rc} (hy : D[j]? = some y) (hx : D[j + 1]? = some x) : Two w0 W g j D y x := by
  obtain ⟨a0, a1, a2, a3⟩ := h.at hy
  obtain ⟨b0, b1, b2, b3⟩ := h.at hx
  exact ⟨a0, a1, a2, a3, b0, b1, b2, b3, h⟩
theorem strs_len (ps : List (List UInt8)) : (strs ps).length = ps.length := by simp [strs]
theorem pre_small {W : World} {g : Nat} {r : Rc} (h : RcAt W g r) : (strs (preOf r.1)).length ≤ 1000000 ∧ ∀ x, x ∈ strs (preOf r.1) → x.size ≤ maxLen := by
  have h1 := pre_len (l := r.1)
  refine ⟨by rw [strs_len]; have := h.2.1; omega, fun x hx => ?_⟩
  have h2 : x.data.toList ∈ preOf r.1 := by rw [← bl_strs (preOf r.1)]; exact bl_mem hx
  have h3 := pre_size h2
  rw [len_eq] at h3
  have := h.2.1
  unfold maxLen; omega
/-- compare of two records. -/
theorem compare_rcw (r q : Rc) (g : Nat) (W : World) (hr : RcAt W g r) (hq : RcAt W g q) :
    Calls Tryz.prog 38 #[.agg #[.int .i64 (nAt r.1 0), .int .i64 (nAt r.1 1), .int .i64 (nAt r.1 2), r.2], .agg #[.int .i64 (nAt q.1 0), .int .i64 (nAt q.1 1), .int .i64 (nAt q.1 2), q.2]] W
      fun e w' => e = .returned (.int .i64 (ordV r.1 q.1)) ∧ Bw W.heap.size W w' := by
  have h := compare_bw (nAt r.1 0) (nAt r.1 1) (nAt r.1 2) (nAt q.1 0) (nAt q.1 1) (nAt q.1 2) r.2 q.2 (strs (preOf r.1)) (strs (preOf q.1)) W (pre_small hr).1 (pre_small hq).1 (pre_small hr).2 (pre_small hq).2 hr.2.2.1 hq.2.2.1
  rw [bl_strs, bl_strs] at h
  exact h
theorem compare_rc (r q : Rc) (g : Nat) (W : World) (hr : RcAt W g r) (hq : RcAt W g q) :
    Calls Tryz.prog 38 #[.agg #[.int .i64 (nAt r.1 0), .int .i64 (nAt r.1 1), .int .i64 (nAt r.1 2), r.2], .agg #[.int .i64 (nAt q.1 0), .int .i64 (nAt q.1 1), .int .i64 (nAt q.1 2), q.2]] W
      fun e w' => e = .returned (.int .i64 (ordV r.1 q.1)) ∧ Below W.heap.size W w' := by
  have h := compare_any (nAt r.1 0) (nAt r.1 1) (nAt r.1 2) (nAt q.1 0) (nAt q.1 1) (nAt q.1 2) r.2 q.2 (strs (preOf r.1)) (strs (preOf q.1)) W (pre_small hr).1 (pre_small hq).1 (pre_small hr).2 (pre_small hq).2 hr.2.2.1 hq.2.2.1
  rw [bl_strs, bl_strs] at h
  exact h
end Ve
end Go.Proofs.YtmbphngmaglgmaaGreatDoor

/-
  Records in the worlds that a sort passes through; compare there.
-/
namespace Go.Proofs.YtmbphngmaglgmaaGreatDoor
open Go.RowKit
namespace Ve

theorem grow_of_bw {W w' : World} (h : Bw W.heap.size W w') : ∃ q os', w' = Go.Sort.grow (W.drewN q) os' := by
  refine ⟨w'.drawn - W.drawn, w'.heap.extract W.heap.size w'.heap.size, ?_⟩
  have hd := h.dr
  have hh : w'.heap = W.heap ++ w'.heap.extract W.heap.size w'.heap.size := by
    apply Array.ext_getElem?
    intro i
    by_cases hi : i < W.heap.size
    · rw [Array.getElem?_append_left hi, h.be.block i hi]
    · rw [Array.getElem?_append_right (by omega), Array.getElem?_extract]
      have hs := h.be.size
      by_cases h2 : i < w'.heap.size
      · rw [if_pos (by omega)]
        congr 1
        omega
      · rw [if_neg (by omega)]
        exact Array.getElem?_eq_none (by omega)
  obtain ⟨a, b, c, d, e⟩ := w'
  obtain ⟨a', b', c', d', e'⟩ := W
  have h1 := h.be.os
  have h2 := h.be.tape
  have h3 := h.be.output
  simp only at h1 h2 h3 hh hd
  subst h1 h2 h3
  simp only [Go.Sort.grow, World.drewN, World.mk.injEq, true_and, and_true]
  exact ⟨hh, by omega⟩

/-- The records of a world. -/
abbrev Rq (w : World) (g : Nat) := { r : Rc // RcAt w g r }
def encR {w : World} {g : Nat} (r : Rq w g) : List Value := rcells r.1
def cfR {w : World} {g : Nat} (r q : Rq w g) : Int := ordV r.1.1 q.1.1
theorem swoR (w : World) (g : Nat) : Go.Sort.SWO (ltOf (cfR (w := w) (g := g))) where
  irrefl x := by
    unfold ltOf cfR
    rw [(ordV_zero x.2.1 x.2.1).2 rfl]; rfl
  trans x y z h1 h2 := by
    unfold ltOf cfR at *
    simp only [decide_eq_true_eq] at *
    exact ordV_trans h1 h2
  ntrans x y z h1 h2 := by
    unfold ltOf cfR at *
    simp only [decide_eq_false_iff_not] at *
    intro h
    rcases ordV_range x.1.1 y.1.1 with e | e | e
    · omega
    · have := (ordV_zero x.2.1 y.2.1).1 e
      rw [this] at h
      exact h2 h
    · have h3 : ordV y.1.1 x.1.1 < 0 := by rw [ordV_swap x.1.1 y.1.1]; omega
      exact h2 (ordV_trans h3 h)
theorem encR_len {w : World} {g : Nat} (r : Rq w g) : (encR r).length = 4 := rfl
theorem RcAt.sorted {w : World} {g : Nat} {r : Rc} (h : RcAt w g r) {α : Type} [Inhabited α] (enc : α → List Value) (m : Nat) (dk : Array α) (os : Array Obj) : RcAt (sortWorldK enc 4 w g 0 m dk os) g r := by
  refine ⟨h.1, h.2.1, ?_, h.2.2.2⟩
  rcases h.2.2.1 with h0 | ⟨hne, b, e1, e2, e3⟩
  · exact Or.inl h0
  · have hbg : b ≠ g := h.2.2.2 b 0 none _ _ e1
    refine Or.inr ⟨hne, b, e1, Nat.lt_of_lt_of_le e2 (size_sortWorldK_c enc 4 w g 0 m dk os), fun j hj => ?_⟩
    unfold sortWorldK
    rw [Go.Sort.cell?_grow _ _ _ (by rw [Go.Sort.size_putRowK]; exact e2), Go.Sort.cell?_putRowK_other enc 4 _ g 0 dk _ hbg]
    exact e3 j hj
theorem cmpR (w : World) (g n : Nat) [Inhabited (Rq w g)] : CmpLays Tryz.prog 38 #[] (encR (w := w) (g := g)) 4 cfR g 0 n w := by
  intro m os dk hs x y
  have h := compare_rcw x.1 y.1 g (sortWorldK encR 4 w g 0 m dk os) (x.2.sorted encR m dk os) (y.2.sorted encR m dk os)
  have e : (#[.agg (encR x).toArray, .agg (encR y).toArray] ++ #[] : Array Value) = #[.agg #[.int .i64 (nAt x.1.1 0), .int .i64 (nAt x.1.1 1), .int .i64 (nAt x.1.1 2), x.1.2], .agg #[.int .i64 (nAt y.1.1 0), .int .i64 (nAt y.1.1 1), .int .i64 (nAt y.1.1 2), y.1.2]] := by simp [encR, rcells]
  rw [e]
  exact h.mono fun e w' ⟨he, hb⟩ => ⟨he, grow_of_bw hb⟩
end Ve
end Go.Proofs.YtmbphngmaglgmaaGreatDoor

/-
  slices.SortFunc at this program: the contract of the compiled library laid here, by one application.
-/
namespace Go.Proofs
open Go.Shelf
def Tryz.sortParts_ren : Go.Shelf.Ren := ⟨fun | 6 => 116 | 15 => 154 | 14 => 153 | 28 => 187 | 29 => 188 | 20 => 179 | 21 => 180 | 22 => 181 | 23 => 182 | 24 => 183 | 25 => 184 | 26 => 185 | 27 => 186 | 46 => 212 | 47 => 213 | 48 => 214 | 49 => 215 | 50 => 216 | 57 => 239 | n => n, fun | 22 => 138 | 24 => 66 | 25 => 73 | 3 => 3 | 39 => 175 | 0 => 0 | 53 => 200 | 55 => 202 | 4 => 4 | 46 => 193 | 45 => 192 | 50 => 197 | 5 => 5 | 9 => 9 | 66 => 218 | 70 => 222 | 76 => 238 | 77 => 74 | n => n, fun | n => n⟩
theorem Tryz.sortParts : Go.Proofs.SlLaysF0.n6 Tryz.prog Tryz.sortParts_ren := {
  mixed := by kernel_rfl
  f6 := ⟨Tryz.f116.name, by decide, Tryz.func116.trans (congrArg some (by kernel_rfl))⟩
  f14 := ⟨Tryz.f153.name, by decide, Tryz.func153.trans (congrArg some (by kernel_rfl))⟩
  f15 := Tryz.func154.trans (congrArg some (by kernel_rfl))
  f20 := ⟨Tryz.f179.name, by decide, Tryz.func179.trans (congrArg some (by kernel_rfl))⟩
  f21 := ⟨Tryz.f180.name, by decide, Tryz.func180.trans (congrArg some (by kernel_rfl))⟩
  f22 := ⟨Tryz.f181.name, by decide, Tryz.func181.trans (congrArg some (by kernel_rfl))⟩
  f23 := ⟨Tryz.f182.name, by decide, Tryz.func182.trans (congrArg some (by kernel_rfl))⟩
  f24 := ⟨Tryz.f183.name, by decide, Tryz.func183.trans (congrArg some (by kernel_rfl))⟩
  f25 := ⟨Tryz.f184.name, by decide, Tryz.func184.trans (congrArg some (by kernel_rfl))⟩
  f26 := ⟨Tryz.f185.name, by decide, Tryz.func185.trans (congrArg some (by kernel_rfl))⟩
  f27 := ⟨Tryz.f186.name, by decide, Tryz.func186.trans (congrArg some (by kernel_rfl))⟩
  f28 := Tryz.func187.trans (congrArg some (by kernel_rfl))
  f29 := Tryz.func188.trans (congrArg some (by kernel_rfl))
  f46 := ⟨Tryz.f212.name, by decide, Tryz.func212.trans (congrArg some (by kernel_rfl))⟩
  f47 := Tryz.func213.trans (congrArg some (by kernel_rfl))
  f48 := Tryz.func214.trans (congrArg some (by kernel_rfl))
  f49 := ⟨Tryz.f215.name, by decide, Tryz.func215.trans (congrArg some (by kernel_rfl))⟩
  f50 := ⟨Tryz.f216.name, by decide, Tryz.func216.trans (congrArg some (by kernel_rfl))⟩
  f57 := ⟨Tryz.f239.name, by decide, Tryz.func239.trans (congrArg some (by kernel_rfl))⟩
  t0 := Tryz.underlying0
  a0 := Tryz.isAgg0
  z0 := Tryz.sizeOf0
  v0 := Tryz.zeroValue0
  t3 := Tryz.underlying3
  a3 := Tryz.isAgg3
  z3 := Tryz.sizeOf3
  v3 := Tryz.zeroValue3
  t4 := Tryz.underlying4
  a4 := Tryz.isAgg4
  z4 := Tryz.sizeOf4
  v4 := Tryz.zeroValue4
  t5 := Tryz.underlying5
  a5 := Tryz.isAgg5
  z5 := Tryz.sizeOf5
  v5 := Tryz.zeroValue5
  t9 := Tryz.underlying9
  a9 := Tryz.isAgg9
  z9 := Tryz.sizeOf9
  v9 := Tryz.zeroValue9
  t22 := Tryz.underlying138
  a22 := Tryz.isAgg138
  z22 := Tryz.sizeOf138
  v22 := Tryz.zeroValue138
  t25 := Tryz.underlying73
  a25 := Tryz.isAgg73
  z25 := Tryz.sizeOf73
  v25 := Tryz.zeroValue73
  t39 := Tryz.underlying175
  a39 := Tryz.isAgg175
  z39 := Tryz.sizeOf175
  v39 := Tryz.zeroValue175
  t45 := Tryz.underlying192
  a45 := Tryz.isAgg192
  z45 := Tryz.sizeOf192
  v45 := Tryz.zeroValue192
  t46 := Tryz.underlying193
  a46 := Tryz.isAgg193
  z46 := Tryz.sizeOf193
  v46 := Tryz.zeroValue193
  t50 := Tryz.underlying197
  a50 := Tryz.isAgg197
  z50 := Tryz.sizeOf197
  v50 := Tryz.zeroValue197
  t53 := Tryz.underlying200
  a53 := Tryz.isAgg200
  z53 := Tryz.sizeOf200
  v53 := Tryz.zeroValue200
  t55 := Tryz.underlying202
  a55 := Tryz.isAgg202
  z55 := Tryz.sizeOf202
  v55 := Tryz.zeroValue202
  t66 := Tryz.underlying218
  a66 := Tryz.isAgg218
  z66 := Tryz.sizeOf218
  v66 := Tryz.zeroValue218
  t70 := Tryz.underlying222
  a70 := Tryz.isAgg222
  z70 := Tryz.sizeOf222
  v70 := Tryz.zeroValue222
  t76 := Tryz.underlying238
  a76 := Tryz.isAgg238
  z76 := Tryz.sizeOf238
  v76 := Tryz.zeroValue238
  t77 := Tryz.underlying74
  a77 := Tryz.isAgg74
  z77 := Tryz.sizeOf74
  v77 := Tryz.zeroValue74 }
end Go.Proofs

/-
  What slices.SortFunc with compare makes of a row of records.
-/
namespace Go.Proofs.YtmbphngmaglgmaaGreatDoor
open Go.RowKit
namespace Ve

/-- No record is greater than one behind it. -/
def srt (D : List Rc) : Prop := D.Pairwise fun r q => ordV r.1 q.1 ≤ 0

theorem sorted_below {w : World} {g : Nat} {α : Type} [Inhabited α] (enc : α → List Value) (m : Nat) (dk : Array α) (os : Array Obj) (B : Nat) (hB : B ≤ g) (hz : B ≤ w.heap.size) : Below B w (sortWorldK enc 4 w g 0 m dk os) := by
  refine ⟨rfl, rfl, rfl, size_sortWorldK_c enc 4 w g 0 m dk os, fun k hk => ?_⟩
  unfold sortWorldK
  rw [Go.Sort.heap_grow_old _ _ (by rw [Go.Sort.size_putRowK]; show k < w.heap.size; omega)]
  unfold Go.Sort.putRowK Go.Sort.putRow
  show (Array.modify (Go.Sort.ahead w m).heap g _)[k]? = _
  rw [Array.getElem?_modify, if_neg (by omega)]
  rfl

theorem holds_rw {w0 w : World} {g : Nat} {D : List Rc} (h : Rw w0 w g D) [Inhabited (Rq w g)] (d : Array (Rq w g)) (hd : d.toList.map (·.1) = D) : Go.Sort.HoldsK encR 4 w g 0 d := by
  have hl : d.size = D.length := by rw [← hd]; simp
  intro t ht
  rw [Go.Sort.size_flatK] at ht
  rw [Go.Sort.get_flatK _ _ _ _ ht]
  have hi : t / 4 < d.size := by omega
  have e : d[t / 4]!.1 = D[t / 4]'(by omega) := by
    rw [getElem!_pos d (t / 4) hi]
    simp [← hd]
  refine ⟨?_, by rw [Nat.zero_add]; exact h.fz t⟩
  show w.cell? ⟨g, 0 + t, none⟩ = some ((rcells d[t / 4]!.1)[t % 4]!)
  rw [e, Nat.zero_add]
  have hm : t % 4 < 4 := Nat.mod_lt _ (by omega)
  have hdm := Nat.div_add_mod t 4
  match hc : t % 4, hm with
  | 0, _ => have := h.c0 (t / 4) (by omega); rw [show t / 4 * 4 = t by omega] at this; exact this
  | 1, _ => have := h.c1 (t / 4) (by omega); rw [show t / 4 * 4 + 1 = t by omega] at this; exact this
  | 2, _ => have := h.c2 (t / 4) (by omega); rw [show t / 4 * 4 + 2 = t by omega] at this; exact this
  | 3, _ => have := h.c3 (t / 4) (by omega); rw [show t / 4 * 4 + 3 = t by omega] at this; exact this

theorem lift_rq {w : World} {g : Nat} : ∀ D : List Rc, (∀ r, r ∈ D → RcAt w g r) → ∃ l : List (Rq w g), l.map (·.1) = D
  | [], _ => ⟨[], rfl⟩
  | r :: R, h => by
    obtain ⟨l, e⟩ := lift_rq R (fun q hq => h q (List.mem_cons_of_mem _ hq))
    exact ⟨⟨r, h r (by simp)⟩ :: l, by simp [e]⟩
theorem sort_rw (w0 w : World) (g cap : Nat) (D : List Rc) (hD : D ≠ []) (h12 : D.length ≤ 1000) (h : Rw w0 w g D) :
    Calls Tryz.prog 116 #[.slice (some ⟨g, 0, none⟩) D.length cap, .func (.func 38) #[] #[]] w fun e w' => e = .returned (.tuple #[]) ∧ ∃ D', D'.Perm D ∧ srt D' ∧ Rw w0 w' g D' := by
  obtain ⟨r0, R, rfl⟩ : ∃ r R, D = r :: R := by
    cases D with
    | nil => exact absurd rfl hD
    | cons r R => exact ⟨r, R, rfl⟩
  letI : Inhabited (Rq w g) := ⟨⟨r0, h.rc r0 (by simp)⟩⟩
  obtain ⟨d, hd⟩ : ∃ d : Array (Rq w g), d.toList.map (·.1) = r0 :: R := by
    obtain ⟨l, e⟩ := lift_rq (r0 :: R) h.rc
    exact ⟨l.toArray, by simpa using e⟩
  have hl : d.size = (r0 :: R).length := by rw [← hd]; simp
  have hH := holds_rw h d hd
  have eg : ∀ args w, (callFunc 38 args).run Tryz.prog w = .ok (.enter 38 args) w := enters_of Tryz.func38 (by kernel_rfl) rfl
  have hcon := AnyQ.slices_SortFunc Tryz.sortParts 4 Tryz.isAgg66 Tryz.sizeOf66 encR encR_len (fun x v hv => by
    obtain ⟨px, nx, cx, e⟩ := x.2.2.2.1.slice
    simp only [encR, rcells, e, List.mem_cons, List.not_mem_nil, or_false] at hv
    rcases hv with rfl | rfl | rfl | rfl <;> rfl) cfR (swoR w g) 38 #[] g 0 cap d w eg (cmpR w g d.size) hH h.hi (by omega)
  rw [hl] at hcon
  refine Calls.mono hcon ?_
  rintro e w' ⟨he, d', n, os, hp, hs, rfl⟩
  obtain ⟨hsz, _, hperm⟩ := hp
  have hsz' : d'.size = (r0 :: R).length := hsz.trans hl
  have hHd := holdsK_sortWorldK_c encR 4 w g 0 d d' n os hH h.hi hsz
  have hpm : d'.toList.Perm d.toList := by
    have e1 : d'.extract 0 (r0 :: R).length = d' := by rw [← hsz']; simp
    have e2 : d.extract 0 (r0 :: R).length = d := by rw [← hl]; simp
    rw [e1, e2] at hperm
    exact hperm
  have hg : ∀ j (hj : j < (d'.toList.map (·.1)).length), d'[j]! = d'[j]'(by simpa using hj) := fun j hj => getElem!_pos d' j (by simpa using hj)
  have cell : ∀ j (hj : j < (d'.toList.map (·.1)).length) c (hc : c < 4), (sortWorldK encR 4 w g 0 n d' os).cell? ⟨g, j * 4 + c, none⟩ = some ((rcells (d'.toList.map (·.1))[j])[c]!) := by
    intro j hj c hc
    have h1 := (hHd.cell (i := j) (c := c) (by simpa using hj) hc).1
    rw [Nat.zero_add, hg j hj] at h1
    rw [h1]
    simp [encR]
  refine ⟨he, d'.toList.map (·.1), ?_, ?_, ?_⟩
  · rw [← hd]; exact hpm.map _
  · unfold srt
    rw [List.pairwise_iff_getElem]
    intro i j hi hj hij
    have h1 := hs i j (Nat.zero_le _) hij (by rw [← hsz']; simpa using hj)
    rw [hg i hi, hg j hj] at h1
    unfold ltOf cfR at h1
    simp only [decide_eq_false_iff_not] at h1
    simp only [List.getElem_map, Array.getElem_toList]
    have h3 : ¬ ordV (d'[j]'(by simpa using hj)).1.1 (d'[i]'(by simpa using hi)).1.1 < 0 := h1
    rw [ordV_swap (d'[i]'(by simpa using hi)).1.1 (d'[j]'(by simpa using hj)).1.1] at h3
    omega
  · refine ⟨h.bl.trans ((sorted_below encR n d' os w0.heap.size h.lo h.bl.size)), h.lo, Nat.lt_of_lt_of_le h.hi (size_sortWorldK_c encR 4 w g 0 n d' os), fun o => ?_, fun r hr => ?_, fun j hj => ?_, fun j hj => ?_, fun j hj => ?_, fun j hj => ?_⟩
    · unfold sortWorldK
      rw [Go.Sort.frozen?_grow _ _ _ (by rw [Go.Sort.size_putRowK]; exact h.hi)]
      unfold Go.Sort.putRowK
      rw [Go.Sort.frozen?_putRow]
      exact h.fz o
    · obtain ⟨x, _, rfl⟩ := List.mem_map.1 hr
      exact x.2.sorted encR n d' os
    · exact cell j hj 0 (by omega)
    · exact cell j hj 1 (by omega)
    · exact cell j hj 2 (by omega)
    · exact cell j hj 3 (by omega)
end Ve
end Go.Proofs.YtmbphngmaglgmaaGreatDoor

/-
  What the document's answer makes of a list of versions (SortVers): those that are right, each once, each less than those behind it.
-/
namespace Go.Proofs.YtmbphngmaglgmaaGreatDoor
open Go.RowKit
namespace Ve

theorem rises_ins {A B : List (List UInt8)} {x : List UInt8} (h : rises (A ++ B)) (ha : ∀ a, a ∈ A → ordV a x < 0) (hb : ∀ b, B.head? = some b → ordV x b < 0) : rises (A ++ x :: B) := by
  unfold rises at *
  rw [List.pairwise_append] at h ⊢
  obtain ⟨h1, h2, h3⟩ := h
  have hB : ∀ b, b ∈ B → ordV x b < 0 := by
    cases B with
    | nil => intro b hb; cases hb
    | cons b r =>
      have hb0 := hb b rfl
      intro c hc
      rcases List.mem_cons.1 hc with e | hc
      · rw [e]; exact hb0
      · exact ordV_trans hb0 ((List.pairwise_cons.1 h2).1 c hc)
  refine ⟨h1, List.pairwise_cons.2 ⟨hB, h2⟩, fun a ha' c hc => ?_⟩
  rcases List.mem_cons.1 hc with e | hc
  · rw [e]; exact ha a ha'
  · exact h3 a ha' c hc
theorem owns_mono {w : World} {b b' : Nat} {e : TypeId} {size : Nat} {v : Value} {n : Nat} {xs : List Value} (h : w.ownsRow b e size v n xs) (hb : b' ≤ b) : w.ownsRow b' e size v n xs := by
  refine ⟨h.1, ?_⟩
  rcases h.2 with h | ⟨g, cap, cur, h1, h2, h3⟩
  · exact Or.inl h
  · exact Or.inr ⟨g, cap, cur, h1, Nat.le_trans hb h2, h3⟩
theorem bl_take (X : List ByteArray) (k : Nat) : bl (X.take k) = (bl X).take k := by simp [bl]
theorem bl_drop (X : List ByteArray) (k : Nat) : bl (X.drop k) = (bl X).drop k := by simp [bl]
theorem bl_get {X : List ByteArray} {j : Nat} (h : j < X.length) : (bl X)[j]'(by rw [bl_len]; exact h) = X[j].data.toList := by simp [bl]
/-- What is held of the texts up to k. -/
def Kept (L : List ByteArray) (k : Nat) (X : List ByteArray) : Prop := rises (bl X) ∧ ∀ t, t ∈ bl X ↔ t ∈ bl (L.take k) ∧ verErr t = 0
theorem kept_no {L : List ByteArray} {k : Nat} {X : List ByteArray} (hk : k < L.length) (h : Kept L k X) (hv : verErr L[k].data.toList ≠ 0) : Kept L (k + 1) X := by
  refine ⟨h.1, fun t => ?_⟩
  rw [h.2 t, bl_take_snoc L k hk, List.mem_append, List.mem_singleton]
  constructor
  · rintro ⟨a, b⟩; exact ⟨Or.inl a, b⟩
  · rintro ⟨a | a, b⟩
    · exact ⟨a, b⟩
    · rw [a] at b; exact absurd b hv
theorem kept_old {L : List ByteArray} {k : Nat} {X : List ByteArray} (hk : k < L.length) (h : Kept L k X) (hm : L[k].data.toList ∈ bl X) : Kept L (k + 1) X := by
  refine ⟨h.1, fun t => ?_⟩
  rw [bl_take_snoc L k hk, List.mem_append, List.mem_singleton]
  constructor
  · intro ht
    exact ⟨Or.inl ((h.2 t).1 ht).1, ((h.2 t).1 ht).2⟩
  · rintro ⟨a | a, b⟩
    · exact (h.2 t).2 ⟨a, b⟩
    · rw [a]; exact hm
theorem kept_new {L : List ByteArray} {k : Nat} {X : List ByteArray} (hk : k < L.length) (h : Kept L k X) (hv : verErr L[k].data.toList = 0) {j : Nat} (hj : j ≤ X.length) (hlt : ∀ t (ht : t < X.length), t < j → ordV X[t].data.toList L[k].data.toList < 0)
    (hge : ∀ (ht : j < X.length), ¬ ordV X[j].data.toList L[k].data.toList < 0 ∧ X[j].data.toList ≠ L[k].data.toList) : Kept L (k + 1) (X.take j ++ L[k] :: X.drop j) := by
  have e : bl (X.take j ++ L[k] :: X.drop j) = (bl X).take j ++ L[k].data.toList :: (bl X).drop j := by simp [bl]
  refine ⟨?_, fun t => ?_⟩
  · rw [e]
    refine rises_ins (by rw [List.take_append_drop]; exact h.1) ?_ ?_
    · intro a ha
      obtain ⟨i, hi, e2⟩ := List.mem_iff_getElem.1 ha
      rw [List.getElem_take] at e2
      simp [bl_len] at hi
      rw [bl_get (by omega)] at e2
      rw [← e2]; exact hlt i (by omega) (by omega)
    · intro b hb
      rw [List.head?_drop] at hb
      obtain ⟨hl, e2⟩ := List.getElem?_eq_some_iff.1 hb
      rw [bl_len] at hl
      rw [bl_get hl] at e2
      obtain ⟨h1, h2⟩ := hge hl
      rw [e2] at h1 h2
      have hbv : verErr b = 0 := ((h.2 b).1 (by rw [← e2]; exact bl_mem (List.getElem_mem hl))).2
      rw [ordV_swap b]
      rcases ordV_range b L[k].data.toList with r | r | r
      · omega
      · exact absurd ((ordV_zero hbv hv).1 r) h2
      · omega
  · rw [e, List.mem_append, List.mem_cons, bl_take_snoc L k hk, List.mem_append, List.mem_singleton]
    have hm := h.2 t
    rw [← List.take_append_drop j (bl X), List.mem_append] at hm
    constructor
    · rintro (a | a | a)
      · exact ⟨Or.inl (hm.1 (Or.inl a)).1, (hm.1 (Or.inl a)).2⟩
      · rw [a]; exact ⟨Or.inr rfl, hv⟩
      · exact ⟨Or.inl (hm.1 (Or.inr a)).1, (hm.1 (Or.inr a)).2⟩
    · rintro ⟨a | a, b⟩
      · rcases hm.2 ⟨a, b⟩ with c | c
        · exact Or.inl c
        · exact Or.inr (Or.inr c)
      · exact Or.inr (Or.inl a)
end Ve
end Go.Proofs.YtmbphngmaglgmaaGreatDoor

/-
  SortVers walked.
-/
namespace Go.Proofs.YtmbphngmaglgmaaGreatDoor
open Go.RowKit
namespace Ve

/-- The row of what is kept, and the texts that came in. -/
structure Sv (w0 W : World) (b0 o0 : Nat) (L X : List ByteArray) (v : Value) : Prop where
  own : W.ownsRow w0.heap.size 9 1 v X.length (X.map Value.string)
  nl : X = [] → v = .slice none 0 0
  bl : Below w0.heap.size w0 W
  ls : ∀ j (h : j < L.length), W.cell? ⟨b0, o0 + j, none⟩ = some (.string L[j])
theorem Sv.below {w0 W W' : World} {b0 o0 : Nat} {L X : List ByteArray} {v : Value} (h : Sv w0 W b0 o0 L X v) (hb : Below W.heap.size W W') : Sv w0 W' b0 o0 L X v :=
  ⟨owns_below h.own hb, h.nl, h.bl.trans (hb.mono h.bl.size), fun j hj => cell_below hb (h.ls j hj)⟩
theorem grown_below {W W' : World} (h : W.grownBy W' none) : Below W.heap.size W W' := ⟨h.os, h.tape, h.output, h.size, fun k hk => h.block k hk (by simp)⟩
theorem owned_cap {w : World} {base : Nat} {e : TypeId} {g n cap : Nat} {xs : List Value} (h : w.ownsRow base e 1 (.slice (some ⟨g, 0, none⟩) n cap) n xs) : n ≤ cap ∧ cap ≤ maxLen := by
  rcases h.2 with ⟨h, _⟩ | ⟨g', cap', cur, h1, _, _, h4, h5, _⟩
  · cases h
  · injection h1 with _ _ h1
    subst h1
    exact ⟨h4, h5⟩
theorem owned_at {w : World} {base : Nat} {e : TypeId} {g cap : Nat} {X : List ByteArray} (h : w.ownsRow base e 1 (.slice (some ⟨g, 0, none⟩) X.length cap) X.length (X.map Value.string)) : ∀ j (hj : j < X.length), w.cell? ⟨g, j, none⟩ = some (.string X[j]) := by
  intro j hj
  obtain ⟨g', cap', e1, _, _, h2⟩ := owned_cells h (by intro e; subst e; cases hj)
  injection e1 with e1 _ _
  injection e1 with e1
  injection e1 with e1 _ _
  rw [e1]; exact h2 j hj
theorem news_at {w : World} {g : Nat} {X : List ByteArray} (h : ∀ j (hj : j < X.length), w.cell? ⟨g, j, none⟩ = some (.string X[j])) (o m : Nat) : ∀ j u, (((X.drop o).take m).map Value.string)[j]? = some u → w.cell? ((⟨g, o, none⟩ : Addr).add j) = some u := by
  intro j u hj
  rw [List.getElem?_map, List.getElem?_take] at hj
  split at hj
  · rw [List.getElem?_drop] at hj
    cases e : X[o + j]? with
    | none => rw [e] at hj; simp at hj
    | some x =>
      rw [e] at hj
      obtain ⟨hl, e2⟩ := List.getElem?_eq_some_iff.1 e
      have := h (o + j) hl
      rw [e2] at this
      simp at hj
      rw [← hj]
      rw [Addr.add_lit]; exact this
  · simp at hj

set_option maxRecDepth 100000 in
set_option maxHeartbeats 8000000 in
theorem sortVers_some (b0 o0 cap : Nat) (L : List ByteArray) (w : World) (hL : ∀ j (h : j < L.length), w.cell? ⟨b0, o0 + j, none⟩ = some (.string L[j])) (h12 : L.length ≤ 1000) (hz : ∀ x, x ∈ L → x.size ≤ 80) :
    Calls Tryz.prog 99 #[.slice (some ⟨b0, o0, none⟩) L.length cap] w fun e w' => ∃ v X, e = .returned v ∧ w'.ownsRow w.heap.size 9 1 v X.length (X.map Value.string) ∧ Kept L L.length X ∧ Below w.heap.size w w' := by
  obtain ⟨i0, hi, hz0, hz1, hz2⟩ := info_parts infoStr
  have HL := hid hL
  have HZ := hid hz
  clear hL hz
  go_enter Tryz.func99, Tryz.ntmps99
  go_wp2_with fail
  go_loopw [3, 4] (fun v i wr => ∃ (k : Nat) (X : List ByteArray), k ≤ L.length ∧ X.length ≤ k ∧ i = .int .i64 k ∧ Hid (Kept L k X) ∧ Hid (Sv w wr b0 o0 L X v)) (fun _ i _ => L.length - (intOf i).toNat)
  case atStart => exact ⟨0, [], Nat.zero_le _, Nat.le_refl _, rfl, hid ⟨List.Pairwise.nil, fun t => by simp [bl]⟩, hid ⟨World.ownsRow_nil _ _ _ _, fun _ => rfl, Below.refl _ _, HL.out⟩⟩
  case round =>
    obtain ⟨k, X, hk, hXk, rfl, HK, HS⟩ := hrel
    by_cases hkL : k < L.length
    · have hcell := HS.out.ls k hkL
      have hq80 : L[k].size ≤ 80 := HZ.out _ (List.getElem_mem hkL)
      have HIV := hid (fun W => isVer_any L[k] W (by omega))
      have HKN := hid (fun h => kept_no hkL HK.out h)
      have HKO := hid (fun h => kept_old hkL HK.out h)
      have HKW := hid (fun h (j : Nat) hj h1 h2 => kept_new hkL HK.out h (j := j) hj h1 h2)
      have HLC := hid (fun (W : World) (v' : Value) (X' : List ByteArray) (h : Sv w W b0 o0 L X' v') => h.ls k hkL)
      have HX80 := hid (show ∀ x, x ∈ X → x.size < 999999 ∧ verErr x.data.toList = 0 from fun x hx => by
        have h1 := (HK.out.2 x.data.toList).1 (bl_mem hx)
        refine ⟨?_, h1.2⟩
        obtain ⟨y, hy, e⟩ := List.mem_map.1 h1.1
        have h2 := HZ.out y (List.mem_of_mem_take hy)
        have h3 := congrArg List.length e
        rw [len_eq, len_eq] at h3
        omega)
      generalize hq : L[k] = q at *
      clear hq
      have hkl : (k : Int) < (L.length : Int) := by omega
      have hk0 : (0 : Int) ≤ (k : Int) := by omega
      by_cases hv : verErr q.data.toList = 0
      · rw [decide_eq_true hv] at HIV
        have HV := hid hv
        clear hv
        go_wp2_with fail
        refine (HIV.out _).mono ?_
        rintro e w1 ⟨rfl, hb1⟩
        have HS1 := hid (HS.out.below hb1)
        clear hb1 hcell
        go_wp2_with fail
        go_loopw [6] (fun a wr2 => ∃ j : Nat, j ≤ X.length ∧ a = .int .i64 j ∧ Hid (∀ t (ht : t < X.length), t < j → ordV X[t].data.toList q.data.toList < 0) ∧ Hid (Sv w wr2 b0 o0 L X u3)) (fun a _ => X.length - (intOf a).toNat)
        case atStart => exact ⟨0, Nat.zero_le _, rfl, hid (fun t _ h => absurd h (Nat.not_lt_zero t)), HS1⟩
        case round =>
          obtain ⟨j, hj, rfl, HLT, HS2⟩ := hrel
          by_cases hX : X = []
          · subst hX
            obtain rfl := HS2.out.nl rfl
            obtain rfl : j = 0 := by simpa using hj
            go_wp2_with fail
            go_region
            have HSX := hid (HS2.out.below (below_drawn _ 1))
            have hc := HLC.out _ _ _ HS2.out
            have hwz := HS2.out.bl.size
            go_wp2_with (first
              | (at_builtin; refine wpList_append_own_none rfl _ _ 29 rfl 0 9 i0 1 Tryz.underlying29 hi _ _ _ rfl (World.ownsRow_nil _ _ _ _) rfl ?_)
              | (at_builtin; refine wpList_append_own _ rfl _ _ 29 rfl w.heap.size 9 i0 (.string ByteArray.empty) 1 16 Tryz.underlying29 hi hz0 hz1 hz2 rfl (by decide) _ _ _ rfl (World.ownsRow_nil _ _ _ _) ⟨wr.heap.size, 0, none⟩ 1 1 [.string q] rfl rfl ?c1 ?c2 ?c3 ?c4 ?c5 ?_))
            case c1 =>
              intro t u ht
              match t, ht with
              | 0, ht => simp at ht; subst ht; simp [Addr.add]
            case c2 => intro u hu; simp at hu; subst hu; rfl
            case c3 => unfold maxLen; omega
            case c4 => omega
            case c5 => simp; omega
            intro v1 W1 hown1 hgr1 _
            have HO1 := hid hown1
            have HB1 := hid (((Below.refl wr.heap.size wr).trans ((below_drawn wr 1).alloc (Nat.le_refl _) _)).grown hgr1 (by simp) (fun t ht => by cases ht))
            have HS3 := hid (HS2.out.below HB1.out)
            clear hown1 hgr1 hc
            go_wp2_with (at_builtin; refine wpList_append_own_none rfl _ _ 29 rfl _ 9 i0 1 Tryz.underlying29 hi _ _ _ rfl (HO1.out) rfl ?_)
            go_roundw
            case rel => exact ⟨k + 1, [q], by omega, by simp, by go_num, hid (by simpa using HKW.out HV.out 0 (Nat.zero_le _) (fun t ht => absurd ht (by simp)) (fun ht => absurd ht (by simp))), hid ⟨by simpa using HO1.out, (fun h => by cases h), HS3.out.bl, HS3.out.ls⟩⟩
            case measure => simp [intOf]; omega
          · obtain ⟨g, cp, rfl, hg, hgz, _⟩ := owned_cells HS2.out.own hX
            by_cases hjX : j < X.length
            · have HTW := hid (fun (W : World) (h : Sv w W b0 o0 L X (.slice (some ⟨g, 0, none⟩) X.length cp)) => And.intro (owned_at h.own j hjX) (And.intro (HLC.out _ _ _ h) (hid h)))
              have HXJ := hid (HX80.out X[j] (List.getElem_mem hjX))
              have HXM := hid (bl_mem (List.getElem_mem hjX))
              have hj0 : (0 : Int) ≤ (j : Int) := by omega
              have hjl : (j : Int) < (X.length : Int) := by omega
              by_cases ho : ordV X[j].data.toList q.data.toList < 0
              · have HL2 := hid (show ∀ t (ht : t < X.length), t < j + 1 → ordV X[t].data.toList q.data.toList < 0 from fun t ht hl => by
                  by_cases e : t = j
                  · subst e; exact ho
                  · exact HLT.out t ht (by omega))
                have HLT := hid True.intro
                generalize hxj : X[j] = xj at *
                clear hxj
                have HOV := hid (fun W => orderVer_any xj q W HXJ.out.1 (by omega) HXJ.out.2 HV.out)
                obtain ⟨x1, x2, _⟩ := HTW.out _ HS2.out
                generalize ordV xj.data.toList q.data.toList = od at HOV ho
                go_wp2_with fail
                go_region_held (fun W => W.cell? ⟨g, j, none⟩ = some (.string xj) ∧ W.cell? ⟨b0, o0 + k, none⟩ = some (.string q) ∧ Hid (Sv w W b0 o0 L X (.slice (some ⟨g, 0, none⟩) X.length cp))) (first | exact HTW.out _ HS3.out | exact HTW.out _ (HS2.out.below (below_drawn _ 1))) (first
                  | (go_at_call 21; refine (HOV.out _).mono ?_; rintro e w' ⟨rfl, hb⟩; have HS3 := hid ((HS2.out.below (below_drawn _ 1)).below hb); clear hb))
                all_goals
                  go_wp2_with fail
                  go_roundw
                  case rel => exact ⟨j + 1, by omega, by go_num, HL2, HS3⟩
                  case measure => simp [intOf]; omega
              · by_cases he : X[j] = q
                · have HK2 := hid (HKO.out (by rw [← he]; exact HXM.out))
                  subst he
                  generalize hxj : X[j] = xj at *
                  clear hxj
                  have HOV := hid (fun W => orderVer_any xj xj W HXJ.out.1 (by omega) HXJ.out.2 HV.out)
                  obtain ⟨x1, x2, _⟩ := HTW.out _ HS2.out
                  have hss : (xj.toList == xj.toList) = true := by simp
                  generalize ordV xj.data.toList xj.data.toList = od at HOV ho
                  go_wp2_with fail
                  go_region_held (fun W => W.cell? ⟨g, j, none⟩ = some (.string xj) ∧ W.cell? ⟨b0, o0 + k, none⟩ = some (.string xj) ∧ Hid (Sv w W b0 o0 L X (.slice (some ⟨g, 0, none⟩) X.length cp))) (first | exact HTW.out _ HS3.out | exact HTW.out _ (HS2.out.below (below_drawn _ 1))) (first
                    | (go_at_call 21; refine (HOV.out _).mono ?_; rintro e w' ⟨rfl, hb⟩; have HS3 := hid ((HS2.out.below (below_drawn _ 1)).below hb); clear hb))
                  all_goals
                    clear x1 x2
                    obtain ⟨x1, x2, _⟩ := HTW.out _ HS3.out
                    go_wp2_with fail
                    go_quiet (fail)
                    go_wp2_with fail
                    go_roundw
                    case rel => exact ⟨k + 1, X, by omega, by omega, by go_num, HK2, hid (HS3.out.below (below_drawn _ _))⟩
                    case measure => simp [intOf]; omega
                · have hss := str_ne he
                  have HKX := hid (HKW.out HV.out j hj HLT.out (fun _ => ⟨by omega, fun e => he (str_ext e)⟩))
                  clear he
                  generalize hxj : X[j] = xj at *
                  clear hxj
                  have HOV := hid (fun W => orderVer_any xj q W HXJ.out.1 (by omega) HXJ.out.2 HV.out)
                  obtain ⟨x1, x2, _⟩ := HTW.out _ HS2.out
                  generalize ordV xj.data.toList q.data.toList = od at HOV ho
                  go_wp2_with fail
                  go_region_held (fun W => W.cell? ⟨g, j, none⟩ = some (.string xj) ∧ W.cell? ⟨b0, o0 + k, none⟩ = some (.string q) ∧ Hid (Sv w W b0 o0 L X (.slice (some ⟨g, 0, none⟩) X.length cp))) (first | exact HTW.out _ HS3.out | exact HTW.out _ (HS2.out.below (below_drawn _ 1))) (first
                    | (go_at_call 21; refine (HOV.out _).mono ?_; rintro e w' ⟨rfl, hb⟩; have HS3 := hid ((HS2.out.below (below_drawn _ 1)).below hb); clear hb))
                  all_goals
                    clear x1 x2
                    obtain ⟨x1, x2, _⟩ := HTW.out _ HS3.out
                    go_wp2_with fail
                    go_quiet (fail)
                    have HSX := hid (HS3.out.below (below_drawn w' nq))
                    clear x1 x2
                    generalize w'.drewN nq = W at *
                    have hcl := owned_at HSX.out.own
                    have hc := HLC.out _ _ _ HSX.out
                    have hcap := owned_cap HSX.out.own
                    have hcp : cp ≤ 9223372036854775807 := hcap.2
                    have t1 : (0 : Int) ≤ (j : Int) := by omega
                    have t2 : (j : Int) ≤ (cp : Int) := by omega
                    have t3 : (j : Int) ≤ (X.length : Int) := by omega
                    have t4 : (X.length : Int) ≤ (cp : Int) := by omega
                    have HCL := hid hcl
                    clear hcl hcap
                    go_wp2_with (at_builtin; refine wpList_append_own _ rfl _ _ 29 rfl W.heap.size 9 i0 (.string ByteArray.empty) 1 16 Tryz.underlying29 hi hz0 hz1 hz2 rfl (by decide) _ _ _ rfl (World.ownsRow_nil _ _ _ _) ⟨g, 0, none⟩ j cp ((X.take j).map Value.string) rfl ?c0 ?c1 ?c2 ?c3 ?c4 ?c5 ?_)
                    case c0 => first | (simp; done) | (simp; omega)
                    case c1 => intro t u ht; exact news_at HCL.out 0 j t u (by simpa using ht)
                    case c2 => intro u hu; obtain ⟨x, _, rfl⟩ := List.mem_map.1 hu; rfl
                    case c3 => unfold maxLen; omega
                    case c4 => omega
                    case c5 => exact Nat.le_refl _
                    intro v1 W1 hown1 hgr1 _
                    have HO1 := hid hown1
                    have HB1 := hid (grown_below hgr1)
                    have HS4 := hid (HSX.out.below HB1.out)
                    have hc1 := HLC.out _ _ _ HS4.out
                    have hw1 := HB1.out.size
                    clear hown1 hgr1 hc
                    go_wp2_with (at_builtin; refine wpList_append_own _ rfl _ _ 29 rfl W.heap.size 9 i0 (.string ByteArray.empty) 1 16 Tryz.underlying29 hi hz0 hz1 hz2 rfl (by decide) _ _ _ rfl (HO1.out.alloc _) ⟨W1.heap.size, 0, none⟩ 1 1 [.string q] rfl rfl ?c1 ?c2 ?c3 ?c4 ?c5 ?_)
                    case c1 =>
                      intro t u ht
                      match t, ht with
                      | 0, ht => simp at ht; subst ht; simp [Addr.add]
                    case c2 => intro u hu; simp at hu; subst hu; rfl
                    case c3 => unfold maxLen; omega
                    case c4 => omega
                    case c5 => simp; omega
                    intro v2 W2 hown2 hgr2 _
                    have HO2 := hid hown2
                    have HB2 := hid (rel_app HB1.out.size HB1.out HO1.out (Below.refl _ _) hgr2)
                    have HS5 := hid (HSX.out.below HB2.out)
                    have HCL2 := hid (owned_at HS5.out.own)
                    have hw2 := HB2.out.size
                    clear hown2 hgr2 hc1
                    go_wp2_with (at_builtin; refine wpList_append_own _ rfl _ _ 29 rfl W.heap.size 9 i0 (.string ByteArray.empty) 1 16 Tryz.underlying29 hi hz0 hz1 hz2 rfl (by decide) _ _ _ rfl HO2.out ⟨g, j, none⟩ (X.length - j) (cp - j) ((X.drop j).map Value.string) rfl ?c0 ?c1 ?c2 ?c3 ?c4 ?c5 ?_)
                    case c0 => simp
                    case c1 => intro t u ht; exact news_at HCL2.out j (X.length - j) t u (by rw [List.take_of_length_le (by simp)]; exact ht)
                    case c2 => intro u hu; obtain ⟨x, _, rfl⟩ := List.mem_map.1 hu; rfl
                    case c3 => unfold maxLen; omega
                    case c4 => omega
                    case c5 => exact hw2
                    intro v3 W3 hown3 hgr3 _
                    have HB3 := hid (HB2.out.grown hgr3 hw2 (fun t ht => (HO2.out.lt t ht).1))
                    have HS6 := hid (HSX.out.below HB3.out)
                    have HO3 := hid (show W3.ownsRow w.heap.size 9 1 v3 (X.take j ++ q :: X.drop j).length ((X.take j ++ q :: X.drop j).map Value.string) by
                      have h := owns_mono hown3 (HSX.out.bl.size)
                      have e1 : (X.take j ++ q :: X.drop j).length = j + 1 + (X.length - j) := by simp; omega
                      rw [e1]
                      simpa using h)
                    clear hown3 hgr3
                    go_wp2_with fail
                    go_roundw
                    case rel => exact ⟨k + 1, X.take j ++ q :: X.drop j, by omega, by simp; omega, by go_num, HKX, hid ⟨HO3.out, (fun h => by simp at h), HS6.out.bl, HS6.out.ls⟩⟩
                    case measure => simp [intOf]; omega
            · obtain rfl : j = X.length := by omega
              have HKX := hid (HKW.out HV.out X.length hj HLT.out (fun h => absurd h hjX))
              go_wp2_with fail
              go_region
              have HSX := hid (show Sv w wr.drew b0 o0 L X (.slice (some ⟨g, 0, none⟩) X.length cp) from HS2.out.below (below_drawn wr 1))
              generalize wr.drew = W at *
              have hcap0 := owned_cap HSX.out.own
              by_cases hcx : cp = X.length
              · subst hcx
                have hcl := owned_at HSX.out.own
                have hc := HLC.out _ _ _ HSX.out
                have hcap := owned_cap HSX.out.own
                have hcp : X.length ≤ 9223372036854775807 := hcap.2
                have t1 : (0 : Int) ≤ (X.length : Int) := by omega
                have t2 : (X.length : Int) ≤ (X.length : Int) := by omega
                have t3 : (X.length : Int) ≤ (X.length : Int) := by omega
                have t4 : (X.length : Int) ≤ (X.length : Int) := by omega
                have HCL := hid hcl
                clear hcl hcap
                go_wp2_with (at_builtin; refine wpList_append_own _ rfl _ _ 29 rfl W.heap.size 9 i0 (.string ByteArray.empty) 1 16 Tryz.underlying29 hi hz0 hz1 hz2 rfl (by decide) _ _ _ rfl (World.ownsRow_nil _ _ _ _) ⟨g, 0, none⟩ (X.length) X.length ((X.take (X.length)).map Value.string) rfl ?c0 ?c1 ?c2 ?c3 ?c4 ?c5 ?_)
                case c0 => first | (simp; done) | (simp; omega)
                case c1 => intro t u ht; exact news_at HCL.out 0 (X.length) t u (by simpa using ht)
                case c2 => intro u hu; obtain ⟨x, _, rfl⟩ := List.mem_map.1 hu; rfl
                case c3 => unfold maxLen; omega
                case c4 => omega
                case c5 => exact Nat.le_refl _
                intro v1 W1 hown1 hgr1 _
                have HO1 := hid hown1
                have HB1 := hid (grown_below hgr1)
                have HS4 := hid (HSX.out.below HB1.out)
                have hc1 := HLC.out _ _ _ HS4.out
                have hw1 := HB1.out.size
                clear hown1 hgr1 hc
                go_wp2_with (at_builtin; refine wpList_append_own _ rfl _ _ 29 rfl W.heap.size 9 i0 (.string ByteArray.empty) 1 16 Tryz.underlying29 hi hz0 hz1 hz2 rfl (by decide) _ _ _ rfl (HO1.out.alloc _) ⟨W1.heap.size, 0, none⟩ 1 1 [.string q] rfl rfl ?c1 ?c2 ?c3 ?c4 ?c5 ?_)
                case c1 =>
                  intro t u ht
                  match t, ht with
                  | 0, ht => simp at ht; subst ht; simp [Addr.add]
                case c2 => intro u hu; simp at hu; subst hu; rfl
                case c3 => unfold maxLen; omega
                case c4 => omega
                case c5 => simp; omega
                intro v2 W2 hown2 hgr2 _
                have HO2 := hid hown2
                have HB2 := hid (rel_app HB1.out.size HB1.out HO1.out (Below.refl _ _) hgr2)
                have HS5 := hid (HSX.out.below HB2.out)
                have HCL2 := hid (owned_at HS5.out.own)
                have hw2 := HB2.out.size
                clear hown2 hgr2 hc1
                go_wp2_with (at_builtin; refine wpList_append_own _ rfl _ _ 29 rfl W.heap.size 9 i0 (.string ByteArray.empty) 1 16 Tryz.underlying29 hi hz0 hz1 hz2 rfl (by decide) _ _ _ rfl HO2.out _ _ _ [] rfl ?c0 ?c1 ?c2 ?c3 ?c4 ?c5 ?_)
                case c0 => simp
                case c1 => intro t u ht; simp at ht
                case c2 => intro u hu; cases hu
                case c3 => unfold maxLen; omega
                case c4 => omega
                case c5 => exact hw2
                intro v3 W3 hown3 hgr3 _
                have HB3 := hid (HB2.out.grown hgr3 hw2 (fun t ht => (HO2.out.lt t ht).1))
                have HS6 := hid (HSX.out.below HB3.out)
                have HO3 := hid (show W3.ownsRow w.heap.size 9 1 v3 (X.take (X.length) ++ q :: X.drop (X.length)).length ((X.take (X.length) ++ q :: X.drop (X.length)).map Value.string) by
                  have h := owns_mono hown3 (HSX.out.bl.size)
                  have e1 : (X.take (X.length) ++ q :: X.drop (X.length)).length = X.length + 1 := by simp
                  rw [e1]
                  simpa using h)
                clear hown3 hgr3
                go_wp2_with fail
                go_roundw
                case rel => exact ⟨k + 1, X.take (X.length) ++ q :: X.drop (X.length), by omega, by simp; omega, by go_num, HKX, hid ⟨HO3.out, (fun h => by simp at h), HS6.out.bl, HS6.out.ls⟩⟩
                case measure => simp [intOf]; omega
              · have hcx1 : X.length < cp := by omega
                have hcx2 : (X.length : Int) < (cp : Int) := by omega
                have hcl := owned_at HSX.out.own
                have hc := HLC.out _ _ _ HSX.out
                have hcap := owned_cap HSX.out.own
                have hcp : cp ≤ 9223372036854775807 := hcap.2
                have t1 : (0 : Int) ≤ (X.length : Int) := by omega
                have t2 : (X.length : Int) ≤ (cp : Int) := by omega
                have t3 : (X.length : Int) ≤ (X.length : Int) := by omega
                have t4 : (X.length : Int) ≤ (cp : Int) := by omega
                have HCL := hid hcl
                clear hcl hcap
                go_wp2_with (at_builtin; refine wpList_append_own _ rfl _ _ 29 rfl W.heap.size 9 i0 (.string ByteArray.empty) 1 16 Tryz.underlying29 hi hz0 hz1 hz2 rfl (by decide) _ _ _ rfl (World.ownsRow_nil _ _ _ _) ⟨g, 0, none⟩ (X.length) cp ((X.take (X.length)).map Value.string) rfl ?c0 ?c1 ?c2 ?c3 ?c4 ?c5 ?_)
                case c0 => first | (simp; done) | (simp; omega)
                case c1 => intro t u ht; exact news_at HCL.out 0 (X.length) t u (by simpa using ht)
                case c2 => intro u hu; obtain ⟨x, _, rfl⟩ := List.mem_map.1 hu; rfl
                case c3 => unfold maxLen; omega
                case c4 => omega
                case c5 => exact Nat.le_refl _
                intro v1 W1 hown1 hgr1 _
                have HO1 := hid hown1
                have HB1 := hid (grown_below hgr1)
                have HS4 := hid (HSX.out.below HB1.out)
                have hc1 := HLC.out _ _ _ HS4.out
                have hw1 := HB1.out.size
                clear hown1 hgr1 hc
                go_wp2_with (at_builtin; refine wpList_append_own _ rfl _ _ 29 rfl W.heap.size 9 i0 (.string ByteArray.empty) 1 16 Tryz.underlying29 hi hz0 hz1 hz2 rfl (by decide) _ _ _ rfl (HO1.out.alloc _) ⟨W1.heap.size, 0, none⟩ 1 1 [.string q] rfl rfl ?c1 ?c2 ?c3 ?c4 ?c5 ?_)
                case c1 =>
                  intro t u ht
                  match t, ht with
                  | 0, ht => simp at ht; subst ht; simp [Addr.add]
                case c2 => intro u hu; simp at hu; subst hu; rfl
                case c3 => unfold maxLen; omega
                case c4 => omega
                case c5 => simp; omega
                intro v2 W2 hown2 hgr2 _
                have HO2 := hid hown2
                have HB2 := hid (rel_app HB1.out.size HB1.out HO1.out (Below.refl _ _) hgr2)
                have HS5 := hid (HSX.out.below HB2.out)
                have HCL2 := hid (owned_at HS5.out.own)
                have hw2 := HB2.out.size
                clear hown2 hgr2 hc1
                go_wp2_with (at_builtin; refine wpList_append_own _ rfl _ _ 29 rfl W.heap.size 9 i0 (.string ByteArray.empty) 1 16 Tryz.underlying29 hi hz0 hz1 hz2 rfl (by decide) _ _ _ rfl HO2.out _ _ _ [] rfl ?c0 ?c1 ?c2 ?c3 ?c4 ?c5 ?_)
                case c0 => simp
                case c1 => intro t u ht; simp at ht
                case c2 => intro u hu; cases hu
                case c3 => unfold maxLen; omega
                case c4 => omega
                case c5 => exact hw2
                intro v3 W3 hown3 hgr3 _
                have HB3 := hid (HB2.out.grown hgr3 hw2 (fun t ht => (HO2.out.lt t ht).1))
                have HS6 := hid (HSX.out.below HB3.out)
                have HO3 := hid (show W3.ownsRow w.heap.size 9 1 v3 (X.take (X.length) ++ q :: X.drop (X.length)).length ((X.take (X.length) ++ q :: X.drop (X.length)).map Value.string) by
                  have h := owns_mono hown3 (HSX.out.bl.size)
                  have e1 : (X.take (X.length) ++ q :: X.drop (X.length)).length = X.length + 1 := by simp
                  rw [e1]
                  simpa using h)
                clear hown3 hgr3
                go_wp2_with fail
                go_roundw
                case rel => exact ⟨k + 1, X.take (X.length) ++ q :: X.drop (X.length), by omega, by simp; omega, by go_num, HKX, hid ⟨HO3.out, (fun h => by simp at h), HS6.out.bl, HS6.out.ls⟩⟩
                case measure => simp [intOf]; omega
      · rw [decide_eq_false hv] at HIV
        have HK2 := hid (HKN.out hv)
        clear hv
        go_wp2_with fail
        refine (HIV.out _).mono ?_
        rintro e w1 ⟨rfl, hb1⟩
        have HS1 := hid (HS.out.below hb1)
        clear hb1 hcell
        go_wp2_with fail
        go_roundw
        case rel => exact ⟨k + 1, X, by omega, by omega, by go_num, HK2, HS1⟩
        case measure => simp [intOf]; omega
    · have hke : k = L.length := by omega
      subst hke
      go_wp2_with fail
      go_ret
      exact ⟨_, X, rfl, HS.out.own, HK.out, HS.out.bl⟩
end Ve
end Go.Proofs.YtmbphngmaglgmaaGreatDoor

/-
  What == and != say of two modules.
-/
namespace Go.Proofs.YtmbphngmaglgmaaGreatDoor
open Go.RowKit
namespace Ve

theorem modSame (p v q u : ByteArray) (w : World) : (Op.equalIn 10000 53 (.agg #[.string p, .string v]) (.agg #[.string q, .string u])).run Tryz.prog w = .ok (decide (p = q ∧ v = u)) w := by
  have u3 := Tryz.underlying9
  have a3 := Tryz.isAgg9
  have z3 := Tryz.sizeOf9
  have hS : Tryz.prog.underlying 53 = some (.struct (Tryz.prog.fieldsOf 53)) := by kernel_rfl
  have hp : Tryz.prog.stoodInHeld 53 = false := by kernel_rfl
  rw [show (10000 : Nat) = 9999 + 1 from rfl, run_equalIn_agg w 9999 53 _ _ hS hp]
  simp only [Program.fieldsOf, Tryz.underlying53]
  by_cases h1 : p = q
  · subst h1
    by_cases h2 : v = u
    · subst h2
      have e1 := str_refl p
      have e2 := str_refl v
      go_simp
    · have e1 := str_refl p
      have e2 := str_ne h2
      go_simp
  · have e1 := str_ne h1
    go_simp
theorem modEql (p v q u : ByteArray) (w : World) : (binOp .eql 53 (.agg #[.string p, .string v]) (.agg #[.string q, .string u])).run Tryz.prog w = .ok (.bool (decide (p = q ∧ v = u))) w := by
  rw [run_eql_struct, modSame]; rfl
theorem modNeq (p v q u : ByteArray) (w : World) : (binOp .neq 53 (.agg #[.string p, .string v]) (.agg #[.string q, .string u])).run Tryz.prog w = .ok (.bool (!decide (p = q ∧ v = u))) w := by
  rw [run_neq_struct, modSame]; rfl
theorem modGuard : Tryz.prog.eqGuardType Tryz.prog.depth 53 = false := by kernel_rfl
end Ve
end Go.Proofs.YtmbphngmaglgmaaGreatDoor

/-
  Entries of an index in memory, five cells each; what index.Find answers: the first place of a module; nothing old in memory turns.
-/
namespace Go.Proofs.YtmbphngmaglgmaaGreatDoor
open Go.RowKit
namespace Ve

/-- An entry as its cells have it: the module, two slices, whether it is taken back. -/
abbrev Raw := Bm × Value × Value × Bool
def rawV (r : Raw) : Value := .agg #[.string r.1.1, .string r.1.2, r.2.1, r.2.2.1, .bool r.2.2.2]
/-- The two are slices. -/
def slR (r : Raw) : Prop := (∃ a n c, r.2.1 = .slice a n c) ∧ ∃ a n c, r.2.2.1 = .slice a n c
/-- Entries lie in a slice. -/
def EsAt (w : World) (v : Value) (L : List Raw) : Prop :=
  ∃ (a : Option Addr) (c : Nat), v = .slice a L.length c ∧ L.length ≤ c ∧ (∀ r, r ∈ L → slR r) ∧ (L ≠ [] → ∃ b o, a = some ⟨b, o, none⟩ ∧ ∀ j (h : j < L.length), w.cell? ⟨b, o + j * 5, none⟩ = some (.string L[j].1.1) ∧ w.cell? ⟨b, o + j * 5 + 1, none⟩ = some (.string L[j].1.2) ∧
    w.cell? ⟨b, o + j * 5 + 2, none⟩ = some L[j].2.1 ∧ w.cell? ⟨b, o + j * 5 + 3, none⟩ = some L[j].2.2.1 ∧ w.cell? ⟨b, o + j * 5 + 4, none⟩ = some (.bool L[j].2.2.2))
theorem EsAt.below {w w' : World} {v : Value} {L : List Raw} (h : EsAt w v L) (hb : Below w.heap.size w w') : EsAt w' v L := by
  obtain ⟨a, c, e, hc, hs, h⟩ := h
  refine ⟨a, c, e, hc, hs, fun hL => ?_⟩
  obtain ⟨b, o, e2, h2⟩ := h hL
  exact ⟨b, o, e2, fun j hj => ⟨cell_below hb (h2 j hj).1, cell_below hb (h2 j hj).2.1, cell_below hb (h2 j hj).2.2.1, cell_below hb (h2 j hj).2.2.2.1, cell_below hb (h2 j hj).2.2.2.2⟩⟩
/-- The first place where a test holds, or -1. -/
def idxE (P : Raw → Bool) (L : List Raw) (i : Nat) : Nat := match L[i]? with
  | some r => if P r then 1 else 0
  | none => 0
def idxOf (P : Raw → Bool) (L : List Raw) : Int := match fstE (idxE P L) L.length with
  | some k => (k : Int)
  | none => -1
theorem idxE_at {P : Raw → Bool} {L : List Raw} {i : Nat} (h : i < L.length) : idxE P L i = if P L[i] then 1 else 0 := by unfold idxE; rw [List.getElem?_eq_getElem h]
theorem idxE_zero {P : Raw → Bool} {L : List Raw} {n : Nat} (hn : n ≤ L.length) (h : ∀ j (hj : j < L.length), j < n → P L[j] = false) : ∀ j, j < n → idxE P L j = 0 := fun j hj => by
  rw [idxE_at (by omega), h j (by omega) hj]; rfl

theorem idx_hit {P : Raw → Bool} {L : List Raw} {k : Nat} (hk : k < L.length) (h0 : ∀ j (hj : j < L.length), j < k → P L[j] = false) (h : P L[k] = true) : idxOf P L = (k : Int) := by
  unfold idxOf
  rw [fstE_some (idxE_zero (by omega) h0) (by rw [idxE_at hk, if_pos h]; decide) hk]
theorem idx_next {P : Raw → Bool} {L : List Raw} {k : Nat} (hk : k < L.length) (h0 : ∀ j (hj : j < L.length), j < k → P L[j] = false) (h : P L[k] = false) : ∀ j (hj : j < L.length), j < k + 1 → P L[j] = false := fun j hj hjk => by
  rcases Nat.lt_or_ge j k with h1 | h1
  · exact h0 j hj h1
  · have : j = k := by omega
    subst this; exact h
set_option maxHeartbeats 2000000 in
set_option maxRecDepth 100000 in
theorem idxF_some (K : Nat) (cb : Array Value) (P : Raw → Bool) (L : List Raw) (b o c : Nat) (w : World) (eg : ∀ args w, (callFunc K args).run Tryz.prog w = .ok (.enter K args) w) (hL : L.length ≤ 1000000) (hs : ∀ r, r ∈ L → slR r)
    (hc : ∀ j (h : j < L.length), w.cell? ⟨b, o + j * 5, none⟩ = some (.string L[j].1.1) ∧ w.cell? ⟨b, o + j * 5 + 1, none⟩ = some (.string L[j].1.2) ∧ w.cell? ⟨b, o + j * 5 + 2, none⟩ = some L[j].2.1 ∧ w.cell? ⟨b, o + j * 5 + 3, none⟩ = some L[j].2.2.1 ∧ w.cell? ⟨b, o + j * 5 + 4, none⟩ = some (.bool L[j].2.2.2))
    (hK : ∀ i (h : i < L.length) W, Below w.heap.size w W → Calls Tryz.prog K (#[rawV L[i]] ++ cb) W fun e w' => e = .returned (.bool (P L[i])) ∧ Below W.heap.size W w') :
    Calls Tryz.prog 114 #[.slice (some ⟨b, o, none⟩) L.length c, .func (.func K) #[] cb] w fun e w' => e = .returned (.int .i64 (idxOf P L)) ∧ Below w.heap.size w w' := by
  have HK := hid hK
  have HC := hid hc
  have HSL := hid hs
  generalize hr : idxOf P L = r
  have HR := hid hr
  clear hK hc hr hs
  go_enter Tryz.func114, Tryz.ntmps114
  go_wp2_with fail
  go_loopw [8] (fun i wr => ∃ k : Nat, k ≤ L.length ∧ i = .int .i64 k ∧ Hid (∀ j (h : j < L.length), j < k → P L[j] = false) ∧ Hid (Below w.heap.size w wr)) (fun i _ => L.length - (intOf i).toNat)
  case atStart => exact ⟨0, Nat.zero_le _, rfl, hid (fun j _ hj => absurd hj (by omega)), hid (Below.refl _ _)⟩
  case round =>
    obtain ⟨k, hk, rfl, HA, HB⟩ := hrel
    by_cases hlt : k < L.length
    · have HP := hid (HK.out k hlt wr HB.out)
      obtain ⟨y0, y1, y2, y3, y4⟩ := HC.out k hlt
      have x0 := cell_below HB.out y0
      have x1 := cell_below HB.out y1
      have x2 := cell_below HB.out y2
      have x3 := cell_below HB.out y3
      have x4 := cell_below HB.out y4
      obtain ⟨⟨ra, rn, rc, hrv⟩, pa, pn, pc, hpv⟩ := HSL.out L[k] (List.getElem_mem hlt)
      have hkI : (k : Int) < (L.length : Int) := by omega
      have HLT := hid hlt
      have HF := hid (fun h => idx_hit hlt HA.out h)
      have HN := hid (fun h => idx_next hlt HA.out h)
      rw [hrv] at x2
      rw [hpv] at x3
      unfold rawV at HP
      rw [hrv, hpv] at HP
      clear y0 y1 y2 y3 y4
      generalize hx : L[k] = x at *
      cases hp : P x
      · rw [hp] at HP
        have HN2 := hid (HN.out hp)
        clear hp hx hrv hpv hlt
        go_wp2_with fail
        refine HP.out.mono ?_
        rintro e w1 ⟨rfl, hb⟩
        have HB1 := hid (HB.out.trans (hb.mono HB.out.size))
        clear hb
        go_wp2_with fail
        go_roundw
        case rel => exact ⟨k + 1, by have := HLT.out; omega, by go_num, HN2, HB1⟩
        case measure => have := HLT.out; simp [intOf]; omega
      · rw [hp] at HP
        have HF2 := hid (HF.out hp)
        clear hp hx hrv hpv hlt
        go_wp2_with fail
        refine HP.out.mono ?_
        rintro e w1 ⟨rfl, hb⟩
        have HB1 := hid (HB.out.trans (hb.mono HB.out.size))
        clear hb
        go_wp2_with fail
        go_ret
        exact ⟨by rw [← HR.out, HF2.out]; rfl, HB1.out⟩
    · have HF := hid (show idxOf P L = -1 by unfold idxOf; rw [fstE_none (idxE_zero (Nat.le_refl _) (fun j hj _ => HA.out j hj (by omega)))])
      go_wp2_with fail
      go_ret
      exact ⟨by rw [← HR.out, HF.out]; rfl, HB.out⟩
theorem idxF_none (K : Nat) (cb : Array Value) (a : Option Addr) (c : Nat) (w : World) :
    Calls Tryz.prog 114 #[.slice a 0 c, .func (.func K) #[] cb] w fun e w' => e = .returned (.int .i64 (-1)) ∧ Below w.heap.size w w' := by
  go_enter Tryz.func114, Tryz.ntmps114
  go_wp2_with fail
  go_loopw [8] (fun i wr => i = .int .i64 0 ∧ wr = w) (fun i _ => 0)
  case atStart => exact ⟨rfl, rfl⟩
  case round =>
    obtain ⟨rfl, rfl⟩ := hrel
    go_wp2_with fail
    go_ret
    exact ⟨rfl, Below.refl _ _⟩
theorem idxF_any (K : Nat) (cb : Array Value) (P : Raw → Bool) (L : List Raw) (v : Value) (w : World) (eg : ∀ args w, (callFunc K args).run Tryz.prog w = .ok (.enter K args) w) (hL : L.length ≤ 1000000) (hv : EsAt w v L)
    (hK : ∀ i (h : i < L.length) W, Below w.heap.size w W → Calls Tryz.prog K (#[rawV L[i]] ++ cb) W fun e w' => e = .returned (.bool (P L[i])) ∧ Below W.heap.size W w') :
    Calls Tryz.prog 114 #[v, .func (.func K) #[] cb] w fun e w' => e = .returned (.int .i64 (idxOf P L)) ∧ Below w.heap.size w w' := by
  obtain ⟨a, c, rfl, _, hs, h⟩ := hv
  cases L with
  | nil => exact idxF_none K cb a c w
  | cons x r =>
    obtain ⟨b, o, rfl, h2⟩ := h (by simp)
    exact idxF_some K cb P (x :: r) b o c w eg hL hs h2 hK
/-- Is an entry's module this one? -/
def isM (m : Bm) (r : Raw) : Bool := decide (r.1.1 = m.1 ∧ r.1.2 = m.2)
set_option maxHeartbeats 1000000 in
theorem findK_any (m : Bm) (r : Raw) (hs : slR r) (b : Nat) (W : World) (h0 : W.cell? ⟨b, 0, none⟩ = some (.string m.1)) (h1 : W.cell? ⟨b, 1, none⟩ = some (.string m.2)) :
    Calls Tryz.prog 115 (#[rawV r] ++ #[.pointer (some ⟨b, 0, none⟩)]) W fun e w' => e = .returned (.bool (isM m r)) ∧ Below W.heap.size W w' := by
  obtain ⟨⟨p, v⟩, rv, pv, bk⟩ := r
  obtain ⟨⟨ra, rn, rc, rfl⟩, pa, pn, pc, rfl⟩ := hs
  have heq := fun W => modEql p v m.1 m.2 W
  have hgd := modGuard
  show Calls Tryz.prog 115 #[.agg #[.string p, .string v, .slice ra rn rc, .slice pa pn pc, .bool bk], .pointer (some ⟨b, 0, none⟩)] W _
  unfold isM
  have HB0 := hid ((Below.refl W.heap.size W).alloc (Nat.le_refl _) (.cells #[.string p, .string v, .slice ra rn rc, .slice pa pn pc, .bool bk] 56))
  have c0 := cell_below HB0.out h0
  have c1 := cell_below HB0.out h1
  have hbb : ¬ b = W.heap.size := by have := lt_of_cell h0; simp at this; omega
  have hbb2 : ¬ W.heap.size = b := fun h => hbb h.symm
  generalize decide (p = m.1 ∧ v = m.2) = z at *
  go_enter Tryz.func115, Tryz.ntmps115
  go_wp2_with fail
  go_ret
  exact ⟨rfl, HB0.out⟩
set_option maxHeartbeats 1000000 in
/-- index.Find. -/
theorem find_any (L : List Raw) (m : Bm) (v : Value) (w : World) (hL : L.length ≤ 1000000) (hv : EsAt w v L) :
    Calls Tryz.prog 67 #[v, .agg #[.string m.1, .string m.2]] w fun e w' => e = .returned (.int .i64 (idxOf (isM m) L)) ∧ Below w.heap.size w w' := by
  obtain ⟨a, c, hv1, _, hs, _⟩ := id hv
  have HB0 := hid ((Below.refl w.heap.size w).alloc (Nat.le_refl _) (.cells #[.string m.1, .string m.2] 53))
  have eg : ∀ args w, (callFunc 115 args).run Tryz.prog w = .ok (.enter 115 args) w := enters_of Tryz.func115 (by kernel_rfl) rfl
  have HF := hid (idxF_any 115 #[.pointer (some ⟨w.heap.size, 0, none⟩)] (isM m) L v (w.alloc (.cells #[.string m.1, .string m.2] 53)) eg hL (hv.below HB0.out) (fun i hi W hW =>
    findK_any m L[i] (hs L[i] (List.getElem_mem hi)) w.heap.size W (cell_below hW (by simp)) (cell_below hW (by simp))))
  subst hv1
  clear hv hs eg
  go_enter Tryz.func67, Tryz.ntmps67
  go_wp2_with fail
  refine HF.out.mono ?_
  rintro e w1 ⟨rfl, hb⟩
  have HB := hid (HB0.out.trans (hb.mono HB0.out.size))
  clear hb
  go_wp2_with fail
  go_ret
  exact ⟨rfl, HB.out⟩
end Ve
end Go.Proofs.YtmbphngmaglgmaaGreatDoor

/-
  What index.where answers: the entries for which a function holds, in a row of its own; nothing old in memory turns.
-/
namespace Go.Proofs.YtmbphngmaglgmaaGreatDoor
open Go.RowKit
namespace Ve

theorem infoEnt : (Tryz.prog.info? 56).map (fun i => (i.zero, i.size, i.bytes)) = some (some (.agg #[.string ⟨#[]⟩, .string ⟨#[]⟩, .slice none 0 0, .slice none 0 0, .bool false]), 5, 88) := by kernel_rfl
def rowR (r : Raw) : List Value := [.string r.1.1, .string r.1.2, r.2.1, r.2.2.1, .bool r.2.2.2]
def flatR (L : List Raw) : List Value := L.flatMap rowR
theorem flatR_len (L : List Raw) : (flatR L).length = L.length * 5 := by
  induction L with
  | nil => rfl
  | cons r R ih =>
    have : flatR (r :: R) = rowR r ++ flatR R := rfl
    rw [this, List.length_append, ih]
    show 5 + R.length * 5 = (R.length + 1) * 5
    omega
theorem flatR_app (D E : List Raw) : flatR (D ++ E) = flatR D ++ flatR E := by simp [flatR]
theorem flatR_get : ∀ (D : List Raw) (j c : Nat) (hj : j < D.length) (_ : c < 5), (flatR D)[j * 5 + c]? = (rowR D[j])[c]?
  | [], _, _, hj, _ => absurd hj (Nat.not_lt_zero _)
  | r :: R, 0, c, _, hc => by
    have : flatR (r :: R) = rowR r ++ flatR R := rfl
    rw [this, List.getElem?_append_left (by show 0 * 5 + c < 5; omega)]
    simp
  | r :: R, j + 1, c, hj, hc => by
    have : flatR (r :: R) = rowR r ++ flatR R := rfl
    rw [this, List.getElem?_append_right (by show 5 ≤ (j + 1) * 5 + c; omega), show (j + 1) * 5 + c - (rowR r).length = j * 5 + c by show (j + 1) * 5 + c - 5 = _; omega]
    exact flatR_get R j c (by simpa using hj) hc
theorem own_es {w : World} {base : Nat} {e : TypeId} {v : Value} {L : List Raw} (hs : ∀ r, r ∈ L → slR r) (h : w.ownsRow base e 5 v L.length (flatR L)) : EsAt w v L := by
  obtain ⟨_, ⟨hv, hn0⟩ | ⟨g, cap, cur, hv, hg, hblk, hcap, hcm, hcs, hct⟩⟩ := h
  · exact ⟨none, 0, by rw [hv, hn0], by omega, hs, fun hL => absurd (List.length_eq_zero_iff.1 hn0) hL⟩
  · refine ⟨_, cap, hv, hcap, hs, fun _ => ⟨g, 0, rfl, fun j hj => ?_⟩⟩
    have go : ∀ c, c < 5 → w.cell? ⟨g, 0 + j * 5 + c, none⟩ = (rowR L[j])[c]? := fun c hc => by
      have h1 := flatR_get L j c hj hc
      rw [← hct, List.getElem?_take, if_pos (by omega)] at h1
      simp only [World.cell?, hblk]
      rw [← h1]; simp
    exact ⟨by have := go 0 (by omega); simpa [rowR] using this, by have := go 1 (by omega); simpa [rowR] using this, by have := go 2 (by omega); simpa [rowR] using this, by have := go 3 (by omega); simpa [rowR] using this, by have := go 4 (by omega); simpa [rowR] using this⟩
theorem own_nextR {W : World} {B : Nat} {e : TypeId} {v : Value} {L L' : List Raw} {x : Raw} (h : W.ownsRow B e 5 v (L.length + 1) (flatR L ++ rowR x)) (hl : L' = L ++ [x]) : W.ownsRow B e 5 v L'.length (flatR L') := by
  subst hl
  rw [List.length_append, flatR_app]
  have : flatR [x] = rowR x := by simp [flatR]
  rw [this]; exact h
theorem rel_app5 {B : Nat} {w wr w2 w3 : World} {e : TypeId} {v : Value} {n : Nat} {xs : List Value} {o : Obj} (hB : B ≤ wr.heap.size) (hb : Below B w wr) (hown : wr.ownsRow B e 5 v n xs) (hb2 : Below wr.heap.size wr w2)
    (hg : (w2.alloc o).grownBy w3 v.ownBlock) : Below B w w3 := by
  have h2 : Below B w w2 := hb.trans (hb2.mono hB)
  have h3 : Below B w (w2.alloc o) := h2.alloc (Nat.le_trans hB hb2.size) o
  exact h3.grown hg (by simp; exact Nat.le_succ_of_le (Nat.le_trans hB hb2.size)) (fun k hk => (hown.lt k hk).1)
theorem filter_snoc (P : Raw → Bool) {L : List Raw} {k : Nat} (hk : k < L.length) : (L.take (k + 1)).filter P = (L.take k).filter P ++ (if P L[k] then [L[k]] else []) := by
  rw [List.take_succ_eq_append_getElem hk, List.filter_append]
  simp [List.filter_cons]
theorem filter_yes {P : Raw → Bool} {L : List Raw} {k : Nat} (hk : k < L.length) (h : P L[k] = true) : (L.take (k + 1)).filter P = (L.take k).filter P ++ [L[k]] := by rw [filter_snoc P hk, h]; rfl
theorem filter_no {P : Raw → Bool} {L : List Raw} {k : Nat} (hk : k < L.length) (h : P L[k] = false) : (L.take (k + 1)).filter P = (L.take k).filter P := by rw [filter_snoc P hk, h]; simp

set_option maxHeartbeats 4000000 in
set_option maxRecDepth 100000 in
theorem where_some (K : Nat) (cb : Array Value) (P : Raw → Bool) (L : List Raw) (b o c : Nat) (w : World) (eg : ∀ args w, (callFunc K args).run Tryz.prog w = .ok (.enter K args) w) (hL : L.length ≤ 100000) (hs : ∀ r, r ∈ L → slR r)
    (hc : ∀ j (h : j < L.length), w.cell? ⟨b, o + j * 5, none⟩ = some (.string L[j].1.1) ∧ w.cell? ⟨b, o + j * 5 + 1, none⟩ = some (.string L[j].1.2) ∧ w.cell? ⟨b, o + j * 5 + 2, none⟩ = some L[j].2.1 ∧ w.cell? ⟨b, o + j * 5 + 3, none⟩ = some L[j].2.2.1 ∧ w.cell? ⟨b, o + j * 5 + 4, none⟩ = some (.bool L[j].2.2.2))
    (hK : ∀ i (h : i < L.length) W, Below w.heap.size w W → Calls Tryz.prog K (#[rawV L[i]] ++ cb) W fun e w' => e = .returned (.bool (P L[i])) ∧ Below W.heap.size W w') :
    Calls Tryz.prog 69 #[.slice (some ⟨b, o, none⟩) L.length c, .func (.func K) #[] cb] w fun e w' => ∃ v, e = .returned v ∧ w'.ownsRow w.heap.size 56 5 v (L.filter P).length (flatR (L.filter P)) ∧ Below w.heap.size w w' := by
  obtain ⟨i0, hi0, hz0, hz1, hz2⟩ := info_parts infoEnt
  have HK := hid hK
  have HC := hid hc
  have HSL := hid hs
  clear hK hc hs
  go_enter Tryz.func69, Tryz.ntmps69
  go_wp2_with fail
  go_loopw [5, 10] (fun ov i wr => ∃ k : Nat, k ≤ L.length ∧ i = .int .i64 k ∧ Hid (wr.ownsRow w.heap.size 56 5 ov ((L.take k).filter P).length (flatR ((L.take k).filter P))) ∧ Hid (Below w.heap.size w wr)) (fun _ i _ => L.length - (intOf i).toNat)
  case atStart => exact ⟨0, Nat.zero_le _, rfl, hid (World.ownsRow_nil _ _ _ _), hid (Below.refl _ _)⟩
  case round =>
    obtain ⟨k, hk, rfl, HO, HB⟩ := hrel
    by_cases hlt : k < L.length
    · obtain ⟨y0, y1, y2, y3, y4⟩ := HC.out k hlt
      have x0 := cell_below HB.out y0
      have x1 := cell_below HB.out y1
      have x2 := cell_below HB.out y2
      have x3 := cell_below HB.out y3
      have x4 := cell_below HB.out y4
      have hsl := HSL.out L[k] (List.getElem_mem hlt)
      have hkI : (k : Int) < (L.length : Int) := by omega
      have HLT := hid hlt
      have HY := hid (fun h => filter_yes hlt h (P := P))
      have HN := hid (fun h => filter_no hlt h (P := P))
      have HKK := hid (fun W hW => HK.out k hlt W hW)
      have HLN := hid (show ((L.take k).filter P).length ≤ 100000 from Nat.le_trans (List.length_filter_le _ _) (by rw [List.length_take]; omega))
      clear y0 y1 y2 y3 y4
      generalize L[k] = x at *
      obtain ⟨⟨p, q⟩, rv, pv, bk⟩ := x
      obtain ⟨⟨ra, rn, rc, hrv⟩, pa, pn, pc, hpv⟩ := hsl
      simp only at hrv hpv
      subst hrv
      subst hpv
      have HBa := hid (HB.out.alloc HB.out.size (.cells #[.string p, .string q, .slice ra rn rc, .slice pa pn pc, .bool bk] 56))
      have HP := hid (HKK.out _ HBa.out)
      have HOa := hid (HO.out.alloc (.cells #[.string p, .string q, .slice ra rn rc, .slice pa pn pc, .bool bk] 56))
      unfold rawV at HP
      clear hlt HKK
      cases hp : P ((p, q), .slice ra rn rc, .slice pa pn pc, bk)
      · rw [hp] at HP
        have HN2 := hid (HN.out hp)
        clear hp
        go_wp2_with fail
        refine HP.out.mono ?_
        rintro e w1 ⟨rfl, hb⟩
        have HB1 := hid (HBa.out.trans (hb.mono HBa.out.size))
        have HO1 := hid (owns_below HOa.out hb)
        clear hb
        go_wp2_with fail
        go_roundw
        case rel => exact ⟨k + 1, by have := HLT.out; omega, by go_num, by rw [HN2.out]; exact HO1, HB1⟩
        case measure => have := HLT.out; simp [intOf]; omega
      · rw [hp] at HP
        have HY2 := hid (HY.out hp)
        clear hp
        go_wp2_with fail
        refine HP.out.mono ?_
        rintro e w1 ⟨rfl, hb⟩
        have HB1 := hid (HBa.out.trans (hb.mono HBa.out.size))
        have HO1 := hid (owns_below HOa.out hb)
        have HE1 := hid (show w1.heap[wr.heap.size]? = some (.cells #[.string p, .string q, .slice ra rn rc, .slice pa pn pc, .bool bk] 56 (0, 0)) by rw [hb.block _ (by simp)]; exact heap_alloc_new wr _)
        have z0 : w1.cell? ⟨wr.heap.size, 0, none⟩ = some (.string p) := by rw [Lib.cell_of_heap HE1.out]; rfl
        have z1 : w1.cell? ⟨wr.heap.size, 1, none⟩ = some (.string q) := by rw [Lib.cell_of_heap HE1.out]; rfl
        have z2 : w1.cell? ⟨wr.heap.size, 2, none⟩ = some (.slice ra rn rc) := by rw [Lib.cell_of_heap HE1.out]; rfl
        have z3 : w1.cell? ⟨wr.heap.size, 3, none⟩ = some (.slice pa pn pc) := by rw [Lib.cell_of_heap HE1.out]; rfl
        have z4 : w1.cell? ⟨wr.heap.size, 4, none⟩ = some (.bool bk) := by rw [Lib.cell_of_heap HE1.out]; rfl
        clear hb x0 x1 x2 x3 x4
        go_wp2_with (at_builtin; refine wpList_append_own _ rfl _ _ 22 rfl w.heap.size 56 i0 _ 5 88 Tryz.underlying22 hi0 hz0 hz1 hz2 rfl (by decide) _ _ _ rfl (HO1.out.alloc _) ⟨w1.heap.size, 0, none⟩ 1 1 [.string p, .string q, .slice ra rn rc, .slice pa pn pc, .bool bk] rfl rfl ?c1 ?c2 ?c3 ?c4 ?c5 ?_)
        case c1 => exact World.news_of_block (cs := #[.string p, .string q, .slice ra rn rc, .slice pa pn pc, .bool bk]) (t := 56) (fr := (0, 0)) (heap_alloc_new w1 _)
        case c2 =>
          intro u hu
          simp at hu
          rcases hu with rfl | rfl | rfl | rfl | rfl <;> rfl
        case c3 => have := HLN.out; unfold maxLen; omega
        case c4 => have := HLN.out; omega
        case c5 => have := HB1.out.size; simp; omega
        intro v' w3 hown hgrow _
        have HR3 := hid (rel_app5 HB1.out.size HB1.out HO1.out (Below.refl _ _) hgrow)
        have HO3 := hid hown
        clear hown hgrow z0 z1 z2 z3 z4
        go_wp2_with fail
        go_roundw
        case rel => exact ⟨k + 1, by have := HLT.out; omega, by go_num, hid (own_nextR (x := ((p, q), .slice ra rn rc, .slice pa pn pc, bk)) HO3.out HY2.out), HR3⟩
        case measure => have := HLT.out; simp [intOf]; omega
    · have HTR := hid (show L.take k = L from List.take_of_length_le (by omega))
      rw [HTR.out] at HO
      have hkI : ¬ (k : Int) < (L.length : Int) := by omega
      clear hlt
      go_wp2_with fail
      go_ret
      exact ⟨_, rfl, HO.out, HB.out⟩
theorem where_none (K : Nat) (cb : Array Value) (a : Option Addr) (c : Nat) (w : World) :
    Calls Tryz.prog 69 #[.slice a 0 c, .func (.func K) #[] cb] w fun e w' => e = .returned (.slice none 0 0) ∧ Below w.heap.size w w' := by
  go_enter Tryz.func69, Tryz.ntmps69
  go_wp2_with fail
  go_loopw [5, 10] (fun ov i wr => ov = .slice none 0 0 ∧ i = .int .i64 0 ∧ wr = w) (fun _ i _ => 0)
  case atStart => exact ⟨rfl, rfl, rfl⟩
  case round =>
    obtain ⟨rfl, rfl, rfl⟩ := hrel
    go_wp2_with fail
    go_ret
    exact ⟨rfl, Below.refl _ _⟩
/-- index.where. -/
theorem where_any (K : Nat) (cb : Array Value) (P : Raw → Bool) (L : List Raw) (v : Value) (w : World) (eg : ∀ args w, (callFunc K args).run Tryz.prog w = .ok (.enter K args) w) (hL : L.length ≤ 100000) (hv : EsAt w v L)
    (hK : ∀ i (h : i < L.length) W, Below w.heap.size w W → Calls Tryz.prog K (#[rawV L[i]] ++ cb) W fun e w' => e = .returned (.bool (P L[i])) ∧ Below W.heap.size W w') :
    Calls Tryz.prog 69 #[v, .func (.func K) #[] cb] w fun e w' => ∃ v', e = .returned v' ∧ EsAt w' v' (L.filter P) ∧ Below w.heap.size w w' := by
  obtain ⟨a, c, rfl, _, hs, h⟩ := hv
  have hsf : ∀ r, r ∈ L.filter P → slR r := fun r hr => hs r (List.mem_filter.1 hr).1
  cases L with
  | nil => exact (where_none K cb a c w).mono fun e w' ⟨h1, h2⟩ => ⟨_, h1, ⟨none, 0, rfl, Nat.le_refl _, fun r hr => absurd hr (by simp), fun h => absurd rfl h⟩, h2⟩
  | cons x r =>
    obtain ⟨b, o, rfl, h2⟩ := h (by simp)
    exact (where_some K cb P (x :: r) b o c w eg hL hs h2 hK).mono fun e w' ⟨v', h1, h2, h3⟩ => ⟨v', h1, own_es hsf h2, h3⟩
end Ve
end Go.Proofs.YtmbphngmaglgmaaGreatDoor

/-
  What LongMods of the statements, SameMods and FindPath of the document's answer say of modules; nothing old in memory turns.
-/
namespace Go.Proofs.YtmbphngmaglgmaaGreatDoor
open Go.RowKit
namespace Ve

/-- Not too many modules, none too long. -/
def okM (m : Bm) : Bool := decide (m.1.size ≤ 70) && decide (m.2.size ≤ 60)
def okL (L : List Bm) : Bool := decide (L.length ≤ 25) && L.all okM
theorem okL_iff {L : List Bm} (h : okL L = true) : L.length ≤ 25 ∧ ∀ m, m ∈ L → m.1.size ≤ 70 ∧ m.2.size ≤ 60 := by
  unfold okL at h
  rw [Bool.and_eq_true] at h
  refine ⟨of_decide_eq_true h.1, fun m hm => ?_⟩
  have := List.all_eq_true.1 h.2 m hm
  unfold okM at this
  rw [Bool.and_eq_true] at this
  exact ⟨of_decide_eq_true this.1, of_decide_eq_true this.2⟩
theorem all_take_next {L : List Bm} {k : Nat} (hk : k < L.length) (h : (L.take k).all okM = true) (hm : okM L[k] = true) : (L.take (k + 1)).all okM = true := by
  rw [List.take_succ_eq_append_getElem hk, List.all_append, h]
  simp [hm]
theorem all_not {L : List Bm} {k : Nat} (hk : k < L.length) (hm : okM L[k] = false) : L.all okM = false := by
  cases e : L.all okM
  · rfl
  · have := List.all_eq_true.1 e L[k] (List.getElem_mem hk)
    rw [hm] at this; cases this
set_option maxHeartbeats 1000000 in
theorem long_some (L : List Bm) (b o c : Nat) (w : World) (hn : L.length ≤ 25)
    (hc : ∀ j (h : j < L.length), w.cell? ⟨b, o + j * 2, none⟩ = some (.string L[j].1) ∧ w.cell? ⟨b, o + j * 2 + 1, none⟩ = some (.string L[j].2)) :
    Calls Tryz.prog 23 #[.slice (some ⟨b, o, none⟩) L.length c, .int .i64 25] w fun e w' => e = .returned (.int .i64 (if okL L then 0 else 1)) ∧ w' = w := by
  have HC := hid hc
  have HO := hid (show okL L = L.all okM by unfold okL; rw [decide_eq_true hn, Bool.true_and])
  have hn2 : ¬ (25 : Int) < (L.length : Int) := by omega
  generalize hr : (if okL L then (0 : Int) else 1) = r
  have HR := hid hr
  clear hc hr
  go_enter Tryz.func23, Tryz.ntmps23
  go_wp2_with fail
  go_loop [5] (fun i => ∃ k : Nat, k ≤ L.length ∧ i = .int .i64 k ∧ Hid ((L.take k).all okM = true)) (fun i => L.length - (intOf i).toNat)
  case atStart => exact ⟨0, Nat.zero_le _, rfl, hid rfl⟩
  case round =>
    obtain ⟨k, hk, rfl, HA⟩ := hrel
    by_cases hlt : k < L.length
    · have hx := (HC.out k hlt).1
      have hy := (HC.out k hlt).2
      have HN := hid (fun h => all_take_next hlt HA.out h)
      have HX := hid (fun h => all_not hlt h)
      have HLT := hid hlt
      have hkI : (k : Int) < (L.length : Int) := by omega
      generalize L[k] = x at *
      clear hlt
      obtain ⟨p, v⟩ := x
      by_cases h1 : p.size ≤ 70
      · have h1' : ¬ (70 : Int) < (p.size : Int) := by omega
        by_cases h2 : v.size ≤ 60
        · have h2' : ¬ (60 : Int) < (v.size : Int) := by omega
          have HT := hid (HN.out (by unfold okM; rw [decide_eq_true h1, decide_eq_true h2]; rfl))
          go_wp2_with fail
          go_round
          case rel => exact ⟨k + 1, by have := HLT.out; omega, by go_num, HT⟩
          case measure => have := HLT.out; simp [intOf]; omega
        · have h2' : (60 : Int) < (v.size : Int) := by omega
          have HT := hid (HX.out (by unfold okM; rw [decide_eq_true h1, decide_eq_false h2]; rfl))
          go_wp2_with fail
          go_ret
          exact ⟨by rw [← HR.out, HO.out, HT.out]; rfl, rfl⟩
      · have h1' : (70 : Int) < (p.size : Int) := by omega
        have HT := hid (HX.out (by unfold okM; rw [decide_eq_false h1]; rfl))
        go_wp2_with fail
        go_ret
        exact ⟨by rw [← HR.out, HO.out, HT.out]; rfl, rfl⟩
    · have HT := hid (show L.all okM = true by have := HA.out; rw [List.take_of_length_le (by omega)] at this; exact this)
      go_wp2_with fail
      go_ret
      exact ⟨by rw [← HR.out, HO.out, HT.out]; rfl, rfl⟩
theorem long_none (a : Option Addr) (c : Nat) (w : World) : Calls Tryz.prog 23 #[.slice a 0 c, .int .i64 25] w fun e w' => e = .returned (.int .i64 0) ∧ w' = w := by
  go_enter Tryz.func23, Tryz.ntmps23
  go_wp2_with fail
  go_loop [5] (fun i => i = .int .i64 0) (fun i => 0)
  case atStart => exact rfl
  case round =>
    obtain rfl := hrel
    go_wp2_with fail
    go_ret
    exact ⟨rfl, rfl⟩
theorem long_many (a : Option Addr) (n c : Nat) (w : World) (hn : 25 < n) : Calls Tryz.prog 23 #[.slice a n c, .int .i64 25] w fun e w' => e = .returned (.int .i64 1) ∧ w' = w := by
  have hn2 : (25 : Int) < (n : Int) := by omega
  go_enter Tryz.func23, Tryz.ntmps23
  go_wp2_with fail
  go_ret
  exact ⟨rfl, rfl⟩
theorem long_any (L : List Bm) (v : Value) (w : World) (hv : MsAt w v L) : Calls Tryz.prog 23 #[v, .int .i64 25] w fun e w' => e = .returned (.int .i64 (if okL L then 0 else 1)) ∧ w' = w := by
  obtain ⟨a, c, rfl, _, h⟩ := hv
  by_cases hn : L.length ≤ 25
  · cases L with
    | nil => exact long_none a c w
    | cons x r =>
      obtain ⟨b, o, rfl, h2⟩ := h (by simp)
      exact long_some (x :: r) b o c w hn h2
  · have : okL L = false := by unfold okL; rw [decide_eq_false hn]; rfl
    rw [this]
    exact long_many a L.length c w (by omega)

/-- Where a path is among modules: the first place, or none. -/
def FpP (L : List Bm) (p : ByteArray) (r : Int) : Prop := (r = -1 ∧ ∀ j (h : j < L.length), L[j].1 ≠ p) ∨ ∃ k : Nat, r = k ∧ ∃ h : k < L.length, L[k].1 = p
/-- That place, as a function. -/
def fpE (L : List Bm) (p : ByteArray) (i : Nat) : Nat := match L[i]? with
  | some m => if m.1 = p then 1 else 0
  | none => 0
def fpOf (L : List Bm) (p : ByteArray) : Int := match fstE (fpE L p) L.length with
  | some k => (k : Int)
  | none => -1
theorem fpE_at {L : List Bm} {p : ByteArray} {i : Nat} (h : i < L.length) : fpE L p i = if L[i].1 = p then 1 else 0 := by unfold fpE; rw [List.getElem?_eq_getElem h]
theorem fpE_zero {L : List Bm} {p : ByteArray} {n : Nat} (hn : n ≤ L.length) (h : ∀ j (hj : j < L.length), j < n → L[j].1 ≠ p) : ∀ j, j < n → fpE L p j = 0 := fun j hj => by rw [fpE_at (by omega), if_neg (h j (by omega) hj)]
theorem fpOf_P (L : List Bm) (p : ByteArray) : FpP L p (fpOf L p) := by
  unfold fpOf
  cases h : fstE (fpE L p) L.length with
  | none =>
    refine Or.inl ⟨rfl, fun j hj e => ?_⟩
    have := fstE_of_none h j hj
    rw [fpE_at hj, if_pos e] at this; cases this
  | some k =>
    obtain ⟨h1, h2, _⟩ := fstE_of_some h
    refine Or.inr ⟨k, rfl, h1, ?_⟩
    rw [fpE_at h1] at h2
    by_cases e : L[k].1 = p
    · exact e
    · rw [if_neg e] at h2; exact absurd rfl h2
end Ve
end Go.Proofs.YtmbphngmaglgmaaGreatDoor

/-
  An index in memory, with its requirements and packages; what LongIndex of the statements answers.
-/
namespace Go.Proofs.YtmbphngmaglgmaaGreatDoor
open Go.RowKit
namespace Ve

/-- An entry: its module, what it requires, its packages, whether it is taken back. -/
abbrev Ent := Bm × List Bm × List ByteArray × Bool
/-- Texts lie in a slice. -/
def TxAt (w : World) (v : Value) (X : List ByteArray) : Prop :=
  ∃ (a : Option Addr) (c : Nat), v = .slice a X.length c ∧ X.length ≤ c ∧ (X ≠ [] → ∃ b o, a = some ⟨b, o, none⟩ ∧ ∀ j (h : j < X.length), w.cell? ⟨b, o + j, none⟩ = some (.string X[j]))
theorem TxAt.below {w w' : World} {v : Value} {X : List ByteArray} (h : TxAt w v X) (hb : Below w.heap.size w w') : TxAt w' v X := by
  obtain ⟨a, c, e, hc, h⟩ := h
  refine ⟨a, c, e, hc, fun hL => ?_⟩
  obtain ⟨b, o, e2, h2⟩ := h hL
  exact ⟨b, o, e2, fun j hj => cell_below hb (h2 j hj)⟩
/-- The cells of an entry, and the entry. -/
structure RawOk (w : World) (r : Raw) (e : Ent) : Prop where
  m : r.1 = e.1
  rq : MsAt w r.2.1 e.2.1
  pk : TxAt w r.2.2.1 e.2.2.1
  bk : r.2.2.2 = e.2.2.2
theorem RawOk.below {w w' : World} {r : Raw} {e : Ent} (h : RawOk w r e) (hb : Below w.heap.size w w') : RawOk w' r e := ⟨h.m, h.rq.below hb, h.pk.below hb, h.bk⟩
/-- An index lies in memory. -/
structure Ixs (w : World) (v : Value) (Q : List Raw) (L : List Ent) : Prop where
  es : EsAt w v Q
  ln : Q.length = L.length
  ok : ∀ j (h : j < Q.length) (h' : j < L.length), RawOk w Q[j] L[j]
theorem Ixs.below {w w' : World} {v : Value} {Q : List Raw} {L : List Ent} (h : Ixs w v Q L) (hb : Below w.heap.size w w') : Ixs w' v Q L := ⟨h.es.below hb, h.ln, fun j h1 h2 => (h.ok j h1 h2).below hb⟩
/-- Is an entry not too long? -/
def okP (X : List ByteArray) : Bool := X.all fun x => decide (x.size ≤ 70)
def okE (e : Ent) : Bool := decide (e.1.1.size ≤ 70) && decide (e.1.2.size ≤ 60) && okL e.2.1 && decide (e.2.2.1.length ≤ 15) && okP e.2.2.1
def okN (n : Nat) : Bool := decide (n ≤ 30) || decide (n = 101)
def okI (L : List Ent) : Bool := okN L.length && L.all okE
def pfxE (L : List Ent) (k : Nat) : Bool := (L.take k).all okE
theorem okE_next {L : List Ent} {k : Nat} (hk : k < L.length) (h : pfxE L k = true) (hm : okE L[k] = true) : pfxE L (k + 1) = true := by
  unfold pfxE at h ⊢
  rw [List.take_succ_eq_append_getElem hk, List.all_append, h]
  simp [hm]
theorem okE_not {L : List Ent} {k : Nat} (hk : k < L.length) (hm : okE L[k] = false) : L.all okE = false := by
  cases e : L.all okE
  · rfl
  · have := List.all_eq_true.1 e L[k] (List.getElem_mem hk)
    rw [hm] at this; cases this
theorem okP_next {X : List ByteArray} {k : Nat} (hk : k < X.length) (h : okP (X.take k) = true) (hm : X[k].size ≤ 70) : okP (X.take (k + 1)) = true := by
  unfold okP at h ⊢
  rw [List.take_succ_eq_append_getElem hk, List.all_append, h]
  simp [hm]
theorem okP_not {X : List ByteArray} {k : Nat} (hk : k < X.length) (hm : ¬ X[k].size ≤ 70) : okP X = false := by
  cases e : okP X
  · rfl
  · have := List.all_eq_true.1 e X[k] (List.getElem_mem hk)
    exact absurd (of_decide_eq_true this) hm
theorem longI_many (a : Option Addr) (n c : Nat) (w : World) (h : okN n = false) : Calls Tryz.prog 7 #[.slice a n c] w fun e w' => e = .returned (.int .i64 1) ∧ Below w.heap.size w w' := by
  unfold okN at h
  rw [Bool.or_eq_false_iff] at h
  have h1 := of_decide_eq_false h.1
  have h2 := of_decide_eq_false h.2
  have q1 : (30 : Int) < (n : Int) := by omega
  have q2 : ((n : Int) != 101) = true := bne_iff_ne.2 (by omega)
  clear h h1 h2
  go_enter Tryz.func7, Tryz.ntmps7
  go_wp2_with fail
  go_ret
  exact ⟨rfl, Below.refl _ _⟩
theorem okN_yes {n : Nat} (h : okN n = true) : ¬ (30 : Int) < (n : Int) ∨ ((30 : Int) < (n : Int) ∧ ((n : Int) != 101) = false) := by
  unfold okN at h
  rw [Bool.or_eq_true] at h
  rcases h with h | h
  · left; have := of_decide_eq_true h; omega
  · right
    have := of_decide_eq_true h
    exact ⟨by omega, by rw [bne, beq_iff_eq.2 (show (n : Int) = 101 by omega)]; rfl⟩
set_option maxHeartbeats 8000000 in
set_option maxRecDepth 100000 in
theorem longI_any (Q : List Raw) (L : List Ent) (v : Value) (w : World) (I : Ixs w v Q L) : Calls Tryz.prog 7 #[v] w fun e w' => e = .returned (.int .i64 (if okI L then 0 else 1)) ∧ Below w.heap.size w w' := by
  obtain ⟨a, c, rfl, _, hs, hc⟩ := id I.es
  by_cases hn : okN Q.length = true
  · have HO := hid (show okI L = L.all okE by unfold okI; rw [← I.ln, hn, Bool.true_and])
    generalize hr : (if okI L then (0 : Int) else 1) = r
    have HR := hid hr
    have HI := hid I
    have hln := I.ln
    have hqn : Q.length ≤ 101 := by
      unfold okN at hn
      rw [Bool.or_eq_true] at hn
      rcases hn with h | h
      · have := of_decide_eq_true h; omega
      · have := of_decide_eq_true h; omega
    have HC := hid hc
    have HSL := hid hs
    clear I hr hc hs
    rcases okN_yes hn with h0 | ⟨h0, h0'⟩
    all_goals
      clear hn
      go_enter Tryz.func7, Tryz.ntmps7
      go_wp2_with fail
      go_loopw [3] (fun i wr => ∃ k : Nat, k ≤ L.length ∧ i = .int .i64 k ∧ Hid (pfxE L k = true) ∧ Hid (Below w.heap.size w wr)) (fun i _ => L.length - (intOf i).toNat)
      case atStart => exact ⟨0, Nat.zero_le _, rfl, hid rfl, hid (Below.refl _ _)⟩
      case round =>
        obtain ⟨k, hk, rfl, HA, HB⟩ := hrel
        by_cases hlt : k < L.length
        · have hkq : k < Q.length := by omega
          have hO := HI.out.ok k hkq hlt
          obtain ⟨b, o, ha, hcc⟩ := HC.out (by intro h; rw [h] at hkq; simp at hkq)
          subst ha
          obtain ⟨y0, y1, y2, y3, y4⟩ := hcc k hkq
          have x0 := cell_below HB.out y0
          have x1 := cell_below HB.out y1
          have x2 := cell_below HB.out y2
          have x3 := cell_below HB.out y3
          have y3' := y3
          have hkI : (k : Int) < (Q.length : Int) := by omega
          have HLT := hid hlt
          have HN := hid (fun h => okE_next hlt HA.out h)
          have HXX := hid (fun h => okE_not hlt h)
          clear hcc y0 y1 y2 y3 y4
          generalize L[k] = e at *
          generalize Q[k] = r at *
          clear hlt hkq
          obtain ⟨⟨p, q⟩, rv, pv, bk⟩ := r
          obtain ⟨⟨p', q'⟩, eR, eP, bk'⟩ := e
          obtain ⟨hm, hrq, hpk, _⟩ := hO
          simp only at hm hrq hpk x0 x1 x2 x3 y3'
          obtain ⟨rfl, rfl⟩ : p = p' ∧ q = q' := by injection hm with h1 h2; exact ⟨h1, h2⟩
          have HL := hid (long_any eR rv wr (hrq.below HB.out))
          obtain ⟨ra, rc, hrv, _⟩ := id hrq
          obtain ⟨pa, pc, hpv, _, hpc⟩ := id hpk
          subst hrv
          subst hpv
          have HPK := hid hpc
          clear hm hrq hpk hpc
          have HE := hid (show okE ((p, q), eR, eP, bk') = (decide (p.size ≤ 70) && decide (q.size ≤ 60) && okL eR && decide (eP.length ≤ 15) && okP eP) from rfl)
          by_cases h1 : p.size ≤ 70
          · have q1 : decide ((70 : Int) < (p.size : Int)) = false := decide_eq_false (by omega)
            by_cases h2 : q.size ≤ 60
            · have q2 : decide ((60 : Int) < (q.size : Int)) = false := decide_eq_false (by omega)
              cases h3 : okL eR
              · have HX := hid (HXX.out (by rw [HE.out, h3, Bool.and_false, Bool.false_and, Bool.false_and]))
                rw [h3] at HL
                clear h1 h2 h3
                go_wp2_with fail
                refine HL.out.mono ?_
                rintro e w1 ⟨rfl, rfl⟩
                go_wp2_with fail
                go_ret
                exact ⟨by rw [← HR.out, HO.out, HX.out]; rfl, HB.out⟩
              · rw [h3] at HL
                by_cases h4 : eP.length ≤ 15
                · have q4 : decide ((15 : Int) < (eP.length : Int)) = false := decide_eq_false (by omega)
                  have HE2 := hid (show okE ((p, q), eR, eP, bk') = okP eP by rw [HE.out, decide_eq_true h1, decide_eq_true h2, h3, decide_eq_true h4]; rfl)
                  have hp15 := h4
                  clear h1 h2 h3 h4
                  go_wp2_with fail
                  refine HL.out.mono ?_
                  rintro e w1 ⟨rfl, rfl⟩
                  go_wp2_with fail
                  go_loopw [4] (fun i wr' => ∃ k' : Nat, k' ≤ eP.length ∧ i = .int .i64 k' ∧ Hid (okP (eP.take k') = true) ∧ Hid (Below w.heap.size w wr')) (fun i _ => eP.length - (intOf i).toNat)
                  case atStart => exact ⟨0, Nat.zero_le _, rfl, hid rfl, HB⟩
                  case round =>
                    obtain ⟨k', hk', rfl, HA', HBq⟩ := hrel
                    have x3' := cell_below HBq.out y3'
                    by_cases hlt' : k' < eP.length
                    · obtain ⟨b', o', ha', hp'⟩ := HPK.out (by intro h; rw [h] at hlt'; simp at hlt')
                      subst ha'
                      have z := cell_below HBq.out (hp' k' hlt')
                      have hkI' : (k' : Int) < (eP.length : Int) := by omega
                      have HLT' := hid hlt'
                      have HN' := hid (fun h => okP_next hlt' HA'.out h)
                      have HX' := hid (fun h => okP_not hlt' h)
                      generalize eP[k'] = x at *
                      clear hp' hlt'
                      by_cases h5 : x.size ≤ 70
                      · have q5 : ¬ (70 : Int) < (x.size : Int) := by omega
                        have HN2 := hid (HN'.out h5)
                        clear h5
                        go_wp2_with fail
                        go_roundw
                        case rel => exact ⟨k' + 1, by have := HLT'.out; omega, by go_num, HN2, HBq⟩
                        case measure => have := HLT'.out; simp [intOf]; omega
                      · have q5 : (70 : Int) < (x.size : Int) := by omega
                        have HX := hid (HXX.out (by rw [HE2.out, HX'.out h5]))
                        clear h5
                        go_wp2_with fail
                        go_ret
                        exact ⟨by rw [← HR.out, HO.out, HX.out]; rfl, HBq.out⟩
                    · have HT' := hid (show okP eP = true by have := HA'.out; rw [List.take_of_length_le (by omega)] at this; exact this)
                      have HN2 := hid (HN.out (by rw [HE2.out, HT'.out]))
                      have hkI' : ¬ (k' : Int) < (eP.length : Int) := by omega
                      clear hlt'
                      go_wp2_with fail
                      go_roundw
                      case rel => first | exact ⟨k + 1, by have := HLT.out; omega, by go_num, HN2, HBq⟩ | exact ⟨k + 1, by have := HLT.out; omega, by omega, HN2⟩
                      case measure => have := HLT.out; simp [intOf]; omega
                · have q4 : decide ((15 : Int) < (eP.length : Int)) = true := decide_eq_true (by omega)
                  have HX := hid (HXX.out (by rw [HE.out, decide_eq_false h4, Bool.and_false, Bool.false_and]))
                  clear h1 h2 h3 h4
                  go_wp2_with fail
                  refine HL.out.mono ?_
                  rintro e w1 ⟨rfl, rfl⟩
                  go_wp2_with fail
                  go_ret
                  exact ⟨by rw [← HR.out, HO.out, HX.out]; rfl, HB.out⟩
            · have q2 : decide ((60 : Int) < (q.size : Int)) = true := decide_eq_true (by omega)
              have HX := hid (HXX.out (by rw [HE.out, decide_eq_false h2, Bool.and_false, Bool.false_and, Bool.false_and, Bool.false_and]))
              clear h1 h2
              go_wp2_with fail
              go_ret
              exact ⟨by rw [← HR.out, HO.out, HX.out]; rfl, HB.out⟩
          · have q1 : decide ((70 : Int) < (p.size : Int)) = true := decide_eq_true (by omega)
            have HX := hid (HXX.out (by rw [HE.out, decide_eq_false h1, Bool.false_and, Bool.false_and, Bool.false_and, Bool.false_and]))
            clear h1
            go_wp2_with fail
            go_ret
            exact ⟨by rw [← HR.out, HO.out, HX.out]; rfl, HB.out⟩
        · have HT := hid (show L.all okE = true by have := HA.out; unfold pfxE at this; rw [List.take_of_length_le (by omega)] at this; exact this)
          have hkI : ¬ (k : Int) < (Q.length : Int) := by omega
          go_wp2_with fail
          go_ret
          exact ⟨by rw [← HR.out, HO.out, HT.out]; rfl, HB.out⟩
  · have hf : okN Q.length = false := by simpa using hn
    have : okI L = false := by unfold okI; rw [← I.ln, hf]; rfl
    rw [this]
    exact longI_many a Q.length c w hf
end Ve
end Go.Proofs.YtmbphngmaglgmaaGreatDoor
