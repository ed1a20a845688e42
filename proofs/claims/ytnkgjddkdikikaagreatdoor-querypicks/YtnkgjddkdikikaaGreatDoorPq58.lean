/-
  BgA Cd4 QrA OrdE QsP QrB QrC QrQ
-/
import Derived.Test.YtnkgjddkdikikaaGreatDoorPq3
import Derived.Test.YtnkgjddkdikikaaGreatDoorPq4
import Derived.Test.YtnkgjddkdikikaaGreatDoorPq16
import Derived.Test.YtnkgjddkdikikaaGreatDoorPq8
import Derived.Test.YtnkgjddkdikikaaGreatDoorPq2
import Derived.Test.YtnkgjddkdikikaaGreatDoorPq13
import Derived.Test.YtnkgjddkdikikaaGreatDoorPq1
import Derived.Test.YtnkgjddkdikikaaGreatDoorPq7
import Derived.Test.YtnkgjddkdikikaaGreatDoorPq6
import Derived.Deep.RegionHeld
import Derived.Test.YtnkgjddkdikikaaGreatDoorPq10
import Derived.Test.YtnkgjddkdikikaaGreatDoorPq23
import Derived.Test.YtnkgjddkdikikaaGreatDoorPq34
import Derived.Test.YtnkgjddkdikikaaGreatDoorPq61
import Derived.Test.YtnkgjddkdikikaaGreatDoorPq62
import Derived.Test.YtnkgjddkdikikaaGreatDoorPq19
import Derived.Test.YtnkgjddkdikikaaGreatDoorPq27
import Derived.Test.YtnkgjddkdikikaaGreatDoorPq29
import Derived.Test.YtnkgjddkdikikaaGreatDoorPq31
import Derived.Test.YtnkgjddkdikikaaGreatDoorPq32
import Derived.Test.YtnkgjddkdikikaaGreatDoorPq5
import Derived.Test.YtnkgjddkdikikaaGreatDoorPq12
import Derived.Test.YtnkgjddkdikikaaGreatDoorPq35
import Derived.Test.YtnkgjddkdikikaaGreatDoorPq24
import Derived.Test.YtnkgjddkdikikaaGreatDoorPq64
import Derived.Test.YtnkgjddkdikikaaGreatDoorPq65
namespace Go.Proofs.YtnkgjddkdikikaaGreatDoor
open Go.RowKit
namespace Ve
theorem take_beq (a b : List UInt8) : (a.take b.length == b) = b.isPrefixOf a := by
  rw [Bool.eq_iff_iff, beq_iff_eq, List.isPrefixOf_iff_prefix, List.prefix_iff_eq_take]
  exact eq_comm
theorem begB_long {s h : ByteArray} (hl : ¬ h.size ≤ s.size) : begB s h = false := by
  unfold begB Lib.hasPrefix
  cases e : h.data.toList.isPrefixOf s.data.toList with
  | false => rfl
  | true =>
    have := (List.isPrefixOf_iff_prefix.1 e).length_le
    exact absurd (show h.size ≤ s.size from this) hl
set_option maxHeartbeats 1000000 in
theorem rbeg_any (s h : ByteArray) (w : World) : Calls Tryz.prog 154 #[.string s, .string h] w fun e w' => e = .returned (.bool (begB s h)) ∧ w' = w := by
  by_cases hl : h.size ≤ s.size
  · have h1 : ¬ (s.size : Int) < (h.size : Int) := by omega
    have h2 : (h.size : Int) ≤ (s.size : Int) := by omega
    have h3 : (0 : Int) ≤ (h.size : Int) := by omega
    have HX := hid (show ((s.extract 0 h.size).toList == h.toList) = begB s h by
      rw [ByteArray.toList_eq, ByteArray.toList_eq, extract_list]
      simp only [List.drop_zero, Nat.sub_zero]
      exact take_beq _ _)
    generalize begB s h = z at *
    go_enter Tryz.func154, Tryz.ntmps154
    go_wp2_with fail
    go_ret
    exact ⟨ret_bool HX.out, rfl⟩
  · have h1 : (s.size : Int) < (h.size : Int) := by omega
    have HX := hid (begB_long hl)
    generalize begB s h = z at *
    go_enter Tryz.func154, Tryz.ntmps154
    go_wp2_with fail
    go_ret
    exact ⟨ret_bool HX.out.symm, rfl⟩
end Ve
end Go.Proofs.YtnkgjddkdikikaaGreatDoor
namespace Go.Proofs.YtnkgjddkdikikaaGreatDoor
open Go.RowKit
namespace Ve
set_option maxHeartbeats 1000000 in
theorem coded3_any (A : Nat → Addr) (c : Nat) (w : World) (S : Er.Sen w A) (hc : c ≤ 10) :
    Calls Tryz.prog 34 #[errA A c, .int .i64 ((c : Nat) : Int)] w fun e w' => e = .returned (.bool true) ∧ Below w.heap.size w w' := by
  have HC := hid (show Calls Tryz.prog 82 #[errA A c] w fun e w' => e = .returned (.tuple #[.int .i64 (c : Nat), .int .i64 (-1)]) ∧ Below w.heap.size w w' by
    cases c with
    | zero => exact (Er.code_nil w).mono fun e w' h => ⟨h.1, by rw [h.2]; exact Below.refl _ _⟩
    | succ j => exact Er.code_sen A j w S (by omega))
  generalize errA A c = x at *
  generalize ((c : Nat) : Int) = z at *
  have e1 : (z == z) = true := beq_self_eq_true z
  clear S hc
  go_enter Tryz.func34, Tryz.ntmps34
  go_wp2_with fail
  refine HC.out.mono ?_
  rintro e w1 ⟨rfl, hb⟩
  have HB := hid hb
  clear hb
  go_wp2_with fail
  go_ret
  exact ⟨rfl, HB.out⟩
end Ve
end Go.Proofs.YtnkgjddkdikikaaGreatDoor
namespace Go.Proofs.YtnkgjddkdikikaaGreatDoor
open Go.RowKit
namespace Ve
theorem rword_any (q : ByteArray) (w : World) : Calls Tryz.prog 86 #[.string q] w fun e w' => e = .returned (.bool (isWd q)) ∧ w' = w := by
  have HZ := hid (show isWd q = ((q.toList == [108, 97, 116, 101, 115, 116]) || (q.toList == [117, 112, 103, 114, 97, 100, 101]) || (q.toList == [112, 97, 116, 99, 104]) || (q.toList == [110, 111, 110, 101])) by
    unfold isWd
    rw [eqW, eqW, eqW, eqW]
    rfl)
  generalize isWd q = z at *
  cases h1 : (q.toList == [108, 97, 116, 101, 115, 116])
  · cases h2 : (q.toList == [117, 112, 103, 114, 97, 100, 101])
    · cases h3 : (q.toList == [112, 97, 116, 99, 104])
      · rw [h1, h2, h3] at HZ
        go_enter Tryz.func86, Tryz.ntmps86
        go_wp2_with fail
        go_ret
        exact ⟨ret_bool HZ.out.symm, rfl⟩
      · rw [h1, h2, h3] at HZ
        go_enter Tryz.func86, Tryz.ntmps86
        go_wp2_with fail
        go_ret
        exact ⟨ret_bool HZ.out.symm, rfl⟩
    · rw [h1, h2] at HZ
      go_enter Tryz.func86, Tryz.ntmps86
      go_wp2_with fail
      go_ret
      exact ⟨ret_bool HZ.out.symm, rfl⟩
  · rw [h1] at HZ
    go_enter Tryz.func86, Tryz.ntmps86
    go_wp2_with fail
    go_ret
    exact ⟨ret_bool HZ.out.symm, rfl⟩
theorem begB_size {s h : ByteArray} (hb : begB s h = true) : h.size ≤ s.size := by
  rcases Nat.lt_or_ge s.size h.size with hl | hl
  · rw [begB_long (by omega)] at hb; cases hb
  · exact hl
set_option maxRecDepth 100000 in
set_option maxHeartbeats 2000000 in
theorem rsgn_any (q : ByteArray) (w : World) : Calls Tryz.prog 87 #[.string q] w fun e w' => e = .returned (.tuple #[.string (sgn q).1, .string (sgn q).2]) ∧ Below w.heap.size w w' := by
  have HB0 := hid ((Below.refl w.heap.size w).alloc (Nat.le_refl _) (.cells #[.string ⟨#[60, 61]⟩, .string ⟨#[62, 61]⟩, .string ⟨#[60]⟩, .string ⟨#[62]⟩] 9))
  have hN := heap_alloc_new w (.cells #[.string ⟨#[60, 61]⟩, .string ⟨#[62, 61]⟩, .string ⟨#[60]⟩, .string ⟨#[62]⟩] 9)
  have k0 : (w.alloc (.cells #[.string ⟨#[60, 61]⟩, .string ⟨#[62, 61]⟩, .string ⟨#[60]⟩, .string ⟨#[62]⟩] 9)).cell? ⟨w.heap.size, 0, none⟩ = some (.string ⟨#[60, 61]⟩) := by rw [Lib.cell_of_heap hN]; rfl
  have k1 : (w.alloc (.cells #[.string ⟨#[60, 61]⟩, .string ⟨#[62, 61]⟩, .string ⟨#[60]⟩, .string ⟨#[62]⟩] 9)).cell? ⟨w.heap.size, 1, none⟩ = some (.string ⟨#[62, 61]⟩) := by rw [Lib.cell_of_heap hN]; rfl
  have k2 : (w.alloc (.cells #[.string ⟨#[60, 61]⟩, .string ⟨#[62, 61]⟩, .string ⟨#[60]⟩, .string ⟨#[62]⟩] 9)).cell? ⟨w.heap.size, 2, none⟩ = some (.string ⟨#[60]⟩) := by rw [Lib.cell_of_heap hN]; rfl
  have k3 : (w.alloc (.cells #[.string ⟨#[60, 61]⟩, .string ⟨#[62, 61]⟩, .string ⟨#[60]⟩, .string ⟨#[62]⟩] 9)).cell? ⟨w.heap.size, 3, none⟩ = some (.string ⟨#[62]⟩) := by rw [Lib.cell_of_heap hN]; rfl
  have HBG := hid (fun h W => rbeg_any q h W)
  clear hN
  go_enter Tryz.func87, Tryz.ntmps87
  go_wp2_with fail
  generalize w.alloc (.cells #[.string ⟨#[60, 61]⟩, .string ⟨#[62, 61]⟩, .string ⟨#[60]⟩, .string ⟨#[62]⟩] 9) = w1 at *
  go_loopw [5] (fun iv wr => ∃ k : Nat, k ≤ 4 ∧ iv = .int .i64 k ∧ Hid (∀ j, j < k → begB q (sgAt j) = false) ∧ wr = w1) (fun iv _ => 4 - (intOf iv).toNat)
  case atStart => exact ⟨0, by decide, rfl, hid (fun j hj => absurd hj (Nat.not_lt_zero _)), rfl⟩
  case round =>
    obtain ⟨k, hk, rfl, HA, rfl⟩ := hrel
    rcases (by omega : k = 0 ∨ k = 1 ∨ k = 2 ∨ k = 3 ∨ k = 4) with rfl | rfl | rfl | rfl | rfl
    · have HC := hid (HBG.out ⟨#[60, 61]⟩ wr)
      cases hb : begB q ⟨#[60, 61]⟩
      · rw [hb] at HC
        have HA2 := hid (show ∀ j, j < 1 → begB q (sgAt j) = false from fun j hj => by
          rcases Nat.lt_or_ge j 0 with h | h
          · exact HA.out j h
          · have : j = 0 := by omega
            subst this; exact hb)
        clear hb
        go_wp2_with fail
        refine HC.out.mono ?_
        rintro e w2 ⟨rfl, rfl⟩
        go_wp2_with fail
        go_roundw
        case rel => exact ⟨1, by decide, rfl, HA2, by first | rfl | trivial⟩
        case measure => simp [intOf]
      · rw [hb] at HC
        have HS := hid (sgn_0  hb)
        have hz := begB_size hb
        have hz2 : (2 : Int) ≤ (q.size : Int) := by have : 2 ≤ q.size := hz; omega
        have hz3 : 2 ≤ q.size := hz
        clear hb hz
        go_wp2_with fail
        refine HC.out.mono ?_
        rintro e w2 ⟨rfl, rfl⟩
        go_wp2_with fail
        go_region_with fail
        all_goals
          go_wp2_with fail
          go_ret2
          exact ⟨by rw [HS.out]; rfl, below_drawn_of HB0.out _⟩
    · have HC := hid (HBG.out ⟨#[62, 61]⟩ wr)
      cases hb : begB q ⟨#[62, 61]⟩
      · rw [hb] at HC
        have HA2 := hid (show ∀ j, j < 2 → begB q (sgAt j) = false from fun j hj => by
          rcases Nat.lt_or_ge j 1 with h | h
          · exact HA.out j h
          · have : j = 1 := by omega
            subst this; exact hb)
        clear hb
        go_wp2_with fail
        refine HC.out.mono ?_
        rintro e w2 ⟨rfl, rfl⟩
        go_wp2_with fail
        go_roundw
        case rel => exact ⟨2, by decide, rfl, HA2, by first | rfl | trivial⟩
        case measure => simp [intOf]
      · rw [hb] at HC
        have HS := hid (sgn_1 (HA.out 0 (by decide)) hb)
        have hz := begB_size hb
        have hz2 : (2 : Int) ≤ (q.size : Int) := by have : 2 ≤ q.size := hz; omega
        have hz3 : 2 ≤ q.size := hz
        clear hb hz
        go_wp2_with fail
        refine HC.out.mono ?_
        rintro e w2 ⟨rfl, rfl⟩
        go_wp2_with fail
        go_region_with fail
        all_goals
          go_wp2_with fail
          go_ret2
          exact ⟨by rw [HS.out]; rfl, below_drawn_of HB0.out _⟩
    · have HC := hid (HBG.out ⟨#[60]⟩ wr)
      cases hb : begB q ⟨#[60]⟩
      · rw [hb] at HC
        have HA2 := hid (show ∀ j, j < 3 → begB q (sgAt j) = false from fun j hj => by
          rcases Nat.lt_or_ge j 2 with h | h
          · exact HA.out j h
          · have : j = 2 := by omega
            subst this; exact hb)
        clear hb
        go_wp2_with fail
        refine HC.out.mono ?_
        rintro e w2 ⟨rfl, rfl⟩
        go_wp2_with fail
        go_roundw
        case rel => exact ⟨3, by decide, rfl, HA2, by first | rfl | trivial⟩
        case measure => simp [intOf]
      · rw [hb] at HC
        have HS := hid (sgn_2 (HA.out 0 (by decide)) (HA.out 1 (by decide)) hb)
        have hz := begB_size hb
        have hz2 : (1 : Int) ≤ (q.size : Int) := by have : 1 ≤ q.size := hz; omega
        have hz3 : 1 ≤ q.size := hz
        clear hb hz
        go_wp2_with fail
        refine HC.out.mono ?_
        rintro e w2 ⟨rfl, rfl⟩
        go_wp2_with fail
        go_region_with fail
        all_goals
          go_wp2_with fail
          go_ret2
          exact ⟨by rw [HS.out]; rfl, below_drawn_of HB0.out _⟩
    · have HC := hid (HBG.out ⟨#[62]⟩ wr)
      cases hb : begB q ⟨#[62]⟩
      · rw [hb] at HC
        have HA2 := hid (show ∀ j, j < 4 → begB q (sgAt j) = false from fun j hj => by
          rcases Nat.lt_or_ge j 3 with h | h
          · exact HA.out j h
          · have : j = 3 := by omega
            subst this; exact hb)
        clear hb
        go_wp2_with fail
        refine HC.out.mono ?_
        rintro e w2 ⟨rfl, rfl⟩
        go_wp2_with fail
        go_roundw
        case rel => exact ⟨4, by decide, rfl, HA2, by first | rfl | trivial⟩
        case measure => simp [intOf]
      · rw [hb] at HC
        have HS := hid (sgn_3 (HA.out 0 (by decide)) (HA.out 1 (by decide)) (HA.out 2 (by decide)) hb)
        have hz := begB_size hb
        have hz2 : (1 : Int) ≤ (q.size : Int) := by have : 1 ≤ q.size := hz; omega
        have hz3 : 1 ≤ q.size := hz
        clear hb hz
        go_wp2_with fail
        refine HC.out.mono ?_
        rintro e w2 ⟨rfl, rfl⟩
        go_wp2_with fail
        go_region_with fail
        all_goals
          go_wp2_with fail
          go_ret2
          exact ⟨by rw [HS.out]; rfl, below_drawn_of HB0.out _⟩
    · have HS := hid (sgn_4 (HA.out 0 (by decide)) (HA.out 1 (by decide)) (HA.out 2 (by decide)) (HA.out 3 (by decide)))
      go_wp2_with fail
      go_ret2
      exact ⟨by rw [HS.out]; rfl, HB0.out⟩
set_option maxRecDepth 100000 in
set_option maxHeartbeats 2000000 in
theorem rqerr_any (q : ByteArray) (w : World) (hq : q.size < 999999) : Calls Tryz.prog 36 #[.string q] w fun e w' => e = .returned (.int .i64 (qErr q : Nat)) ∧ Below w.heap.size w w' := by
  have HW := hid (rword_any q w)
  have HSG := hid (rsgn_any q w)
  have HVO := hid (fun W => verOf_any (sgn q).2 W (by have := sgn_size q; omega))
  have HHO := hid (fun W => headOf_any q W (by omega))
  cases hw : isWd q
  · rw [hw] at HW
    obtain ⟨sv, hsv⟩ : ∃ sv, sgn q = sv := ⟨_, rfl⟩
    obtain ⟨sg, v⟩ := sv
    have HE1 := hid (fun h => qErr_ver (q := q) hw h)
    have HE2 := hid (fun h1 h2 => qErr_head (q := q) hw h1 h2)
    rw [hsv] at HSG HVO HE1 HE2
    simp only at HSG HVO HE1 HE2
    clear hw hsv
    by_cases hs : sg = bE
    · replace hs : sg = ⟨#[]⟩ := hs
      subst hs
      go_enter Tryz.func36, Tryz.ntmps36
      go_wp2_with fail
      refine HW.out.mono ?_
      rintro e w1 ⟨rfl, rfl⟩
      go_wp2_with fail
      refine HSG.out.mono ?_
      rintro e w2 ⟨rfl, hb⟩
      have HB2 := hid hb
      clear hb
      go_wp2_with fail
      refine (HVO.out w2).mono ?_
      rintro e w3 ⟨h, hb⟩
      have HB3 := hid (HB2.out.trans (hb.mono HB2.out.size))
      clear hb
      rcases h with ⟨h0, rfl⟩ | ⟨h0, sa, cap, X2, rfl, -⟩
      · by_cases h1 : verErr v.data.toList = 1
        · have HQ := hid (HE2.out (by first | rfl | trivial) h1)
          rw [h1]
          clear h0 h1 HE1 HE2
          go_wp2_with fail
          refine (HHO.out _).mono ?_
          rintro e w4 ⟨h, hb⟩
          have HB4 := hid ((HB3.out.alloc HB3.out.size _).trans (hb.mono (by simp; exact Nat.le_succ_of_le HB3.out.size)))
          clear hb
          rcases h with ⟨-, c, -, rfl, hc⟩ | ⟨ho, g, cap, rfl, -⟩
          · have HC := hid hc
            clear hc
            go_wp2_with fail
            go_ret
            exact ⟨by rw [HQ.out]; first | rfl | (rw [HC.out]; rfl) | (simp [HC.out]), HB4.out⟩
          · have HC := hid (headErr_ok ho)
            clear ho
            go_wp2_with fail
            go_ret
            exact ⟨by rw [HQ.out, HC.out]; rfl, HB4.out⟩
        · have HQ := hid (HE1.out (Or.inr h1))
          have n1 : (((verErr v.data.toList : Nat) : Int) == 1) = false := by simp; omega
          have n2 : ¬ ((verErr v.data.toList : Nat) : Int) = 1 := by omega
          have n3 : (((verErr v.data.toList : Nat) : Int) != 1) = true := by simp; omega
          have n4 : ¬ verErr v.data.toList = 1 := h1
          generalize verErr v.data.toList = ve at *
          clear h0 h1 HE1 HE2
          have HB4 := hid (HB3.out.alloc HB3.out.size (.cells #[.int .i64 0, .int .i64 0, .int .i64 0, .slice none 0 0] 68))
          go_wp2_with fail
          go_ret
          exact ⟨by rw [HQ.out]; rfl, HB4.out⟩
      · have HQ := hid (HE1.out (Or.inr (by rw [h0]; decide)))
        rw [h0] at HQ
        clear h0 HE1 HE2
        have HB4 := hid (HB3.out.alloc HB3.out.size (.cells #[.int .i64 (nAt v.data.toList 0), .int .i64 (nAt v.data.toList 1), .int .i64 (nAt v.data.toList 2), .slice sa X2.length cap] 68))
        go_wp2_with fail
        go_ret
        exact ⟨by rw [HQ.out]; rfl, HB4.out⟩
    · have HQ := hid (HE1.out (Or.inl hs))
      have he2 : (sg.toList == []) = false := by
        have := eqW sg bE
        rw [decide_eq_false hs] at this
        exact this.symm
      clear hs HE1 HE2
      go_enter Tryz.func36, Tryz.ntmps36
      go_wp2_with fail
      refine HW.out.mono ?_
      rintro e w1 ⟨rfl, rfl⟩
      go_wp2_with fail
      refine HSG.out.mono ?_
      rintro e w2 ⟨rfl, hb⟩
      have HB2 := hid hb
      clear hb
      go_wp2_with fail
      refine (HVO.out w2).mono ?_
      rintro e w3 ⟨h, hb⟩
      have HB3 := hid (HB2.out.trans (hb.mono HB2.out.size))
      clear hb
      rcases h with ⟨h0, rfl⟩ | ⟨h0, sa, cap, X2, rfl, -⟩
      · have HB4 := hid (HB3.out.alloc HB3.out.size (.cells #[.int .i64 0, .int .i64 0, .int .i64 0, .slice none 0 0] 68))
        generalize verErr v.data.toList = ve at *
        go_wp2_with fail
        go_ret
        exact ⟨by rw [HQ.out]; rfl, HB4.out⟩
      · have HB4 := hid (HB3.out.alloc HB3.out.size (.cells #[.int .i64 (nAt v.data.toList 0), .int .i64 (nAt v.data.toList 1), .int .i64 (nAt v.data.toList 2), .slice sa X2.length cap] 68))
        rw [h0] at HQ
        go_wp2_with fail
        go_ret
        exact ⟨by rw [HQ.out]; rfl, HB4.out⟩
  · rw [hw] at HW
    have HQ := hid (qErr_word hw)
    clear hw
    go_enter Tryz.func36, Tryz.ntmps36
    go_wp2_with fail
    refine HW.out.mono ?_
    rintro e w1 ⟨rfl, rfl⟩
    go_wp2_with fail
    go_ret
    exact ⟨by rw [HQ.out]; rfl, Below.refl _ _⟩
end Ve
end Go.Proofs.YtnkgjddkdikikaaGreatDoor
namespace Go.Proofs.YtnkgjddkdikikaaGreatDoor
open Go.RowKit
namespace Ve
theorem ret_str {a b : ByteArray} (h : a = b) : Ending.returned (.string a) = .returned (.string b) := by rw [h]
set_option maxHeartbeats 1000000 in
theorem maxOf_any (s t : ByteArray) (w : World) (hs : s.size < 999999) (ht : t.size < 999999) :
    Calls Tryz.prog 95 #[.string s, .string t] w fun e w' => e = .returned (.string (maxB s t)) ∧ Below w.heap.size w w' := by
  have HL := hid (show maxB s t = if verErr s.data.toList = 0 then (if verErr t.data.toList = 0 then (if ordV s.data.toList t.data.toList < 0 then t else s) else s) else if verErr t.data.toList = 0 then t else ⟨#[]⟩ from rfl)
  have HA := hid (isVer_any s w (by omega))
  have HT := hid (fun W => isVer_any t W (by omega))
  by_cases h1 : verErr s.data.toList = 0
  all_goals by_cases h2 : verErr t.data.toList = 0
  · have HO := hid (fun W => orderVer_any s t W hs ht h1 h2)
    rw [decide_eq_true h1] at HA
    rw [decide_eq_true h2] at HT
    rw [if_pos h1, if_pos h2] at HL
    clear h1 h2
    generalize ordV s.data.toList t.data.toList = k at *
    by_cases hk : k < 0
    · rw [if_pos hk] at HL
      go_enter Tryz.func95, Tryz.ntmps95
      go_wp2_with fail
      refine HA.out.mono ?_
      rintro e w1 ⟨rfl, hb1⟩
      have HB1 := hid hb1
      clear hb1
      go_wp2_with fail
      refine (HT.out _).mono ?_
      rintro e w2 ⟨rfl, hb2⟩
      have HB2 := hid (HB1.out.trans (hb2.mono HB1.out.size))
      clear hb2
      go_wp2_with fail
      refine (HO.out _).mono ?_
      rintro e w3 ⟨rfl, hb3⟩
      have HB3 := hid (HB2.out.trans (hb3.mono HB2.out.size))
      clear hb3
      go_wp2_with fail
      go_ret
      exact ⟨ret_str HL.out.symm, HB3.out⟩
    · rw [if_neg hk] at HL
      go_enter Tryz.func95, Tryz.ntmps95
      go_wp2_with fail
      refine HA.out.mono ?_
      rintro e w1 ⟨rfl, hb1⟩
      have HB1 := hid hb1
      clear hb1
      go_wp2_with fail
      refine (HT.out _).mono ?_
      rintro e w2 ⟨rfl, hb2⟩
      have HB2 := hid (HB1.out.trans (hb2.mono HB1.out.size))
      clear hb2
      go_wp2_with fail
      refine (HO.out _).mono ?_
      rintro e w3 ⟨rfl, hb3⟩
      have HB3 := hid (HB2.out.trans (hb3.mono HB2.out.size))
      clear hb3
      go_wp2_with fail
      go_ret
      exact ⟨ret_str HL.out.symm, HB3.out⟩
  · rw [decide_eq_true h1] at HA
    rw [decide_eq_false h2] at HT
    rw [if_pos h1, if_neg h2] at HL
    clear h1 h2
    go_enter Tryz.func95, Tryz.ntmps95
    go_wp2_with fail
    refine HA.out.mono ?_
    rintro e w1 ⟨rfl, hb1⟩
    have HB1 := hid hb1
    clear hb1
    go_wp2_with fail
    refine (HT.out _).mono ?_
    rintro e w2 ⟨rfl, hb2⟩
    have HB2 := hid (HB1.out.trans (hb2.mono HB1.out.size))
    clear hb2
    go_wp2_with fail
    go_ret
    exact ⟨ret_str HL.out.symm, HB2.out⟩
  · rw [decide_eq_false h1] at HA
    rw [decide_eq_true h2] at HT
    rw [if_neg h1, if_pos h2] at HL
    clear h1 h2
    go_enter Tryz.func95, Tryz.ntmps95
    go_wp2_with fail
    refine HA.out.mono ?_
    rintro e w1 ⟨rfl, hb1⟩
    have HB1 := hid hb1
    clear hb1
    go_wp2_with fail
    refine (HT.out _).mono ?_
    rintro e w2 ⟨rfl, hb2⟩
    have HB2 := hid (HB1.out.trans (hb2.mono HB1.out.size))
    clear hb2
    go_wp2_with fail
    go_ret
    exact ⟨ret_str HL.out.symm, HB2.out⟩
  · rw [decide_eq_false h1] at HA
    rw [decide_eq_false h2] at HT
    rw [if_neg h1, if_neg h2] at HL
    clear h1 h2
    go_enter Tryz.func95, Tryz.ntmps95
    go_wp2_with fail
    refine HA.out.mono ?_
    rintro e w1 ⟨rfl, hb1⟩
    have HB1 := hid hb1
    clear hb1
    go_wp2_with fail
    refine (HT.out _).mono ?_
    rintro e w2 ⟨rfl, hb2⟩
    have HB2 := hid (HB1.out.trans (hb2.mono HB1.out.size))
    clear hb2
    go_wp2_with fail
    go_ret
    exact ⟨ret_str HL.out.symm, HB2.out⟩
end Ve
end Go.Proofs.YtnkgjddkdikikaaGreatDoor
namespace Go.Proofs.YtnkgjddkdikikaaGreatDoor
open Go.RowKit Go.Maps
namespace Ve
theorem pk_any {Q : List Raw} {L : List Ent} {t q now : ByteArray} {X X' : List ByteArray} (h : look Q L q → X = X') : pkF Q L t q now X = pkF Q L t q now X' ∧ pkV Q L t q now X = pkV Q L t q now X' := by
  by_cases hq : qErr q ≠ 0
  · exact ⟨by rw [pkF_q hq, pkF_q hq], by rw [pkV_q hq, pkV_q hq]⟩
  by_cases hc : (chk Q L).1 ≠ 0
  · exact ⟨by rw [pkF_c hq hc, pkF_c hq hc], by rw [pkV_c hq hc, pkV_c hq hc]⟩
  by_cases hn : q = bNone
  · exact ⟨by rw [pkF_n hq hc hn, pkF_n hq hc hn], by rw [pkV_n hq hc hn, pkV_n hq hc hn]⟩
  rw [h ⟨by simpa using hq, by simpa using hc, hn⟩]
  exact ⟨rfl, rfl⟩
theorem rkV_same {Q Q' : List Raw} (h : Q.map keyR = Q'.map keyR) (t v : ByteArray) : rkV Q t v = rkV Q' t v := by
  have go : ∀ Q : List Raw, rkV Q t v = (match (Q.map keyR).find? (fun k => decide (k.1.1 = t ∧ k.1.2 = v)) with | some k => (if k.2 then 0 else if 0 < (preOf k.1.2.data.toList).length then 1 else 2) | none => 0) := fun Q => by
    unfold rkV
    rw [List.find?_map]
    show _ = (match Option.map keyR (List.find? (fun r => decide (r.1.1 = t ∧ r.1.2 = v)) Q) with | some k => _ | none => _)
    cases List.find? (fun r : Raw => decide (r.1.1 = t ∧ r.1.2 = v)) Q <;> rfl
  rw [go Q, go Q', h]
theorem lik_same {Q Q' : List Raw} (h : Q.map keyR = Q'.map keyR) (t : ByteArray) (b : Bool) (X : List ByteArray) : likG Q t b X = likG Q' t b X := by
  have e1 : likS Q t = likS Q' t := funext fun s => funext fun v => by unfold likS; rw [rkV_same h]
  have e2 : likSL Q t = likSL Q' t := funext fun s => funext fun v => by unfold likSL; rw [rkV_same h]
  unfold likG likN likNL
  rw [e1, e2]
theorem pk_same {Q Q' : List Raw} {L : List Ent} {t q now : ByteArray} {X : List ByteArray} (h : Q.map keyR = Q'.map keyR) : pkF Q L t q now X = pkF Q' L t q now X ∧ pkV Q L t q now X = pkV Q' L t q now X := by
  unfold pkF pkV pkB
  rw [chk_same (key_mod h), lik_same h]
  exact ⟨rfl, rfl⟩
theorem verO_same {Q Q' : List Raw} (h : Q.map keyR = Q'.map keyR) (t : ByteArray) : verL (ofP t Q) = verL (ofP t Q') := by
  rw [key_ver, key_ver]
  have e := fun Q => key_filter (fun k => decide (k.1.1 = t) && decide (verErr k.1.2.data.toList = 0)) (isP t) (fun _ => rfl) Q
  unfold ofP
  rw [e Q, e Q', h]
theorem headErr_le (l : List UInt8) : headErr l ≤ 10 := by
  unfold headErr
  split
  · decide
  · rcases numsErr_err (headOf l) with h | h | h <;> omega
theorem qErr_le (q : ByteArray) : qErr q ≤ 10 := by
  unfold qErr
  split
  · decide
  · split
    · rcases verErr_err (sgn q).2.data.toList with h | h | h <;> omega
    · exact headErr_le _
end Ve
end Go.Proofs.YtnkgjddkdikikaaGreatDoor
namespace Go.Proofs.YtnkgjddkdikikaaGreatDoor
open Go.RowKit Go.Maps
namespace Ve
set_option maxRecDepth 100000 in
set_option maxHeartbeats 2000000 in
theorem rsuit_sign (q v sg x : ByteArray) (w : World) (hq : q.size < 999999) (hv : v.size < 999999) (hs : sgn q = (sg, x)) (hk : sg = sLe ∨ sg = sGe ∨ sg = sLt ∨ sg = sGt) : Calls Tryz.prog 93 #[.string q, .string v] w fun e w' => e = .returned (.bool (suitB q v)) ∧ Below w.heap.size w w' := by
  have hx : x.size < 999999 := by have := sgn_size q; rw [hs] at this; simp only at this; omega
  have HSG := hid (rsgn_any q w)
  rw [hs] at HSG
  simp only at HSG
  have HL := hid (fun W => isLess_any v x W hv hx)
  have HM := hid (fun W => isLess_any x v W hx hv)
  have e1 := congrArg Prod.fst hs
  have e2 := congrArg Prod.snd hs
  simp only at e1 e2
  rcases hk with rfl | rfl | rfl | rfl
  · have HZ := hid (suit_le (v := v) e1)
    rw [e2] at HZ
    unfold sLe at HSG
    generalize suitB q v = z at *
    generalize lessB v.data.toList x.data.toList = zl at *
    generalize lessB x.data.toList v.data.toList = zm at *
    clear e1 e2 hs
    go_enter Tryz.func93, Tryz.ntmps93
    go_wp2_with fail
    refine HSG.out.mono ?_
    rintro e w1 ⟨rfl, hb⟩
    have HB1 := hid hb
    clear hb
    go_wp2_with fail
    refine (HL.out w1).mono ?_
    rintro e w2 ⟨rfl, hb⟩
    have HB2 := hid (HB1.out.trans (hb.mono HB1.out.size))
    clear hb
    go_wp2_with fail
    refine (HM.out w2).mono ?_
    rintro e w3 ⟨rfl, hb⟩
    have HB3 := hid (HB2.out.trans (hb.mono HB2.out.size))
    clear hb
    go_wp2_with fail
    go_ret
    exact ⟨ret_bool HZ.out.symm, HB3.out⟩
  · have HZ := hid (suit_ge (v := v) e1)
    rw [e2] at HZ
    unfold sGe at HSG
    generalize suitB q v = z at *
    generalize lessB v.data.toList x.data.toList = zl at *
    generalize lessB x.data.toList v.data.toList = zm at *
    clear e1 e2 hs
    go_enter Tryz.func93, Tryz.ntmps93
    go_wp2_with fail
    refine HSG.out.mono ?_
    rintro e w1 ⟨rfl, hb⟩
    have HB1 := hid hb
    clear hb
    go_wp2_with fail
    refine (HL.out w1).mono ?_
    rintro e w2 ⟨rfl, hb⟩
    have HB2 := hid (HB1.out.trans (hb.mono HB1.out.size))
    clear hb
    go_wp2_with fail
    refine (HM.out w2).mono ?_
    rintro e w3 ⟨rfl, hb⟩
    have HB3 := hid (HB2.out.trans (hb.mono HB2.out.size))
    clear hb
    go_wp2_with fail
    go_ret
    exact ⟨ret_bool HZ.out.symm, HB3.out⟩
  · have HZ := hid (suit_lt (v := v) e1)
    rw [e2] at HZ
    unfold sLt at HSG
    generalize suitB q v = z at *
    generalize lessB v.data.toList x.data.toList = zl at *
    generalize lessB x.data.toList v.data.toList = zm at *
    clear e1 e2 hs
    go_enter Tryz.func93, Tryz.ntmps93
    go_wp2_with fail
    refine HSG.out.mono ?_
    rintro e w1 ⟨rfl, hb⟩
    have HB1 := hid hb
    clear hb
    go_wp2_with fail
    refine (HL.out w1).mono ?_
    rintro e w2 ⟨rfl, hb⟩
    have HB2 := hid (HB1.out.trans (hb.mono HB1.out.size))
    clear hb
    go_wp2_with fail
    refine (HM.out w2).mono ?_
    rintro e w3 ⟨rfl, hb⟩
    have HB3 := hid (HB2.out.trans (hb.mono HB2.out.size))
    clear hb
    go_wp2_with fail
    go_ret
    exact ⟨ret_bool HZ.out.symm, HB3.out⟩
  · have HZ := hid (suit_gt (v := v) e1)
    rw [e2] at HZ
    unfold sGt at HSG
    generalize suitB q v = z at *
    generalize lessB v.data.toList x.data.toList = zl at *
    generalize lessB x.data.toList v.data.toList = zm at *
    clear e1 e2 hs
    go_enter Tryz.func93, Tryz.ntmps93
    go_wp2_with fail
    refine HSG.out.mono ?_
    rintro e w1 ⟨rfl, hb⟩
    have HB1 := hid hb
    clear hb
    go_wp2_with fail
    refine (HL.out w1).mono ?_
    rintro e w2 ⟨rfl, hb⟩
    have HB2 := hid (HB1.out.trans (hb.mono HB1.out.size))
    clear hb
    go_wp2_with fail
    refine (HM.out w2).mono ?_
    rintro e w3 ⟨rfl, hb⟩
    have HB3 := hid (HB2.out.trans (hb.mono HB2.out.size))
    clear hb
    go_wp2_with fail
    go_ret
    exact ⟨ret_bool HZ.out.symm, HB3.out⟩
set_option maxRecDepth 100000 in
set_option maxHeartbeats 2000000 in
theorem rsuit_none (q v : ByteArray) (w : World) (hq : q.size < 999999) (hv : v.size < 999999) (hs : sgn q = (bE, q)) : Calls Tryz.prog 93 #[.string q, .string v] w fun e w' => e = .returned (.bool (suitB q v)) ∧ Below w.heap.size w w' := by
  have HSG := hid (rsgn_any q w)
  rw [hs] at HSG
  simp only at HSG
  have HL := hid (fun W => isLess_any v q W hv hq)
  have HM := hid (fun W => isLess_any q v W hq hv)
  have HV := hid (fun W => isVer_any q W (by omega))
  have HD := hid (fun W => does_any v q W hv (by omega))
  have e1 := congrArg Prod.fst hs
  simp only at e1
  unfold bE at HSG
  by_cases h0 : verErr q.data.toList = 0
  · have HZ := hid (suit_ver (v := v) e1 h0)
    have HQ := hid (show decide (v = q) = (v.toList == q.toList) by
      by_cases h : v = q
      · subst h; simp
      · rw [decide_eq_false h, str_ne h])
    rw [HQ.out] at HZ
    rw [decide_eq_true h0] at HV
    generalize suitB q v = z at *
    clear e1 hs h0 HQ HD
    go_enter Tryz.func93, Tryz.ntmps93
    go_wp2_with fail
    refine HSG.out.mono ?_
    rintro e w1 ⟨rfl, hb⟩
    have HB1 := hid hb
    clear hb
    go_wp2_with fail
    refine (HL.out w1).mono ?_
    rintro e w2 ⟨rfl, hb⟩
    have HB2 := hid (HB1.out.trans (hb.mono HB1.out.size))
    clear hb
    go_wp2_with fail
    refine (HM.out w2).mono ?_
    rintro e w3 ⟨rfl, hb⟩
    have HB3 := hid (HB2.out.trans (hb.mono HB2.out.size))
    clear hb
    go_wp2_with fail
    refine (HV.out w3).mono ?_
    rintro e w4 ⟨rfl, hb⟩
    have HB4 := hid (HB3.out.trans (hb.mono HB3.out.size))
    clear hb
    go_wp2_with fail
    go_ret
    exact ⟨ret_bool HZ.out.symm, HB4.out⟩
  · have HZ := hid (suit_beg (v := v) e1 h0)
    rw [decide_eq_false h0] at HV
    generalize suitB q v = z at *
    generalize beginB v q = y at *
    clear e1 hs h0
    go_enter Tryz.func93, Tryz.ntmps93
    go_wp2_with fail
    refine HSG.out.mono ?_
    rintro e w1 ⟨rfl, hb⟩
    have HB1 := hid hb
    clear hb
    go_wp2_with fail
    refine (HL.out w1).mono ?_
    rintro e w2 ⟨rfl, hb⟩
    have HB2 := hid (HB1.out.trans (hb.mono HB1.out.size))
    clear hb
    go_wp2_with fail
    refine (HM.out w2).mono ?_
    rintro e w3 ⟨rfl, hb⟩
    have HB3 := hid (HB2.out.trans (hb.mono HB2.out.size))
    clear hb
    go_wp2_with fail
    refine (HV.out w3).mono ?_
    rintro e w4 ⟨rfl, hb⟩
    have HB4 := hid (HB3.out.trans (hb.mono HB3.out.size))
    clear hb
    go_wp2_with fail
    refine (HD.out w4).mono ?_
    rintro e w5 ⟨rfl, hb⟩
    have HB5 := hid (HB4.out.trans (hb.mono HB4.out.size))
    clear hb
    go_wp2_with fail
    go_ret
    exact ⟨ret_bool HZ.out.symm, HB5.out⟩
theorem rsuit_any (q v : ByteArray) (w : World) (hq : q.size < 999999) (hv : v.size < 999999) : Calls Tryz.prog 93 #[.string q, .string v] w fun e w' => e = .returned (.bool (suitB q v)) ∧ Below w.heap.size w w' := by
  rcases sgn_kind q with h | h | h | h | ⟨h, h2⟩
  · exact rsuit_sign q v _ _ w hq hv (Prod.ext h rfl) (Or.inl rfl)
  · exact rsuit_sign q v _ _ w hq hv (Prod.ext h rfl) (Or.inr (Or.inl rfl))
  · exact rsuit_sign q v _ _ w hq hv (Prod.ext h rfl) (Or.inr (Or.inr (Or.inl rfl)))
  · exact rsuit_sign q v _ _ w hq hv (Prod.ext h rfl) (Or.inr (Or.inr (Or.inr rfl)))
  · exact rsuit_none q v w hq hv (Prod.ext h h2)
end Ve
end Go.Proofs.YtnkgjddkdikikaaGreatDoor
namespace Go.Proofs.YtnkgjddkdikikaaGreatDoor
open Go.RowKit Go.Maps
namespace Ve
set_option maxRecDepth 100000 in
set_option maxHeartbeats 4000000 in
theorem likedL_any (Q : List Raw) (t : ByteArray) (X : List ByteArray) (v u : Value) (w : World) (hL : Q.length ≤ 1000) (hX : X.length ≤ 1000000) (hok : VerOk Q t X) (hv : EsAt w v Q) (hu : TxAt w u X) :
    Calls Tryz.prog 94 #[v, .string t, u, .bool true] w fun e w' => e = .returned (.string (likNL Q t X X.length).1) ∧ Below w.heap.size w w' := by
  have HRK := hid (fun j (hj : j < X.length) W (h : Below w.heap.size w W) => show Calls Tryz.prog 158 #[v, .string t, .string X[j]] W fun e w' => e = .returned (.int .i64 (rkV Q t X[j] : Nat)) ∧ Below W.heap.size W w' by
    obtain ⟨k, hk, h1, h2, h3, h4, h5⟩ := hok.at_ j hj
    rw [h5]
    exact rank_any Q t X[j] k v W hL h4 hk h1 h2 h3 (hv.below h))
  have HU := hid (fun W (h : Below w.heap.size w W) => hu.below h)
  obtain ⟨va, vc, hv1, -⟩ := id hv
  subst hv1
  obtain ⟨ua, uc, hu1, -⟩ := id hu
  subst hu1
  clear hv hu hok
  go_enter Tryz.func94, Tryz.ntmps94
  go_wp2_with fail
  go_loopw [9, 10, 11] (fun bv rv iv wr => ∃ i : Nat, i ≤ X.length ∧ iv = .int .i64 i ∧ bv = .string (likNL Q t X i).1 ∧ rv = .int .i64 (likNL Q t X i).2 ∧ Hid (Below w.heap.size w wr)) (fun _ _ iv _ => X.length - (intOf iv).toNat)
  case atStart => exact ⟨0, Nat.zero_le _, rfl, rfl, rfl, hid (Below.refl _ _)⟩
  case round =>
    obtain ⟨i, hi, rfl, rfl, rfl, HB⟩ := hrel
    by_cases hlt : i < X.length
    · have hiI := ix_lt hlt
      have hii := ix_pos i
      have HLI := hid hlt
      obtain ⟨b, o, hua, y0⟩ := tx_cellK (HU.out _ HB.out) hlt
      subst hua
      have HRI := hid (HRK.out i hlt wr HB.out)
      have HNX := hid (likNL_next (Q := Q) (t := t) hlt)
      unfold likSL at HNX
      generalize X[i] = x at *
      generalize rkV Q t x = z at *
      obtain ⟨s, hs⟩ : ∃ s, likNL Q t X i = s := ⟨_, rfl⟩
      rw [hs] at HNX ⊢
      obtain ⟨bs, br⟩ := s
      simp only at HNX ⊢
      clear hlt hs
      rcases Int.lt_trichotomy br (z : Int) with hc | hc | hc
      · rw [if_pos hc] at HNX
        go_wp2_with fail
        refine HRI.out.mono ?_
        rintro e w1 ⟨rfl, hb⟩
        have HB1 := hid (HB.out.trans (hb.mono HB.out.size))
        have y1 := cell_below hb y0
        clear hb
        go_wp2_with fail
        go_roundw
        case rel => first | exact ⟨i + 1, HLI.out, nr_idx i, by rw [HNX.out], by rw [HNX.out], HB1⟩ | exact ⟨i + 1, HLI.out, nx_idx HLI.out hX, by rw [HNX.out], by rw [HNX.out], HB1⟩
        case measure => first | exact nr_meas HLI.out | exact nx_meas HLI.out hX
      · subst hc
        rw [if_neg (Int.lt_irrefl _)] at HNX
        have hn1 : ¬ ((z : Nat) : Int) < ((z : Nat) : Int) := Int.lt_irrefl _
        have hn2 : (((z : Nat) : Int) == ((z : Nat) : Int)) = true := beq_self_eq_true _
        go_wp2_with fail
        refine HRI.out.mono ?_
        rintro e w1 ⟨rfl, hb⟩
        have HB1 := hid (HB.out.trans (hb.mono HB.out.size))
        have y1 := cell_below hb y0
        clear hb
        go_wp2_with fail
        go_roundw
        case rel => first | exact ⟨i + 1, HLI.out, nr_idx i, by rw [HNX.out], by rw [HNX.out], HB1⟩ | exact ⟨i + 1, HLI.out, nx_idx HLI.out hX, by rw [HNX.out], by rw [HNX.out], HB1⟩
        case measure => first | exact nr_meas HLI.out | exact nx_meas HLI.out hX
      · rw [if_neg (Int.not_lt.2 (Int.le_of_lt hc))] at HNX
        have hn1 : ¬ br < ((z : Nat) : Int) := Int.not_lt.2 (Int.le_of_lt hc)
        have hn2 : (((z : Nat) : Int) == br) = false := by rw [beq_eq_false_iff_ne]; exact Int.ne_of_lt hc
        have hn3 : ¬ ((z : Nat) : Int) = br := Int.ne_of_lt hc
        go_wp2_with fail
        refine HRI.out.mono ?_
        rintro e w1 ⟨rfl, hb⟩
        have HB1 := hid (HB.out.trans (hb.mono HB.out.size))
        clear hb
        go_wp2_with fail
        go_roundw
        case rel => first | exact ⟨i + 1, HLI.out, nr_idx i, by rw [HNX.out], by rw [HNX.out], HB1⟩ | exact ⟨i + 1, HLI.out, nx_idx HLI.out hX, by rw [HNX.out], by rw [HNX.out], HB1⟩
        case measure => first | exact nr_meas HLI.out | exact nx_meas HLI.out hX
    · have hiI := ix_nlt hlt
      have hie : i = X.length := Nat.le_antisymm hi (Nat.le_of_not_lt hlt)
      subst hie
      clear hlt
      go_wp2_with fail
      go_ret
      exact ⟨rfl, HB.out⟩
end Ve
end Go.Proofs.YtnkgjddkdikikaaGreatDoor
namespace Go.Proofs.YtnkgjddkdikikaaGreatDoor
open Go.RowKit Go.Maps
namespace Ve
theorem someQ_next {q now : ByteArray} {X : List ByteArray} {i : Nat} (h : i < X.length) : someQ q now (X.take (i + 1)) = if okQ q now X[i] then someQ q now (X.take i) ++ [X[i]] else someQ q now (X.take i) := by
  unfold someQ
  rw [List.take_succ_eq_append_getElem h, List.filter_append]
  cases e : okQ q now X[i] <;> simp [e]
theorem someQ_len (q now : ByteArray) (X : List ByteArray) : (someQ q now X).length ≤ X.length := List.length_filter_le _ _
theorem verOk_some {Q : List Raw} {t q now : ByteArray} {X : List ByteArray} (h : VerOk Q t X) : VerOk Q t (someQ q now X) := ⟨fun j hj => by
  obtain ⟨i, hi, e⟩ := List.getElem_of_mem (List.mem_filter.1 (List.getElem_mem (l := someQ q now X) hj)).1
  have := h.at_ i hi
  rw [e] at this
  exact this⟩
end Ve
end Go.Proofs.YtnkgjddkdikikaaGreatDoor
