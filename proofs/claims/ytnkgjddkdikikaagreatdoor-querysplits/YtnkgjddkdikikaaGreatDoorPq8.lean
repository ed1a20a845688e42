/-
  Shelf SameT BgA VerO OrdF OrdE
-/
import Derived.Shelf.Strings.Builder1
import Derived.Shelf.Strings.Builder2
import Derived.Shelf.Strings.OnBuilder
import Derived.Shelf.Strings.Trim
import Derived.Shelf.Small.Utf8
import Derived.Shelf.Small.Bits
import Derived.Shelf.Small.Strs
import Derived.Shelf.Small.Wraps
import Derived.Shelf.Strconv.Itoa0
import Derived.Shelf.Strconv.Itoa1
import Derived.Shelf.LaysM
import Derived.Shelf.Strconv.Itoa2
import Derived.Shelf.Strconv.Itoa3
import Derived.Shelf.Strings.Search1
import Derived.Shelf.Strings.Search2
import Derived.Shelf.Strings.Search3
import Derived.Shelf.Strings.Cut
import Derived.Shelf.Strings.Count
import Derived.Shelf.Strings.Shaped
import Derived.Shelf.Sort.Plain
import Derived.Shelf.Strings.Prefix
import Derived.Shelf.Strings.Split
import Derived.Shelf.Strings.Runes
import Derived.Shelf.Strings.AsciiSet
import Derived.Shelf.Unicode.DecodeSlow
import Derived.Shelf.Unicode.DecodeAny
import Derived.Shelf.Slices.Turned
import Derived.Shelf.Slices.Equal
import Derived.Shelf.Slices.CompactS
import Derived.Ground.Names2Prog
import Derived.Shelf.Slices.SearchI
import Derived.Shelf.Slices.Cells
import Derived.Shelf.Slices.In.SortNone
import Derived.Shelf.Slices.Empties2
import Derived.Test.YtnkgjddkdikikaaGreatDoorProg
import Derived.Test.YtnkgjddkdikikaaGreatDoorPq2
import Derived.Test.YtnkgjddkdikikaaGreatDoorPq5
import Derived.Test.YtnkgjddkdikikaaGreatDoorPq3
import Derived.Test.YtnkgjddkdikikaaGreatDoorPq4
import Derived.Test.YtnkgjddkdikikaaGreatDoorPq7
import Derived.Test.YtnkgjddkdikikaaGreatDoorPq10
import Derived.Test.YtnkgjddkdikikaaGreatDoorPq13
import Derived.Test.YtnkgjddkdikikaaGreatDoorPq23
namespace Go.Proofs
open Go.Shelf
def Tryz.lays99_ren : Go.Shelf.Ren := ⟨fun | 99 => 80 | 206 => 151 | n => n, fun | 9 => 9 | 4 => 4 | 3 => 3 | n => n, fun | n => n⟩
theorem Tryz.lays99 : Go.Proofs.Lays.n99 Tryz.prog Tryz.lays99_ren := {
  mixed := by kernel_rfl
  f99 := Tryz.func80.trans (congrArg some (by kernel_rfl))
  f206 := Tryz.func151.trans (congrArg some (by kernel_rfl))
  t3 := Tryz.underlying3
  a3 := Tryz.isAgg3
  z3 := Tryz.sizeOf3
  v3 := Tryz.zeroValue3
  t4 := Tryz.underlying4
  a4 := Tryz.isAgg4
  z4 := Tryz.sizeOf4
  v4 := Tryz.zeroValue4
  t9 := Tryz.underlying9
  a9 := Tryz.isAgg9
  z9 := Tryz.sizeOf9
  v9 := Tryz.zeroValue9 }
open Go.RowKit Go.Lib in
theorem Tryz.strings_HasPrefix (s p : ByteArray) (w : World) :
    Calls Tryz.prog 80 #[.string s, .string p] w fun e w' => e = .returned (.bool (Lib.hasPrefix s.data.toList p.data.toList)) ∧ w' = w := Any.strings_HasPrefix Tryz.lays99 s p w
def Tryz.lays111_ren : Go.Shelf.Ren := ⟨fun | 111 => 204 | n => n, fun | 28 => 99 | 3 => 3 | 4 => 4 | 0 => 0 | n => n, fun | n => n⟩
theorem Tryz.lays111 : Go.Proofs.Lays.n111 Tryz.prog Tryz.lays111_ren := {
  mixed := by kernel_rfl
  f111 := Tryz.func204.trans (congrArg some (by kernel_rfl))
  t0 := Tryz.underlying0
  a0 := Tryz.isAgg0
  z0 := Tryz.sizeOf0
  v0 := Tryz.zeroValue0
  t3 := Tryz.underlying3
  a3 := Tryz.isAgg3
  z3 := Tryz.sizeOf3
  v3 := Tryz.zeroValue3
  t4 := Tryz.underlying4
  a4 := Tryz.isAgg4
  z4 := Tryz.sizeOf4
  v4 := Tryz.zeroValue4
  t28 := Tryz.underlying99
  a28 := Tryz.isAgg99
  z28 := Tryz.sizeOf99
  v28 := Tryz.zeroValue99 }
open Go.RowKit Go.Lib in
theorem Tryz.slices_Equal_int (b1 o1 n c b2 o2 m d : Nat) (xs ys : List Int) (w : World) (hx : n ≤ xs.length) (hy : m ≤ ys.length) (hbig : n ≤ 9223372036854775807) (hbig2 : m ≤ 9223372036854775807) (hc1 : ∀ j, j < xs.length → w.cell? ⟨b1, o1 + j, none⟩ = some (.int .i64 (xs.getD j 0))) (hc2 : ∀ j, j < ys.length → w.cell? ⟨b2, o2 + j, none⟩ = some (.int .i64 (ys.getD j 0))) :
    Calls Tryz.prog 204 #[.slice (some ⟨b1, o1, none⟩) n c, .slice (some ⟨b2, o2, none⟩) m d] w fun e w' => e = .returned (.bool (xs.take n == ys.take m)) ∧ ∃ q, w' = w.drewN q := Any.slices_Equal_int Tryz.lays111 b1 o1 n c b2 o2 m d xs ys w hx hy hbig hbig2 hc1 hc2
end Go.Proofs
namespace Go.Proofs.YtnkgjddkdikikaaGreatDoor
open Go.RowKit
namespace Ve
theorem owned_slice {w : World} {base n : Nat} {e : TypeId} {v : Value} {xs : List Value} (h : w.ownsRow base e 1 v n xs) : ∃ a n c, v = .slice a n c := by
  obtain ⟨_, ⟨hv, _⟩ | ⟨g', cap', cur, hv, _⟩⟩ := h
  · exact ⟨_, _, _, hv⟩
  · exact ⟨_, _, _, hv⟩
end Ve
end Go.Proofs.YtnkgjddkdikikaaGreatDoor
namespace Go.Proofs.YtnkgjddkdikikaaGreatDoor
open Go.RowKit
namespace Ve
def begB (s h : ByteArray) : Bool := Lib.hasPrefix s.data.toList h.data.toList
end Ve
end Go.Proofs.YtnkgjddkdikikaaGreatDoor
namespace Go.Proofs.YtnkgjddkdikikaaGreatDoor
open Go.RowKit
namespace Ve
theorem dig_of {n : Nat} (h : n < 10) : dig (UInt8.ofNat (48 + n)) = true := by
  have : (UInt8.ofNat (48 + n)).toNat = 48 + n := by simp [UInt8.toNat_ofNat']; omega
  simp only [dig, digB, this, decide_eq_true_eq]
  omega
theorem dec_dig (u : Nat) : (Lib.decDigits u).all dig = true := by
  induction u using Nat.strongRecOn with
  | _ u ih =>
    by_cases h : u < 10
    · rw [Lib.decDigits_one h, List.all_cons, dig_of h]; rfl
    · rw [dec_big h, all_snoc, ih _ (by omega), dig_of (by omega)]; rfl
theorem all_no {f : UInt8 → Bool} {l : List UInt8} {c : UInt8} (h : l.all f = true) (hc : f c = false) : l.contains c = false := by
  cases hl : l.contains c
  · rfl
  · have := List.all_eq_true.1 h c (by simpa using hl)
    rw [hc] at this; cases this
theorem itoa_no (a : Int) (h0 : 0 ≤ a) (c : UInt8) (hc : dig c = false) : (Lib.itoa a).contains c = false := by rw [itoa_dec a h0]; exact all_no (dec_dig _) hc
end Ve
end Go.Proofs.YtnkgjddkdikikaaGreatDoor
namespace Go.Proofs.YtnkgjddkdikikaaGreatDoor
open Go.RowKit
namespace Ve
def headOf (h : List UInt8) : List (List UInt8) := cutAt 46 (restOf h)
def headOk (h : List UInt8) : Bool := marked h && (decide (numsErr (headOf h) = 0) && decide ((headOf h).length ≤ 2))
def beginB (s h : ByteArray) : Bool :=
  decide (verErr s.data.toList = 0) && (decide (h = s) || headOk h.data.toList && (numsOf (headOf h.data.toList) == [nAt s.data.toList 0, nAt s.data.toList 1].take (headOf h.data.toList).length))
def headErr (l : List UInt8) : Nat := if marked l = false ∨ 2 < (headOf l).length then 1 else numsErr (headOf l)
theorem headErr_one {l : List UInt8} (h : marked l = false ∨ 2 < (headOf l).length) : (1 : Int) = ((headErr l : Nat) : Int) := by unfold headErr; rw [if_pos h]; rfl
theorem headErr_nums {l : List UInt8} (h1 : marked l = true) (h2 : ¬ 2 < (headOf l).length) : headErr l = numsErr (headOf l) := by
  unfold headErr
  rw [if_neg]
  rintro (h | h)
  · rw [h1] at h; cases h
  · exact h2 h
theorem headErr_ok {l : List UInt8} (h : headOk l = true) : headErr l = 0 := by
  unfold headOk at h
  rw [Bool.and_eq_true, Bool.and_eq_true] at h
  rw [headErr_nums h.1 (by have := of_decide_eq_true h.2.2; omega)]
  exact of_decide_eq_true h.2.1
theorem str_eq (a : ByteArray) : (a.toList == a.toList) = true := by simp
theorem begins_bad (s h : ByteArray) (w : World) (hA : Calls Tryz.prog 20 #[.string s] w fun e w' => BadP w w' e) :
    Calls Tryz.prog 150 #[.string s, .string h] w fun e w' => e = .returned (.bool false) ∧ Below w.heap.size w w' := by
  have HA := hid hA
  clear hA
  go_enter Tryz.func150, Tryz.ntmps150
  go_wp2_with fail
  refine HA.out.mono ?_
  rintro e w1 ⟨a, rfl, hb1⟩
  have HB := hid hb1
  clear hb1
  go_wp2_with fail
  go_ret
  exact ⟨rfl, HB.out.alloc HB.out.size _⟩
theorem begins_same (x y z : Int) (X : List ByteArray) (s : ByteArray) (w : World) (hA : Calls Tryz.prog 20 #[.string s] w fun e w' => GoodP w w' e x y z X) :
    Calls Tryz.prog 150 #[.string s, .string s] w fun e w' => e = .returned (.bool true) ∧ Below w.heap.size w w' := by
  have HA := hid hA
  have he := str_eq s
  clear hA
  go_enter Tryz.func150, Tryz.ntmps150
  go_wp2_with fail
  refine HA.out.mono ?_
  rintro e w1 ⟨v, rfl, hst, hb1⟩
  obtain ⟨pa, na, ca, rfl⟩ := hst.slice
  have HB := hid hb1
  clear hb1 hst
  go_wp2_with fail
  go_ret
  exact ⟨rfl, HB.out.alloc HB.out.size _⟩
theorem owned_int {w : World} {base : Nat} {v : Value} {xs : List Int} (h : w.ownsRow base 3 1 v xs.length (xs.map (Value.int .i64))) (hx : xs ≠ []) :
    ∃ g cap, v = .slice (some ⟨g, 0, none⟩) xs.length cap ∧ base ≤ g ∧ g < w.heap.size ∧ ∀ j, j < xs.length → w.cell? ⟨g, 0 + j, none⟩ = some (.int .i64 (xs.getD j 0)) := by
  obtain ⟨hl, ⟨_, h1⟩ | ⟨g, cap, cur, e1, e2, e3, e4, e5, e6, e7⟩⟩ := h
  · exact absurd (List.length_eq_zero_iff.1 h1) hx
  · refine ⟨g, cap, e1, e2, lt_of_blk e3, fun j hj => ?_⟩
    have hc : cur[j]? = some (.int .i64 (xs.getD j 0)) := by
      have h3 : (cur.toList.take (xs.length * 1))[j]? = cur[j]? := by
        rw [List.getElem?_take_of_lt (by omega)]; simp
      rw [← h3, e7, List.getElem?_map, List.getElem?_eq_getElem hj, List.getD_eq_getElem?_getD, List.getElem?_eq_getElem hj]; rfl
    simp [World.cell?, e3, hc]
theorem headOf_pos (l : List UInt8) : 0 < (headOf l).length := List.length_pos_iff.2 (cutAt_ne 46 _)
theorem headErr_no {l : List UInt8} (h : headOk l = false) : headErr l ≠ 0 := by
  unfold headErr
  split
  · decide
  · rename_i hc
    intro e
    unfold headOk at h
    have hm : marked l = true := by
      cases e : marked l
      · exact absurd (Or.inl e) hc
      · rfl
    rw [hm, decide_eq_true e, decide_eq_true (show (headOf l).length ≤ 2 from Nat.le_of_not_lt fun h => hc (Or.inr h))] at h
    cases h
theorem headErr_err (l : List UInt8) : headErr l = 0 ∨ headErr l = 1 ∨ headErr l = 2 := by
  unfold headErr
  split
  · exact Or.inr (Or.inl rfl)
  · exact numsErr_err _
set_option maxHeartbeats 1000000 in
theorem rhead_unmarked (h : ByteArray) (aT aB : Addr) (m : Int) (w : World) (hh : h.size < 4294967281) (S : Vs w aT aB m) (hm : marked h.data.toList = false) :
    Calls Tryz.prog 153 #[.string h] w fun e w' => e = .returned (.tuple #[.slice none 0 0, errV aT aB 1]) ∧ Below w.heap.size w w' := by
  have HM := hid hm
  have HS := hid S
  clear hm S
  go_enter Tryz.func153, Tryz.ntmps153
  go_wp2_with fail
  refine (cutPrefix_any h _).mono ?_
  rintro e w' ⟨R, rfl, hR, rfl⟩
  rw [HM.out]
  have hRs : R.size < 4294967281 := by
    have h1 := size_of hR
    have h2 := restOf_le h.data.toList
    simp at h2; omega
  clear hR
  go_wp2_with fail
  refine (nums_any R aT aB m _ hRs HS.out).mono ?_
  rintro e w2 ⟨v, rfl, hown, hb2⟩
  have HB := hid hb2
  have g := (HS.out.below hb2).t
  obtain ⟨pn, nn, cn, rfl⟩ := owned_slice hown
  clear hown hb2
  have HE := hid (numsErr_err (cutAt 46 R.data.toList))
  rcases HE.out with h0 | h0 | h0
  · rw [h0, errV0]
    clear h0
    go_wp2_with fail
    go_region_with fail
    all_goals
      go_wp2_with fail
      go_ret2
      exact ⟨rfl, below_drew HB.out _⟩
  · rw [h0, errV1]
    clear h0
    go_wp2_with fail
    go_region_with fail
    all_goals
      go_wp2_with fail
      go_ret2
      exact ⟨rfl, below_drew HB.out _⟩
  · rw [h0, errV2]
    clear h0
    go_wp2_with fail
    go_region_with fail
    all_goals
      go_wp2_with fail
      go_ret2
      exact ⟨rfl, below_drew HB.out _⟩
set_option maxHeartbeats 1000000 in
theorem rhead_long (h : ByteArray) (aT aB : Addr) (m : Int) (w : World) (hh : h.size < 4294967281) (S : Vs w aT aB m) (hm : marked h.data.toList = true) (hl : 2 < (headOf h.data.toList).length) :
    Calls Tryz.prog 153 #[.string h] w fun e w' => e = .returned (.tuple #[.slice none 0 0, errV aT aB 1]) ∧ Below w.heap.size w w' := by
  have HM := hid hm
  have HS := hid S
  have hl2 : decide (2 < ((headOf h.data.toList).length : Int)) = true := decide_eq_true (by omega)
  have hl3 : 2 < ((headOf h.data.toList).length : Int) := by omega
  have hn0 : headOf h.data.toList ≠ [] := by intro e; rw [e] at hl; simp at hl
  clear hm S hl
  go_enter Tryz.func153, Tryz.ntmps153
  go_wp2_with fail
  refine (cutPrefix_any h _).mono ?_
  rintro e w' ⟨R, rfl, hR, rfl⟩
  rw [HM.out]
  have HR := hid hR
  have hRs : R.size < 4294967281 := by
    have h1 := size_of hR
    have h2 := restOf_le h.data.toList
    simp at h2; omega
  clear hR
  go_wp2_with fail
  refine (nums_any R aT aB m _ hRs HS.out).mono ?_
  rintro e w2 ⟨v, rfl, hown, hb2⟩
  have hCC : cutAt 46 R.data.toList = headOf h.data.toList := by rw [HR.out]; rfl
  rw [hCC] at hown ⊢
  have HB := hid hb2
  have g := (HS.out.below hb2).t
  obtain ⟨gn, cn, rfl⟩ : ∃ g c, v = .slice (some ⟨g, 0, none⟩) (headOf h.data.toList).length c := by
    obtain ⟨_, ⟨_, hz⟩ | ⟨g, cap, cur, e1, _⟩⟩ := hown
    · exact absurd (List.length_eq_zero_iff.1 hz) hn0
    · exact ⟨g, cap, e1⟩
  clear hown hb2 hCC hn0
  have HE := hid (numsErr_err (headOf h.data.toList))
  generalize (headOf h.data.toList).length = n at *
  rcases HE.out with h0 | h0 | h0
  · rw [h0, errV0]
    clear h0
    go_wp2_with fail
    go_region_with fail
    all_goals
      go_wp2_with fail
      go_ret2
      exact ⟨rfl, below_drew HB.out _⟩
  · rw [h0, errV1]
    clear h0
    go_wp2_with fail
    go_region_with fail
    all_goals
      go_wp2_with fail
      go_ret2
      exact ⟨rfl, below_drew HB.out _⟩
  · rw [h0, errV2]
    clear h0
    go_wp2_with fail
    go_region_with fail
    all_goals
      go_wp2_with fail
      go_ret2
      exact ⟨rfl, below_drew HB.out _⟩
set_option maxHeartbeats 1000000 in
theorem rhead_err (h : ByteArray) (aT aB : Addr) (m : Int) (w : World) (hh : h.size < 4294967281) (S : Vs w aT aB m) (hm : marked h.data.toList = true) (hl : ¬ 2 < (headOf h.data.toList).length) (he : numsErr (headOf h.data.toList) ≠ 0) :
    Calls Tryz.prog 153 #[.string h] w fun e w' => e = .returned (.tuple #[.slice none 0 0, errV aT aB (numsErr (headOf h.data.toList))]) ∧ Below w.heap.size w w' := by
  have HM := hid hm
  have HS := hid S
  obtain ⟨a9, ha9⟩ := errV_ne aT aB he
  have HE := hid ha9
  have hl2 : decide (2 < ((headOf h.data.toList).length : Int)) = false := decide_eq_false (by omega)
  have hl3 : ¬ 2 < ((headOf h.data.toList).length : Int) := by omega
  have hn0 : headOf h.data.toList ≠ [] := List.length_pos_iff.1 (headOf_pos _)
  clear hm S hl he ha9
  go_enter Tryz.func153, Tryz.ntmps153
  go_wp2_with fail
  refine (cutPrefix_any h _).mono ?_
  rintro e w' ⟨R, rfl, hR, rfl⟩
  rw [HM.out]
  have HR := hid hR
  have hRs : R.size < 4294967281 := by
    have h1 := size_of hR
    have h2 := restOf_le h.data.toList
    simp at h2; omega
  clear hR
  go_wp2_with fail
  refine (nums_any R aT aB m _ hRs HS.out).mono ?_
  rintro e w2 ⟨v, rfl, hown, hb2⟩
  have hCC : cutAt 46 R.data.toList = headOf h.data.toList := by rw [HR.out]; rfl
  rw [hCC] at hown ⊢
  have HB := hid hb2
  obtain ⟨gn, cn, rfl⟩ : ∃ g c, v = .slice (some ⟨g, 0, none⟩) (headOf h.data.toList).length c := by
    obtain ⟨_, ⟨_, hz⟩ | ⟨g, cap, cur, e1, _⟩⟩ := hown
    · exact absurd (List.length_eq_zero_iff.1 hz) hn0
    · exact ⟨g, cap, e1⟩
  clear hown hb2 hCC hn0
  rw [HE.out]
  generalize (headOf h.data.toList).length = n at *
  go_wp2_with fail
  go_ret2
  exact ⟨by rw [HE.out]; rfl, HB.out⟩
set_option maxHeartbeats 1000000 in
theorem rhead_good (h : ByteArray) (aT aB : Addr) (m : Int) (w : World) (hh : h.size < 4294967281) (S : Vs w aT aB m) (hm : marked h.data.toList = true) (hl : ¬ 2 < (headOf h.data.toList).length) (he : numsErr (headOf h.data.toList) = 0) :
    Calls Tryz.prog 153 #[.string h] w fun e w' => ∃ v, e = .returned (.tuple #[v, .nilIface]) ∧ w'.ownsRow w.heap.size 3 1 v (headOf h.data.toList).length ((numsOf (headOf h.data.toList)).map (Value.int .i64)) ∧ Below w.heap.size w w' := by
  have HM := hid hm
  have HS := hid S
  have HE := hid (show errV aT aB (numsErr (headOf h.data.toList)) = .nilIface by rw [he]; rfl)
  have hl2 : decide (2 < ((headOf h.data.toList).length : Int)) = false := decide_eq_false (by omega)
  have hl3 : ¬ 2 < ((headOf h.data.toList).length : Int) := by omega
  have hn0 : headOf h.data.toList ≠ [] := List.length_pos_iff.1 (headOf_pos _)
  clear hm S hl he
  go_enter Tryz.func153, Tryz.ntmps153
  go_wp2_with fail
  refine (cutPrefix_any h _).mono ?_
  rintro e w' ⟨R, rfl, hR, rfl⟩
  rw [HM.out]
  have HR := hid hR
  have hRs : R.size < 4294967281 := by
    have h1 := size_of hR
    have h2 := restOf_le h.data.toList
    simp at h2; omega
  clear hR
  go_wp2_with fail
  refine (nums_any R aT aB m _ hRs HS.out).mono ?_
  rintro e w2 ⟨v, rfl, hown, hb2⟩
  have hCC : cutAt 46 R.data.toList = headOf h.data.toList := by rw [HR.out]; rfl
  rw [hCC] at hown ⊢
  have HB := hid hb2
  have HO := hid hown
  obtain ⟨gn, cn, hv⟩ : ∃ g c, v = .slice (some ⟨g, 0, none⟩) (headOf h.data.toList).length c := by
    obtain ⟨_, ⟨_, hz⟩ | ⟨g, cap, cur, e1, _⟩⟩ := hown
    · exact absurd (List.length_eq_zero_iff.1 hz) hn0
    · exact ⟨g, cap, e1⟩
  subst hv
  clear hown hb2 hCC hn0
  rw [HE.out]
  obtain ⟨n, hn⟩ : ∃ n, (headOf h.data.toList).length = n := ⟨_, rfl⟩
  have HN := hid hn
  rw [hn] at HO hl2 hl3 ⊢
  clear hn
  go_wp2_with fail
  go_ret2
  exact ⟨_, rfl, by rw [HN.out]; exact HO.out, HB.out⟩
theorem rhead_any (h : ByteArray) (aT aB : Addr) (m : Int) (w : World) (hh : h.size < 4294967281) (S : Vs w aT aB m) :
    Calls Tryz.prog 153 #[.string h] w fun e w' => ((headOk h.data.toList = false ∧ e = .returned (.tuple #[.slice none 0 0, errV aT aB (headErr h.data.toList)])) ∨
      (headOk h.data.toList = true ∧ ∃ v, e = .returned (.tuple #[v, .nilIface]) ∧ w'.ownsRow w.heap.size 3 1 v (headOf h.data.toList).length ((numsOf (headOf h.data.toList)).map (Value.int .i64)))) ∧ Below w.heap.size w w' := by
  cases hm : marked h.data.toList
  · refine (rhead_unmarked h aT aB m w hh S hm).mono fun e w' ⟨h1, h2⟩ => ⟨Or.inl ⟨by unfold headOk; rw [hm]; rfl, ?_⟩, h2⟩
    rw [h1]; unfold headErr; rw [if_pos (Or.inl hm)]
  · by_cases hl : 2 < (headOf h.data.toList).length
    · refine (rhead_long h aT aB m w hh S hm hl).mono fun e w' ⟨h1, h2⟩ => ⟨Or.inl ⟨?_, ?_⟩, h2⟩
      · unfold headOk; rw [decide_eq_false (show ¬ (headOf h.data.toList).length ≤ 2 by omega), Bool.and_false, Bool.and_false]
      · rw [h1]; unfold headErr; rw [if_pos (Or.inr hl)]
    · by_cases he : numsErr (headOf h.data.toList) = 0
      · refine (rhead_good h aT aB m w hh S hm hl he).mono fun e w' ⟨v, h1, h2, h3⟩ => ⟨Or.inr ⟨?_, v, h1, h2⟩, h3⟩
        unfold headOk; rw [hm, decide_eq_true he, decide_eq_true (show (headOf h.data.toList).length ≤ 2 by omega)]; rfl
      · refine (rhead_err h aT aB m w hh S hm hl he).mono fun e w' ⟨h1, h2⟩ => ⟨Or.inl ⟨?_, ?_⟩, h2⟩
        · unfold headOk; rw [decide_eq_false he, Bool.false_and, Bool.and_false]
        · rw [h1, headErr_nums hm hl]
theorem chead_any (h : ByteArray) (aT aB : Addr) (m : Int) (w : World) (hh : h.size < 4294967281) (S : Vs w aT aB m) :
    Calls Tryz.prog 85 #[.string h] w fun e w' => e = .returned (errV aT aB (headErr h.data.toList)) ∧ Below w.heap.size w w' := by
  have HR := hid (rhead_any h aT aB m w hh S)
  clear S
  go_enter Tryz.func85, Tryz.ntmps85
  go_wp2_with fail
  refine HR.out.mono ?_
  rintro e w1 ⟨h1, hb⟩
  have HB := hid hb
  clear hb
  rcases h1 with ⟨h0, rfl⟩ | ⟨h0, v, rfl, hown⟩
  · obtain ⟨a, ha⟩ := errV_ne aT aB (headErr_no h0)
    have HE := hid ha
    rw [ha]
    clear h0 ha
    go_wp2_with fail
    go_ret
    exact ⟨by rw [HE.out]; rfl, HB.out⟩
  · obtain ⟨pn, nn, cn, rfl⟩ := owned_slice hown
    have HE := hid (show errV aT aB (headErr h.data.toList) = .nilIface by rw [headErr_ok h0]; rfl)
    clear h0 hown
    go_wp2_with fail
    go_ret
    exact ⟨by rw [HE.out]; rfl, HB.out⟩
set_option maxHeartbeats 1000000 in
theorem begins_no (x y z : Int) (X : List ByteArray) (s h : ByteArray) (aT aB : Addr) (m : Int) (w : World) (hh : h.size < 4294967281) (S : Vs w aT aB m) (hA : Calls Tryz.prog 20 #[.string s] w fun e w' => GoodP w w' e x y z X) (hne : (h.toList == s.toList) = false) (hk : headOk h.data.toList = false) :
    Calls Tryz.prog 150 #[.string s, .string h] w fun e w' => e = .returned (.bool false) ∧ Below w.heap.size w w' := by
  obtain ⟨a9, ha9⟩ := errV_ne aT aB (headErr_no hk)
  have HE := hid ha9
  have HK := hid hk
  clear ha9 hk
  have HA := hid hA
  have HS := hid S
  clear hA S
  go_enter Tryz.func150, Tryz.ntmps150
  go_wp2_with fail
  refine HA.out.mono ?_
  rintro e w1 ⟨v, rfl, hst, hb1⟩
  obtain ⟨pa, na, ca, rfl⟩ := hst.slice
  have HB1 := hid hb1
  have HBA := hid ((Below.refl w1.heap.size w1).alloc (Nat.le_refl _) (.cells #[.int .i64 x, .int .i64 y, .int .i64 z, .slice pa na ca] 37))
  have HS1 := hid ((HS.out.below hb1).below HBA.out)
  clear hb1 hst
  go_wp2_with fail
  refine (rhead_any h aT aB m _ hh HS1.out).mono ?_
  rintro e w2 ⟨h1, hb2⟩
  have HB12 := hid (HBA.out.trans (hb2.mono (by simp)))
  have HB3 := hid (HB1.out.trans (HB12.out.mono HB1.out.size))
  clear hb2
  rcases h1 with ⟨_, rfl⟩ | ⟨h0, _⟩
  · rw [HE.out]
    go_wp2_with fail
    go_ret
    exact ⟨rfl, HB3.out⟩
  · rw [HK.out] at h0; cases h0
set_option maxHeartbeats 1000000 in
theorem begins_1 (x y z : Int) (X : List ByteArray) (s h : ByteArray) (aT aB : Addr) (m : Int) (w : World) (hh : h.size < 4294967281) (S : Vs w aT aB m) (hA : Calls Tryz.prog 20 #[.string s] w fun e w' => GoodP w w' e x y z X) (hne : (h.toList == s.toList) = false) (hk : headOk h.data.toList = true) (hl : (headOf h.data.toList).length = 1) (a : Int) (hx : numsOf (headOf h.data.toList) = [a]) :
    Calls Tryz.prog 150 #[.string s, .string h] w fun e w' => e = .returned (.bool ([a] == [x, y].take 1)) ∧ Below w.heap.size w w' := by
  have HK := hid hk
  have HLN := hid hl
  have HX := hid hx
  clear hk hl hx
  have HA := hid hA
  have HS := hid S
  clear hA S
  go_enter Tryz.func150, Tryz.ntmps150
  go_wp2_with fail
  refine HA.out.mono ?_
  rintro e w1 ⟨v, rfl, hst, hb1⟩
  obtain ⟨pa, na, ca, rfl⟩ := hst.slice
  have HB1 := hid hb1
  have HBA := hid ((Below.refl w1.heap.size w1).alloc (Nat.le_refl _) (.cells #[.int .i64 x, .int .i64 y, .int .i64 z, .slice pa na ca] 37))
  have HS1 := hid ((HS.out.below hb1).below HBA.out)
  clear hb1 hst
  go_wp2_with fail
  refine (rhead_any h aT aB m _ hh HS1.out).mono ?_
  rintro e w2 ⟨h1, hb2⟩
  obtain ⟨⟨r0, r1, r2, r3⟩, rf, rz⟩ := res4 (hb2.mono (by simp))
  have HB12 := hid (HBA.out.trans (hb2.mono (by simp)))
  have HB3 := hid (HB1.out.trans (HB12.out.mono HB1.out.size))
  clear hb2
  rcases h1 with ⟨h0, _⟩ | ⟨_, v, rfl, hown⟩
  · rw [HK.out] at h0; cases h0
  rw [HLN.out, HX.out] at hown
  obtain ⟨g, cap, rfl, hg1, hg2, hgc⟩ := owned_int (xs := [a]) hown (by simp)
  have HGC := hid hgc
  have HG := hid hg2
  have HBN := hid ((Below.refl w2.heap.size w2).alloc (Nat.le_refl _) (.cells #[.int .i64 x, .int .i64 y] 3))
  clear hown hgc hg1 hg2
  go_wp2_with fail
  refine (Tryz.slices_Equal_int g 0 1 cap w2.heap.size 0 1 2 [a] [x, y] _ (by simp) (by simp) (by omega) (by omega) ?_ ?_).mono ?_
  · intro j hj
    have := HGC.out j hj
    exact cell_below HBN.out this
  · intro j hj
    rw [World.cell?_alloc_at _ _ _ _ rfl]
    match j, hj with
    | 0, _ => rfl
    | 1, _ => rfl
  rintro e w3 ⟨rfl, q, rfl⟩
  generalize hq : (List.take 1 [a] == List.take 1 [x, y]) = bq
  have HQ := hid hq
  clear hq
  go_wp2_with fail
  go_ret
  exact ⟨ret_bool (by rw [← HQ.out]; rfl), below_drew (HB3.out.trans (HBN.out.mono HB3.out.size)) _⟩
set_option maxHeartbeats 1000000 in
theorem begins_2 (x y z : Int) (X : List ByteArray) (s h : ByteArray) (aT aB : Addr) (m : Int) (w : World) (hh : h.size < 4294967281) (S : Vs w aT aB m) (hA : Calls Tryz.prog 20 #[.string s] w fun e w' => GoodP w w' e x y z X) (hne : (h.toList == s.toList) = false) (hk : headOk h.data.toList = true) (hl : (headOf h.data.toList).length = 2) (a b : Int) (hx : numsOf (headOf h.data.toList) = [a, b]) :
    Calls Tryz.prog 150 #[.string s, .string h] w fun e w' => e = .returned (.bool ([a, b] == [x, y].take 2)) ∧ Below w.heap.size w w' := by
  have HK := hid hk
  have HLN := hid hl
  have HX := hid hx
  clear hk hl hx
  have HA := hid hA
  have HS := hid S
  clear hA S
  go_enter Tryz.func150, Tryz.ntmps150
  go_wp2_with fail
  refine HA.out.mono ?_
  rintro e w1 ⟨v, rfl, hst, hb1⟩
  obtain ⟨pa, na, ca, rfl⟩ := hst.slice
  have HB1 := hid hb1
  have HBA := hid ((Below.refl w1.heap.size w1).alloc (Nat.le_refl _) (.cells #[.int .i64 x, .int .i64 y, .int .i64 z, .slice pa na ca] 37))
  have HS1 := hid ((HS.out.below hb1).below HBA.out)
  clear hb1 hst
  go_wp2_with fail
  refine (rhead_any h aT aB m _ hh HS1.out).mono ?_
  rintro e w2 ⟨h1, hb2⟩
  obtain ⟨⟨r0, r1, r2, r3⟩, rf, rz⟩ := res4 (hb2.mono (by simp))
  have HB12 := hid (HBA.out.trans (hb2.mono (by simp)))
  have HB3 := hid (HB1.out.trans (HB12.out.mono HB1.out.size))
  clear hb2
  rcases h1 with ⟨h0, _⟩ | ⟨_, v, rfl, hown⟩
  · rw [HK.out] at h0; cases h0
  rw [HLN.out, HX.out] at hown
  obtain ⟨g, cap, rfl, hg1, hg2, hgc⟩ := owned_int (xs := [a, b]) hown (by simp)
  have HGC := hid hgc
  have HG := hid hg2
  have HBN := hid ((Below.refl w2.heap.size w2).alloc (Nat.le_refl _) (.cells #[.int .i64 x, .int .i64 y] 3))
  clear hown hgc hg1 hg2
  go_wp2_with fail
  refine (Tryz.slices_Equal_int g 0 2 cap w2.heap.size 0 2 2 [a, b] [x, y] _ (by simp) (by simp) (by omega) (by omega) ?_ ?_).mono ?_
  · intro j hj
    have := HGC.out j hj
    exact cell_below HBN.out this
  · intro j hj
    rw [World.cell?_alloc_at _ _ _ _ rfl]
    match j, hj with
    | 0, _ => rfl
    | 1, _ => rfl
  rintro e w3 ⟨rfl, q, rfl⟩
  generalize hq : (List.take 2 [a, b] == List.take 2 [x, y]) = bq
  have HQ := hid hq
  clear hq
  go_wp2_with fail
  go_ret
  exact ⟨ret_bool (by rw [← HQ.out]; rfl), below_drew (HB3.out.trans (HBN.out.mono HB3.out.size)) _⟩
theorem begins_any (s h : ByteArray) (aT aB : Addr) (m : Int) (w : World) (hs : s.size < 999999) (hh : h.size < 4294967281) (S : Vs w aT aB m) :
    Calls Tryz.prog 150 #[.string s, .string h] w fun e w' => e = .returned (.bool (beginB s h)) ∧ Below w.heap.size w w' := by
  unfold beginB
  by_cases h1 : verErr s.data.toList = 0
  · obtain ⟨X, hX⟩ : ∃ X, bl X = preOf s.data.toList := ⟨_, bl_strs _⟩
    have hA := vsplit_is s aT aB m w (by omega) S h1 X hX
    rw [decide_eq_true h1, Bool.true_and]
    by_cases h2 : h = s
    · subst h2
      rw [decide_eq_true rfl, Bool.true_or]
      exact begins_same _ _ _ X h w hA
    · rw [decide_eq_false h2, Bool.false_or]
      have hne := str_ne h2
      cases hk : headOk h.data.toList
      · exact begins_no _ _ _ X s h aT aB m w hh S hA hne hk
      · rw [Bool.true_and]
        have hl : (headOf h.data.toList).length ≤ 2 := by
          unfold headOk at hk
          rw [Bool.and_eq_true, Bool.and_eq_true] at hk
          exact of_decide_eq_true hk.2.2
        have hp := headOf_pos h.data.toList
        have hlen := numsOf_len (headOf h.data.toList)
        by_cases l1 : (headOf h.data.toList).length = 1
        · obtain ⟨a, ha⟩ := List.length_eq_one_iff.1 (hlen.trans l1)
          rw [l1, ha]
          exact begins_1 _ _ _ X s h aT aB m w hh S hA hne hk l1 a ha
        · have l2 : (headOf h.data.toList).length = 2 := by omega
          obtain ⟨a, b, ha⟩ : ∃ a b, numsOf (headOf h.data.toList) = [a, b] := by
            match hq : numsOf (headOf h.data.toList), hlen.trans l2 with
            | [a, b], _ => exact ⟨a, b, rfl⟩
          rw [l2, ha]
          exact begins_2 _ _ _ X s h aT aB m w hh S hA hne hk l2 a b ha
  · rw [decide_eq_false h1, Bool.false_and]
    exact begins_bad s h w (vsplit_not s aT aB m w (by omega) S h1)
end Ve
end Go.Proofs.YtnkgjddkdikikaaGreatDoor
namespace Go.Proofs.YtnkgjddkdikikaaGreatDoor
open Go.RowKit
namespace Ve
def maxB (s t : ByteArray) : ByteArray :=
  if verErr s.data.toList = 0 then (if verErr t.data.toList = 0 then (if ordV s.data.toList t.data.toList < 0 then t else s) else s) else if verErr t.data.toList = 0 then t else ⟨#[]⟩
set_option maxHeartbeats 1000000 in
theorem max_11a (k : Int) (x y z x' y' z' : Int) (X Y : List ByteArray) (s t : ByteArray) (aT aB : Addr) (m : Int) (w : World) (S : Vs w aT aB m) (hk : k < 0)
    (hA : Calls Tryz.prog 20 #[.string s] w fun e w' => GoodP w w' e x y z X) (hT : ∀ W, Vs W aT aB m → Calls Tryz.prog 20 #[.string t] W fun e w' => GoodP W w' e x' y' z' Y)
    (hC : ∀ W va vb, StrsAt W va X → StrsAt W vb Y → Calls Tryz.prog 69 #[.agg #[.int .i64 x, .int .i64 y, .int .i64 z, va], .agg #[.int .i64 x', .int .i64 y', .int .i64 z', vb]] W fun e w' => e = .returned (.int .i64 k) ∧ Below W.heap.size W w') :
    Calls Tryz.prog 81 #[.string s, .string t] w fun e w' => e = .returned (.string t) ∧ Below w.heap.size w w' := by
  have HC := hid hC
  clear hC
  have HA := hid hA
  have HT := hid hT
  have HS := hid S
  clear hA hT S
  go_enter Tryz.func81, Tryz.ntmps81
  go_wp2_with fail
  refine HA.out.mono ?_
  rintro e w1 ⟨v, rfl, hst, hb1⟩
  obtain ⟨pa, na, ca, rfl⟩ := hst.slice
  have HST := hid hst
  clear hst
  have HB1 := hid hb1
  have HB2 := hid ((Below.refl w1.heap.size w1).alloc (Nat.le_refl _) (.cells #[.int .i64 x, .int .i64 y, .int .i64 z, .slice pa na ca] 37))
  have HS1 := hid ((HS.out.below hb1).below HB2.out)
  clear hb1
  go_wp2_with fail
  refine (HT.out _ HS1.out).mono ?_
  rintro e w2 ⟨v, rfl, hst, hb2⟩
  obtain ⟨pb, nb, cb, rfl⟩ := hst.slice
  have HTT := hid hst
  clear hst
  obtain ⟨⟨r0, r1, r2, r3⟩, rf, rz⟩ := res4 (hb2.mono (by simp))
  have HB12 := hid (HB2.out.trans (hb2.mono (by simp)))
  have HB3 := hid (HB1.out.trans (HB12.out.mono HB1.out.size))
  have HBA := hid ((Below.refl w2.heap.size w2).alloc (Nat.le_refl _) (.cells #[.int .i64 x', .int .i64 y', .int .i64 z', .slice pb nb cb] 37))
  have HB4 := hid (HB3.out.trans (HBA.out.mono HB3.out.size))
  clear hb2
  have HSA := hid ((HST.out.below HB12.out).below HBA.out)
  have HSB := hid (HTT.out.below HBA.out)
  go_wp2_with fail
  refine (HC.out _ _ _ HSA.out HSB.out).mono ?_
  rintro e w3 ⟨rfl, hb3⟩
  have HB5 := hid (HB4.out.trans (hb3.mono HB4.out.size))
  clear hb3
  go_wp2_with fail
  go_ret
  exact ⟨rfl, HB5.out⟩
set_option maxHeartbeats 1000000 in
theorem max_11b (k : Int) (x y z x' y' z' : Int) (X Y : List ByteArray) (s t : ByteArray) (aT aB : Addr) (m : Int) (w : World) (S : Vs w aT aB m) (hk : ¬ k < 0)
    (hA : Calls Tryz.prog 20 #[.string s] w fun e w' => GoodP w w' e x y z X) (hT : ∀ W, Vs W aT aB m → Calls Tryz.prog 20 #[.string t] W fun e w' => GoodP W w' e x' y' z' Y)
    (hC : ∀ W va vb, StrsAt W va X → StrsAt W vb Y → Calls Tryz.prog 69 #[.agg #[.int .i64 x, .int .i64 y, .int .i64 z, va], .agg #[.int .i64 x', .int .i64 y', .int .i64 z', vb]] W fun e w' => e = .returned (.int .i64 k) ∧ Below W.heap.size W w') :
    Calls Tryz.prog 81 #[.string s, .string t] w fun e w' => e = .returned (.string s) ∧ Below w.heap.size w w' := by
  have HC := hid hC
  clear hC
  have HA := hid hA
  have HT := hid hT
  have HS := hid S
  clear hA hT S
  go_enter Tryz.func81, Tryz.ntmps81
  go_wp2_with fail
  refine HA.out.mono ?_
  rintro e w1 ⟨v, rfl, hst, hb1⟩
  obtain ⟨pa, na, ca, rfl⟩ := hst.slice
  have HST := hid hst
  clear hst
  have HB1 := hid hb1
  have HB2 := hid ((Below.refl w1.heap.size w1).alloc (Nat.le_refl _) (.cells #[.int .i64 x, .int .i64 y, .int .i64 z, .slice pa na ca] 37))
  have HS1 := hid ((HS.out.below hb1).below HB2.out)
  clear hb1
  go_wp2_with fail
  refine (HT.out _ HS1.out).mono ?_
  rintro e w2 ⟨v, rfl, hst, hb2⟩
  obtain ⟨pb, nb, cb, rfl⟩ := hst.slice
  have HTT := hid hst
  clear hst
  obtain ⟨⟨r0, r1, r2, r3⟩, rf, rz⟩ := res4 (hb2.mono (by simp))
  have HB12 := hid (HB2.out.trans (hb2.mono (by simp)))
  have HB3 := hid (HB1.out.trans (HB12.out.mono HB1.out.size))
  have HBA := hid ((Below.refl w2.heap.size w2).alloc (Nat.le_refl _) (.cells #[.int .i64 x', .int .i64 y', .int .i64 z', .slice pb nb cb] 37))
  have HB4 := hid (HB3.out.trans (HBA.out.mono HB3.out.size))
  clear hb2
  have HSA := hid ((HST.out.below HB12.out).below HBA.out)
  have HSB := hid (HTT.out.below HBA.out)
  go_wp2_with fail
  refine (HC.out _ _ _ HSA.out HSB.out).mono ?_
  rintro e w3 ⟨rfl, hb3⟩
  have HB5 := hid (HB4.out.trans (hb3.mono HB4.out.size))
  clear hb3
  go_wp2_with fail
  go_ret
  exact ⟨rfl, HB5.out⟩
set_option maxHeartbeats 1000000 in
theorem max_10 (x y z : Int) (X : List ByteArray) (s t : ByteArray) (aT aB : Addr) (m : Int) (w : World) (S : Vs w aT aB m)
    (hA : Calls Tryz.prog 20 #[.string s] w fun e w' => GoodP w w' e x y z X) (hT : ∀ W, Vs W aT aB m → Calls Tryz.prog 20 #[.string t] W fun e w' => BadP W w' e) :
    Calls Tryz.prog 81 #[.string s, .string t] w fun e w' => e = .returned (.string s) ∧ Below w.heap.size w w' := by
  have HA := hid hA
  have HT := hid hT
  have HS := hid S
  clear hA hT S
  go_enter Tryz.func81, Tryz.ntmps81
  go_wp2_with fail
  refine HA.out.mono ?_
  rintro e w1 ⟨v, rfl, hst, hb1⟩
  obtain ⟨pa, na, ca, rfl⟩ := hst.slice
  have HST := hid hst
  clear hst
  have HB1 := hid hb1
  have HB2 := hid ((Below.refl w1.heap.size w1).alloc (Nat.le_refl _) (.cells #[.int .i64 x, .int .i64 y, .int .i64 z, .slice pa na ca] 37))
  have HS1 := hid ((HS.out.below hb1).below HB2.out)
  clear hb1
  go_wp2_with fail
  refine (HT.out _ HS1.out).mono ?_
  rintro e w2 ⟨a2, rfl, hb2⟩
  obtain ⟨⟨r0, r1, r2, r3⟩, rf, rz⟩ := res4 (hb2.mono (by simp))
  have HB12 := hid (HB2.out.trans (hb2.mono (by simp)))
  have HB3 := hid (HB1.out.trans (HB12.out.mono HB1.out.size))
  have HBA := hid ((Below.refl w2.heap.size w2).alloc (Nat.le_refl _) (.cells #[.int .i64 0, .int .i64 0, .int .i64 0, .slice none 0 0] 37))
  have HB4 := hid (HB3.out.trans (HBA.out.mono HB3.out.size))
  clear hb2
  go_wp2_with fail
  go_ret
  exact ⟨rfl, HB4.out⟩
set_option maxHeartbeats 1000000 in
theorem max_01 (x' y' z' : Int) (Y : List ByteArray) (s t : ByteArray) (aT aB : Addr) (m : Int) (w : World) (S : Vs w aT aB m)
    (hA : Calls Tryz.prog 20 #[.string s] w fun e w' => BadP w w' e) (hT : ∀ W, Vs W aT aB m → Calls Tryz.prog 20 #[.string t] W fun e w' => GoodP W w' e x' y' z' Y) :
    Calls Tryz.prog 81 #[.string s, .string t] w fun e w' => e = .returned (.string t) ∧ Below w.heap.size w w' := by
  have HA := hid hA
  have HT := hid hT
  have HS := hid S
  clear hA hT S
  go_enter Tryz.func81, Tryz.ntmps81
  go_wp2_with fail
  refine HA.out.mono ?_
  rintro e w1 ⟨a1, rfl, hb1⟩
  have HB1 := hid hb1
  have HB2 := hid ((Below.refl w1.heap.size w1).alloc (Nat.le_refl _) (.cells #[.int .i64 0, .int .i64 0, .int .i64 0, .slice none 0 0] 37))
  have HS1 := hid ((HS.out.below hb1).below HB2.out)
  clear hb1
  go_wp2_with fail
  refine (HT.out _ HS1.out).mono ?_
  rintro e w2 ⟨v, rfl, hst, hb2⟩
  obtain ⟨pb, nb, cb, rfl⟩ := hst.slice
  have HTT := hid hst
  clear hst
  obtain ⟨⟨r0, r1, r2, r3⟩, rf, rz⟩ := res4 (hb2.mono (by simp))
  have HB12 := hid (HB2.out.trans (hb2.mono (by simp)))
  have HB3 := hid (HB1.out.trans (HB12.out.mono HB1.out.size))
  have HBA := hid ((Below.refl w2.heap.size w2).alloc (Nat.le_refl _) (.cells #[.int .i64 x', .int .i64 y', .int .i64 z', .slice pb nb cb] 37))
  have HB4 := hid (HB3.out.trans (HBA.out.mono HB3.out.size))
  clear hb2
  go_wp2_with fail
  go_ret
  exact ⟨rfl, HB4.out⟩
set_option maxHeartbeats 1000000 in
theorem max_00 (s t : ByteArray) (aT aB : Addr) (m : Int) (w : World) (S : Vs w aT aB m)
    (hA : Calls Tryz.prog 20 #[.string s] w fun e w' => BadP w w' e) (hT : ∀ W, Vs W aT aB m → Calls Tryz.prog 20 #[.string t] W fun e w' => BadP W w' e) :
    Calls Tryz.prog 81 #[.string s, .string t] w fun e w' => e = .returned (.string ⟨#[]⟩) ∧ Below w.heap.size w w' := by
  have HA := hid hA
  have HT := hid hT
  have HS := hid S
  clear hA hT S
  go_enter Tryz.func81, Tryz.ntmps81
  go_wp2_with fail
  refine HA.out.mono ?_
  rintro e w1 ⟨a1, rfl, hb1⟩
  have HB1 := hid hb1
  have HB2 := hid ((Below.refl w1.heap.size w1).alloc (Nat.le_refl _) (.cells #[.int .i64 0, .int .i64 0, .int .i64 0, .slice none 0 0] 37))
  have HS1 := hid ((HS.out.below hb1).below HB2.out)
  clear hb1
  go_wp2_with fail
  refine (HT.out _ HS1.out).mono ?_
  rintro e w2 ⟨a2, rfl, hb2⟩
  obtain ⟨⟨r0, r1, r2, r3⟩, rf, rz⟩ := res4 (hb2.mono (by simp))
  have HB12 := hid (HB2.out.trans (hb2.mono (by simp)))
  have HB3 := hid (HB1.out.trans (HB12.out.mono HB1.out.size))
  have HBA := hid ((Below.refl w2.heap.size w2).alloc (Nat.le_refl _) (.cells #[.int .i64 0, .int .i64 0, .int .i64 0, .slice none 0 0] 37))
  have HB4 := hid (HB3.out.trans (HBA.out.mono HB3.out.size))
  clear hb2
  go_wp2_with fail
  go_ret
  exact ⟨rfl, HB4.out⟩
theorem max_any (s t : ByteArray) (aT aB : Addr) (m : Int) (w : World) (hs : s.size < 999999) (ht : t.size < 999999) (S : Vs w aT aB m) :
    Calls Tryz.prog 81 #[.string s, .string t] w fun e w' => e = .returned (.string (maxB s t)) ∧ Below w.heap.size w w' := by
  obtain ⟨X, hX⟩ : ∃ X, bl X = preOf s.data.toList := ⟨_, bl_strs _⟩
  obtain ⟨Y, hY⟩ : ∃ X, bl X = preOf t.data.toList := ⟨_, bl_strs _⟩
  obtain ⟨lX, pX⟩ := pre_bounds hs hX
  obtain ⟨lY, pY⟩ := pre_bounds ht hY
  unfold maxB
  by_cases h1 : verErr s.data.toList = 0
  all_goals by_cases h2 : verErr t.data.toList = 0
  · rw [if_pos h1, if_pos h2]
    have hC : ∀ W va vb, StrsAt W va X → StrsAt W vb Y → Calls Tryz.prog 69 #[.agg #[.int .i64 (nAt s.data.toList 0), .int .i64 (nAt s.data.toList 1), .int .i64 (nAt s.data.toList 2), va], .agg #[.int .i64 (nAt t.data.toList 0), .int .i64 (nAt t.data.toList 1), .int .i64 (nAt t.data.toList 2), vb]] W fun e w' => e = .returned (.int .i64 (ordV s.data.toList t.data.toList)) ∧ Below W.heap.size W w' := by
      intro W va vb ha hb
      unfold ordV
      rw [← hX, ← hY]
      exact compare_any _ _ _ _ _ _ va vb X Y W lX lY pX pY ha hb
    by_cases hk : ordV s.data.toList t.data.toList < 0
    · rw [if_pos hk]
      exact max_11a _ _ _ _ _ _ _ X Y s t aT aB m w S hk (vsplit_is s aT aB m w (by omega) S h1 X hX) (fun W SW => vsplit_is t aT aB m W (by omega) SW h2 Y hY) hC
    · rw [if_neg hk]
      exact max_11b _ _ _ _ _ _ _ X Y s t aT aB m w S hk (vsplit_is s aT aB m w (by omega) S h1 X hX) (fun W SW => vsplit_is t aT aB m W (by omega) SW h2 Y hY) hC
  · rw [if_pos h1, if_neg h2]
    exact max_10 _ _ _ X s t aT aB m w S (vsplit_is s aT aB m w (by omega) S h1 X hX) (fun W SW => vsplit_not t aT aB m W (by omega) SW h2)
  · rw [if_neg h1, if_pos h2]
    exact max_01 _ _ _ Y s t aT aB m w S (vsplit_not s aT aB m w (by omega) S h1) (fun W SW => vsplit_is t aT aB m W (by omega) SW h2 Y hY)
  · rw [if_neg h1, if_neg h2]
    exact max_00 s t aT aB m w S (vsplit_not s aT aB m w (by omega) S h1) (fun W SW => vsplit_not t aT aB m W (by omega) SW h2)
end Ve
end Go.Proofs.YtnkgjddkdikikaaGreatDoor
