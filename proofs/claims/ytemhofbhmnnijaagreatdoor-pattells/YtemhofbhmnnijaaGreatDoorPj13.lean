
import Derived.Test.YtemhofbhmnnijaaGreatDoorPj12
import Derived.Test.YtemhofbhmnnijaaGreatDoorPj11
namespace Go.Proofs.YtemhofbhmnnijaaGreatDoor
open Go.RowKit
namespace Ve
def begB (s h : ByteArray) : Bool := Lib.hasPrefix s.data.toList h.data.toList
theorem take_beq (a b : List UInt8) : (a.take b.length == b) = b.isPrefixOf a := by
  rw [Bool.eq_iff_iff, beq_iff_eq, List.isPrefixOf_iff_prefix, List.prefix_iff_eq_take]
  exact eq_comm
theorem begB_long {s h : ByteArray} (hl : ¬ h.size ≤ s.size) : begB s h = false := by
  unfold begB Lib.hasPrefix
  cases e : h.data.toList.isPrefixOf s.data.toList with
  | false => rfl
  | true =>
    have := (List.isPrefixOf_iff_prefix.1 e).length_le
    exact absurd (show h.size ≤ s.size from this) hl
set_option maxHeartbeats 1000000 in
theorem rbeg_any (s h : ByteArray) (w : World) : Calls Tryz.prog 14 #[.string s, .string h] w fun e w' => e = .returned (.bool (begB s h)) ∧ w' = w := by
  by_cases hl : h.size ≤ s.size
  · have h1 : ¬ (s.size : Int) < (h.size : Int) := by omega
    have h2 : (h.size : Int) ≤ (s.size : Int) := by omega
    have h3 : (0 : Int) ≤ (h.size : Int) := by omega
    have HX := hid (show ((s.extract 0 h.size).toList == h.toList) = begB s h by
      rw [ByteArray.toList_eq, ByteArray.toList_eq, extract_list]
      simp only [List.drop_zero, Nat.sub_zero]
      exact take_beq _ _)
    generalize begB s h = z at *
    go_enter Tryz.func14, Tryz.ntmps14
    go_wp2_with fail
    go_ret
    exact ⟨ret_bool HX.out, rfl⟩
  · have h1 : (s.size : Int) < (h.size : Int) := by omega
    have HX := hid (begB_long hl)
    generalize begB s h = z at *
    go_enter Tryz.func14, Tryz.ntmps14
    go_wp2_with fail
    go_ret
    exact ⟨ret_bool HX.out.symm, rfl⟩
end Ve
end Go.Proofs.YtemhofbhmnnijaaGreatDoor


namespace Go.Proofs.YtemhofbhmnnijaaGreatDoor
open Go.RowKit
namespace Ve
def dots : List UInt8 := [46, 46, 46]
def tokK : List UInt8 → Nat → List (Option UInt8)
  | [], _ => []
  | _ :: r, k + 1 => tokK r k
  | c :: r, 0 => if dots.isPrefixOf (c :: r) then none :: tokK r 2 else some c :: tokK r 0
def tok (l : List UInt8) : List (Option UInt8) := tokK l 0
theorem tokK_drop : ∀ (l : List UInt8) (k : Nat), tokK l k = tok (l.drop k)
  | [], k => by rw [List.drop_nil]; unfold tok tokK; rfl
  | _ :: _, 0 => rfl
  | _ :: r, k + 1 => by rw [tokK, tokK_drop r k]; rfl
theorem tok_nil : tok [] = [] := rfl
theorem tok_any {l : List UInt8} (h : dots.isPrefixOf l = true) : tok l = none :: tok (l.drop 3) := by
  cases l with
  | nil => cases h
  | cons c r => unfold tok; rw [tokK, if_pos h, tokK_drop]; rfl
theorem tok_one {c : UInt8} {r : List UInt8} (h : dots.isPrefixOf (c :: r) = false) : tok (c :: r) = some c :: tok r := by unfold tok; rw [tokK, if_neg (by rw [h]; simp)]
def mtB : List (Option UInt8) → List UInt8 → Bool
  | [], s => s.isEmpty
  | some _ :: _, [] => false
  | some c :: T, x :: s => x == c && mtB T s
  | none :: T, s => (List.range (s.length + 1)).any fun j => mtB T (s.drop j)
theorem mtB_nil (s : List UInt8) : mtB [] s = s.isEmpty := by unfold mtB; rfl
theorem mtB_one {c : UInt8} {T : List (Option UInt8)} {s : List UInt8} : mtB (some c :: T) s = true ↔ ∃ x r, s = x :: r ∧ x = c ∧ mtB T r = true := by
  cases s with
  | nil => rw [mtB]; simp
  | cons x r =>
    rw [mtB, Bool.and_eq_true, beq_iff_eq]
    constructor
    · rintro ⟨h1, h2⟩; exact ⟨x, r, rfl, h1, h2⟩
    · rintro ⟨y, q, e, h1, h2⟩
      injection e with e1 e2
      subst e1 e2; exact ⟨h1, h2⟩
theorem mtB_any {T : List (Option UInt8)} {s : List UInt8} : mtB (none :: T) s = true ↔ ∃ j, j ≤ s.length ∧ mtB T (s.drop j) = true := by
  rw [mtB, List.any_eq_true]
  constructor
  · rintro ⟨j, hj, h⟩
    exact ⟨j, by have := List.mem_range.1 hj; omega, h⟩
  · rintro ⟨j, hj, h⟩
    exact ⟨j, List.mem_range.2 (by omega), h⟩
def stpR (s : List UInt8) (row : Nat → Bool) : Option UInt8 → Nat → Bool
  | none, k => (List.range (k + 1)).any row
  | some _, 0 => false
  | some c, k + 1 => row k && s[k]? == some c
def row0 : Nat → Bool := fun k => decide (k = 0)
def rowsT (s : List UInt8) (T : List (Option UInt8)) (row : Nat → Bool) : Nat → Bool := T.foldl (stpR s) row
theorem stpR_any {s : List UInt8} {row : Nat → Bool} {k : Nat} : stpR s row none k = true ↔ ∃ j, j ≤ k ∧ row j = true := by
  unfold stpR
  rw [List.any_eq_true]
  constructor
  · rintro ⟨j, hj, h⟩
    exact ⟨j, by have := List.mem_range.1 hj; omega, h⟩
  · rintro ⟨j, hj, h⟩
    exact ⟨j, List.mem_range.2 (by omega), h⟩
theorem stpR_one {s : List UInt8} {row : Nat → Bool} {c : UInt8} {k : Nat} : stpR s row (some c) k = true ↔ ∃ j, k = j + 1 ∧ row j = true ∧ s[j]? = some c := by
  cases k with
  | zero => unfold stpR; simp
  | succ k =>
    unfold stpR
    simp only [Bool.and_eq_true, beq_iff_eq]
    constructor
    · rintro ⟨h1, h2⟩; exact ⟨k, rfl, h1, h2⟩
    · rintro ⟨j, e, h1, h2⟩
      have : k = j := by omega
      subst this; exact ⟨h1, h2⟩
theorem drop_take_at {s : List UInt8} {i k : Nat} (hk : k ≤ s.length) (hi : i < k) : (s.take k).drop i = (s[i]'(by omega)) :: (s.take k).drop (i + 1) := by
  rw [List.drop_eq_getElem_cons (by rw [List.length_take]; omega), List.getElem_take]
theorem rows_is (s : List UInt8) : ∀ (T : List (Option UInt8)) (row : Nat → Bool) (k : Nat), k ≤ s.length → (rowsT s T row k = true ↔ ∃ j, j ≤ k ∧ row j = true ∧ mtB T ((s.take k).drop j) = true)
  | [], row, k, hk => by
    show row k = true ↔ _
    simp only [mtB_nil, List.isEmpty_iff, List.drop_eq_nil_iff, List.length_take]
    constructor
    · intro h; exact ⟨k, Nat.le_refl _, h, by omega⟩
    · rintro ⟨j, hj, h, hl⟩
      have : j = k := by omega
      subst this; exact h
  | none :: T, row, k, hk => by
    have ih := rows_is s T (stpR s row none) k hk
    show rowsT s T (stpR s row none) k = true ↔ _
    rw [ih]
    constructor
    · rintro ⟨j, hj, h1, h2⟩
      obtain ⟨i, hi, h3⟩ := stpR_any.1 h1
      refine ⟨i, by omega, h3, mtB_any.2 ⟨j - i, by rw [List.length_drop, List.length_take]; omega, ?_⟩⟩
      rw [List.drop_drop, show i + (j - i) = j by omega]; exact h2
    · rintro ⟨i, hi, h1, h2⟩
      obtain ⟨d, hd, h3⟩ := mtB_any.1 h2
      rw [List.length_drop, List.length_take] at hd
      rw [List.drop_drop] at h3
      exact ⟨i + d, by omega, stpR_any.2 ⟨i, by omega, h1⟩, h3⟩
  | some c :: T, row, k, hk => by
    have ih := rows_is s T (stpR s row (some c)) k hk
    show rowsT s T (stpR s row (some c)) k = true ↔ _
    rw [ih]
    constructor
    · rintro ⟨j, hj, h1, h2⟩
      obtain ⟨i, rfl, h3, h4⟩ := stpR_one.1 h1
      refine ⟨i, by omega, h3, mtB_one.2 ⟨s[i]'(by omega), _, drop_take_at hk (by omega), ?_, h2⟩⟩
      rw [List.getElem?_eq_getElem (by omega)] at h4
      exact Option.some.inj h4
    · rintro ⟨i, hi, h1, h2⟩
      obtain ⟨x, r, e, hx, h3⟩ := mtB_one.1 h2
      have hik : i < k := by
        rcases Nat.lt_or_ge i k with h | h
        · exact h
        · rw [List.drop_eq_nil_of_le (by rw [List.length_take]; omega)] at e; cases e
      rw [drop_take_at hk hik] at e
      injection e with e1 e2
      subst e2
      refine ⟨i + 1, hik, stpR_one.2 ⟨i, rfl, h1, ?_⟩, h3⟩
      rw [List.getElem?_eq_getElem (by omega), e1, hx]
def matB (p s : ByteArray) : Bool := mtB (tok p.data.toList) s.data.toList
theorem rows_end (T : List (Option UInt8)) (s : List UInt8) : rowsT s T row0 s.length = mtB T s := by
  rw [Bool.eq_iff_iff, rows_is s T row0 s.length (Nat.le_refl _)]
  constructor
  · rintro ⟨j, _, h1, h2⟩
    have : j = 0 := of_decide_eq_true h1
    subst this
    rwa [List.take_length, List.drop_zero] at h2
  · intro h
    exact ⟨0, Nat.zero_le _, rfl, by rwa [List.take_length, List.drop_zero]⟩
def slashDots : List UInt8 := [47, 46, 46, 46]
def ismB (p s : ByteArray) : Bool := matB p s || (decide (4 ≤ p.size) && (decide (p.data.toList.drop (p.size - 4) = slashDots) && matB (p.extract 0 (p.size - 4)) s))
def wildB (p : ByteArray) : Bool := (tok p.data.toList).any Option.isNone
def xsOf (p : List UInt8) : List UInt8 := (tok p).map fun t => t.getD 120
end Ve
end Go.Proofs.YtemhofbhmnnijaaGreatDoor
