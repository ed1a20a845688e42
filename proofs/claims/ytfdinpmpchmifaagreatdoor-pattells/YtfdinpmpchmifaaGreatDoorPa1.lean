/-
  Patterns, plain: their pieces, and what matches them.
-/
import Derived.Test.YtfdinpmpchmifaaGreatDoorVerE
import Derived.Test.YtfdinpmpchmifaaGreatDoorRefA
import Derived.Lib.Replace
import Derived.Test.YtfdinpmpchmifaaGreatDoorVerD
import Derived.Shelf.Strings.Builder1
import Derived.Shelf.Strings.Builder2
import Derived.Shelf.Strings.OnBuilder
import Derived.Shelf.Strings.Trim
import Derived.Shelf.Small.Utf8
import Derived.Shelf.Small.Strs
import Derived.Shelf.Small.Wraps
import Derived.Shelf.Strings.Search1
import Derived.Shelf.Strings.Search2
import Derived.Shelf.Strings.Search3
import Derived.Shelf.Strings.Cut
import Derived.Shelf.Strings.Count
import Derived.Shelf.LaysM
import Derived.Shelf.Strings.Shaped
import Derived.Shelf.Strings.Prefix
import Derived.Shelf.Strings.Split
import Derived.Shelf.Strings.Replace
import Derived.Shelf.Strings.Runes
import Derived.Shelf.Strings.AsciiSet
import Derived.Shelf.Unicode.DecodeSlow
import Derived.Test.YtfdinpmpchmifaaGreatDoorProg
import Derived.Test.YtfdinpmpchmifaaGreatDoorShelfM
import Derived.Laws.EntriesVeiled
namespace Go.Proofs.YtfdinpmpchmifaaGreatDoor
open Go.RowKit
namespace Ve

def dots : List UInt8 := [46, 46, 46]
/-- The pieces of a pattern, from the left: a byte, or any text (k: so many bytes are passed by first). -/
def tokK : List UInt8 → Nat → List (Option UInt8)
  | [], _ => []
  | _ :: r, k + 1 => tokK r k
  | c :: r, 0 => if dots.isPrefixOf (c :: r) then none :: tokK r 2 else some c :: tokK r 0
def tok (l : List UInt8) : List (Option UInt8) := tokK l 0
theorem tokK_drop : ∀ (l : List UInt8) (k : Nat), tokK l k = tok (l.drop k)
  | [], k => by rw [List.drop_nil]; unfold tok tokK; rfl
  | _ :: _, 0 => rfl
  | _ :: r, k + 1 => by rw [tokK, tokK_drop r k]; rfl
theorem tok_nil : tok [] = [] := rfl
theorem tok_any {l : List UInt8} (h : dots.isPrefixOf l = true) : tok l = none :: tok (l.drop 3) := by
  cases l with
  | nil => cases h
  | cons c r => unfold tok; rw [tokK, if_pos h, tokK_drop]; rfl
theorem tok_one {c : UInt8} {r : List UInt8} (h : dots.isPrefixOf (c :: r) = false) : tok (c :: r) = some c :: tok r := by unfold tok; rw [tokK, if_neg (by rw [h]; simp)]
/-- Does a text match pieces? -/
def mtB : List (Option UInt8) → List UInt8 → Bool
  | [], s => s.isEmpty
  | some _ :: _, [] => false
  | some c :: T, x :: s => x == c && mtB T s
  | none :: T, s => (List.range (s.length + 1)).any fun j => mtB T (s.drop j)
theorem mtB_nil (s : List UInt8) : mtB [] s = s.isEmpty := by unfold mtB; rfl
theorem mtB_one {c : UInt8} {T : List (Option UInt8)} {s : List UInt8} : mtB (some c :: T) s = true ↔ ∃ x r, s = x :: r ∧ x = c ∧ mtB T r = true := by
  cases s with
  | nil => rw [mtB]; simp
  | cons x r =>
    rw [mtB, Bool.and_eq_true, beq_iff_eq]
    constructor
    · rintro ⟨h1, h2⟩; exact ⟨x, r, rfl, h1, h2⟩
    · rintro ⟨y, q, e, h1, h2⟩
      injection e with e1 e2
      subst e1 e2; exact ⟨h1, h2⟩
theorem mtB_any {T : List (Option UInt8)} {s : List UInt8} : mtB (none :: T) s = true ↔ ∃ j, j ≤ s.length ∧ mtB T (s.drop j) = true := by
  rw [mtB, List.any_eq_true]
  constructor
  · rintro ⟨j, hj, h⟩
    exact ⟨j, by have := List.mem_range.1 hj; omega, h⟩
  · rintro ⟨j, hj, h⟩
    exact ⟨j, List.mem_range.2 (by omega), h⟩
/-- A row of what beginnings are matched, and the next row. -/
def stpR (s : List UInt8) (row : Nat → Bool) : Option UInt8 → Nat → Bool
  | none, k => (List.range (k + 1)).any row
  | some _, 0 => false
  | some c, k + 1 => row k && s[k]? == some c
def row0 : Nat → Bool := fun k => decide (k = 0)
def rowsT (s : List UInt8) (T : List (Option UInt8)) (row : Nat → Bool) : Nat → Bool := T.foldl (stpR s) row
theorem stpR_any {s : List UInt8} {row : Nat → Bool} {k : Nat} : stpR s row none k = true ↔ ∃ j, j ≤ k ∧ row j = true := by
  unfold stpR
  rw [List.any_eq_true]
  constructor
  · rintro ⟨j, hj, h⟩
    exact ⟨j, by have := List.mem_range.1 hj; omega, h⟩
  · rintro ⟨j, hj, h⟩
    exact ⟨j, List.mem_range.2 (by omega), h⟩
theorem stpR_one {s : List UInt8} {row : Nat → Bool} {c : UInt8} {k : Nat} : stpR s row (some c) k = true ↔ ∃ j, k = j + 1 ∧ row j = true ∧ s[j]? = some c := by
  cases k with
  | zero => unfold stpR; simp
  | succ k =>
    unfold stpR
    simp only [Bool.and_eq_true, beq_iff_eq]
    constructor
    · rintro ⟨h1, h2⟩; exact ⟨k, rfl, h1, h2⟩
    · rintro ⟨j, e, h1, h2⟩
      have : k = j := by omega
      subst this; exact ⟨h1, h2⟩
theorem drop_take_at {s : List UInt8} {i k : Nat} (hk : k ≤ s.length) (hi : i < k) : (s.take k).drop i = (s[i]'(by omega)) :: (s.take k).drop (i + 1) := by
  rw [List.drop_eq_getElem_cons (by rw [List.length_take]; omega), List.getElem_take]
theorem rows_is (s : List UInt8) : ∀ (T : List (Option UInt8)) (row : Nat → Bool) (k : Nat), k ≤ s.length → (rowsT s T row k = true ↔ ∃ j, j ≤ k ∧ row j = true ∧ mtB T ((s.take k).drop j) = true)
  | [], row, k, hk => by
    show row k = true ↔ _
    simp only [mtB_nil, List.isEmpty_iff, List.drop_eq_nil_iff, List.length_take]
    constructor
    · intro h; exact ⟨k, Nat.le_refl _, h, by omega⟩
    · rintro ⟨j, hj, h, hl⟩
      have : j = k := by omega
      subst this; exact h
  | none :: T, row, k, hk => by
    have ih := rows_is s T (stpR s row none) k hk
    show rowsT s T (stpR s row none) k = true ↔ _
    rw [ih]
    constructor
    · rintro ⟨j, hj, h1, h2⟩
      obtain ⟨i, hi, h3⟩ := stpR_any.1 h1
      refine ⟨i, by omega, h3, mtB_any.2 ⟨j - i, by rw [List.length_drop, List.length_take]; omega, ?_⟩⟩
      rw [List.drop_drop, show i + (j - i) = j by omega]; exact h2
    · rintro ⟨i, hi, h1, h2⟩
      obtain ⟨d, hd, h3⟩ := mtB_any.1 h2
      rw [List.length_drop, List.length_take] at hd
      rw [List.drop_drop] at h3
      exact ⟨i + d, by omega, stpR_any.2 ⟨i, by omega, h1⟩, h3⟩
  | some c :: T, row, k, hk => by
    have ih := rows_is s T (stpR s row (some c)) k hk
    show rowsT s T (stpR s row (some c)) k = true ↔ _
    rw [ih]
    constructor
    · rintro ⟨j, hj, h1, h2⟩
      obtain ⟨i, rfl, h3, h4⟩ := stpR_one.1 h1
      refine ⟨i, by omega, h3, mtB_one.2 ⟨s[i]'(by omega), _, drop_take_at hk (by omega), ?_, h2⟩⟩
      rw [List.getElem?_eq_getElem (by omega)] at h4
      exact Option.some.inj h4
    · rintro ⟨i, hi, h1, h2⟩
      obtain ⟨x, r, e, hx, h3⟩ := mtB_one.1 h2
      have hik : i < k := by
        rcases Nat.lt_or_ge i k with h | h
        · exact h
        · rw [List.drop_eq_nil_of_le (by rw [List.length_take]; omega)] at e; cases e
      rw [drop_take_at hk hik] at e
      injection e with e1 e2
      subst e2
      refine ⟨i + 1, hik, stpR_one.2 ⟨i, rfl, h1, ?_⟩, h3⟩
      rw [List.getElem?_eq_getElem (by omega), e1, hx]
/-- Does a text match a pattern (without more at its end)? -/
def matB (p s : ByteArray) : Bool := mtB (tok p.data.toList) s.data.toList
theorem rows_end (T : List (Option UInt8)) (s : List UInt8) : rowsT s T row0 s.length = mtB T s := by
  rw [Bool.eq_iff_iff, rows_is s T row0 s.length (Nat.le_refl _)]
  constructor
  · rintro ⟨j, _, h1, h2⟩
    have : j = 0 := of_decide_eq_true h1
    subst this
    rwa [List.take_length, List.drop_zero] at h2
  · intro h
    exact ⟨0, Nat.zero_le _, rfl, by rwa [List.take_length, List.drop_zero]⟩
def slashDots : List UInt8 := [47, 46, 46, 46]
/-- Does a text match a pattern? -/
def ismB (p s : ByteArray) : Bool := matB p s || (decide (4 ≤ p.size) && (decide (p.data.toList.drop (p.size - 4) = slashDots) && matB (p.extract 0 (p.size - 4)) s))
/-- Has a pattern any text? -/
def wildB (p : ByteArray) : Bool := (tok p.data.toList).any Option.isNone
/-- A pattern, an x for any text. -/
def xsOf (p : List UInt8) : List UInt8 := (tok p).map fun t => t.getD 120
end Ve
end Go.Proofs.YtfdinpmpchmifaaGreatDoor

/-
  Patterns, plain: what is wild, and what always matches.
-/
namespace Go.Proofs.YtfdinpmpchmifaaGreatDoor
open Go.RowKit
namespace Ve

/-- Does any text stand somewhere? -/
theorem tok_wild : ∀ l : List UInt8, (tok l).any Option.isNone = true ↔ ∃ i, i < l.length ∧ dots.isPrefixOf (l.drop i) = true
  | [] => by rw [tok_nil]; simp
  | c :: r => by
    cases h : dots.isPrefixOf (c :: r)
    · rw [tok_one h]
      simp only [List.any_cons, Option.isNone_some, Bool.false_or]
      rw [tok_wild r]
      constructor
      · rintro ⟨i, hi, hp⟩; exact ⟨i + 1, by simp only [List.length_cons]; omega, hp⟩
      · rintro ⟨i, hi, hp⟩
        cases i with
        | zero => rw [List.drop_zero, h] at hp; cases hp
        | succ i => exact ⟨i, by simp only [List.length_cons] at hi; omega, hp⟩
    · rw [tok_any h]
      simp only [List.any_cons, Option.isNone_none, Bool.true_or, true_iff]
      exact ⟨0, by simp, h⟩
theorem tok_tame : ∀ l : List UInt8, (tok l).any Option.isNone = false → tok l = l.map some
  | [], _ => rfl
  | c :: r, h => by
    cases hp : dots.isPrefixOf (c :: r)
    · rw [tok_one hp] at h ⊢
      simp only [List.any_cons, Option.isNone_some, Bool.false_or] at h
      rw [tok_tame r h]; rfl
    · rw [tok_any hp] at h
      simp at h
theorem mtB_some : ∀ (l s : List UInt8), mtB (l.map some) s = true ↔ s = l
  | [], s => by rw [List.map_nil, mtB_nil, List.isEmpty_iff]
  | c :: l, s => by
    rw [List.map_cons, mtB_one]
    constructor
    · rintro ⟨x, r, rfl, rfl, h⟩
      rw [(mtB_some l r).1 h]
    · rintro rfl
      exact ⟨c, l, rfl, rfl, (mtB_some l l).2 rfl⟩
theorem pre_dots {c : UInt8} {r : List UInt8} (h : c ≠ 46) : dots.isPrefixOf (c :: r) = false := by
  unfold dots
  simp only [List.isPrefixOf]
  rw [show ((46 : UInt8) == c) = false by rw [beq_eq_false_iff_ne]; exact fun e => h e.symm]; rfl
theorem tok_app : ∀ (a b : List UInt8), 46 ∉ a → tok (a ++ b) = a.map some ++ tok b
  | [], b, _ => rfl
  | c :: a, b, h => by
    have h1 : c ≠ 46 := fun e => h (by rw [e]; exact List.mem_cons_self ..)
    rw [List.cons_append, tok_one (pre_dots h1), tok_app a b (fun hm => h (List.mem_cons_of_mem _ hm))]; rfl
theorem tok_dots (b : List UInt8) : tok (dots ++ b) = none :: tok b := tok_any (by unfold dots; simp [List.isPrefixOf])
theorem mtB_app : ∀ (a s : List UInt8) (T : List (Option UInt8)), mtB T s = true → mtB (a.map some ++ T) (a ++ s) = true
  | [], _, _, h => h
  | c :: a, s, T, h => mtB_one.2 ⟨c, a ++ s, rfl, rfl, mtB_app a s T h⟩
theorem mtB_none (T : List (Option UInt8)) (u s : List UInt8) (h : mtB T s = true) : mtB (none :: T) (u ++ s) = true :=
  mtB_any.2 ⟨u.length, by rw [List.length_append]; omega, by rw [List.drop_left]; exact h⟩
/-- What always matches. -/
theorem mat_between {a b u : List UInt8} (ha : 46 ∉ a) (hb : 46 ∉ b) : mtB (tok (a ++ dots ++ b)) (a ++ u ++ b) = true := by
  have h0 := tok_app b [] hb
  rw [List.append_nil, tok_nil, List.append_nil] at h0
  rw [List.append_assoc, List.append_assoc, tok_app a _ ha, tok_dots, h0]
  exact mtB_app _ _ _ (mtB_none _ _ _ ((mtB_some b b).2 rfl))
theorem mat_all (s : List UInt8) : mtB (tok dots) s = true := by
  have := mat_between (a := []) (b := []) (u := s) (by simp) (by simp)
  simpa using this
theorem ism_mat {p s : ByteArray} (h : matB p s = true) : ismB p s = true := by unfold ismB; rw [h]; rfl
theorem ism_tame {p s : ByteArray} (h : wildB p = false) : ismB p s = decide (p = s) := by
  have e1 : matB p s = decide (p = s) := by
    unfold matB
    rw [tok_tame _ h, Bool.eq_iff_iff, mtB_some, decide_eq_true_iff]
    exact ⟨fun h => str_ext h.symm, fun h => by rw [h]⟩
  unfold ismB
  rw [e1]
  cases h4 : (decide (4 ≤ p.size) && (decide (p.data.toList.drop (p.size - 4) = slashDots) && matB (p.extract 0 (p.size - 4)) s))
  · rw [Bool.or_false]
  · rw [Bool.and_eq_true, Bool.and_eq_true] at h4
    have hsz := of_decide_eq_true h4.1
    have hd := of_decide_eq_true h4.2.1
    have hl : p.data.toList.length = p.size := len_eq p
    have hw : wildB p = true := (tok_wild _).2 ⟨p.size - 3, by omega, by
      rw [show p.size - 3 = (p.size - 4) + 1 by omega, ← List.drop_drop, hd]; rfl⟩
    rw [h] at hw; cases hw
end Ve
end Go.Proofs.YtfdinpmpchmifaaGreatDoor

/-
  Patterns cut at any text, as package pat cuts them (plain).
-/
namespace Go.Proofs.YtfdinpmpchmifaaGreatDoor
open Go.RowKit
namespace Ve

theorem tok_miss {l : List UInt8} (h : Lib.index l dots = -1) : tok l = l.map some := by
  refine tok_tame l ?_
  cases hb : (tok l).any Option.isNone
  · rfl
  · obtain ⟨i, hi, hp⟩ := (tok_wild l).1 hb
    rcases Lib.index_spec l dots with ⟨_, h2⟩ | ⟨j, h1, _⟩
    · have := h2 i (by omega)
      unfold Lib.occAt at this
      rw [hp] at this; cases this
    · omega
theorem tok_len : ∀ l : List UInt8, (tok l).length ≤ l.length
  | [] => Nat.le_refl _
  | c :: r => by
    cases h : dots.isPrefixOf (c :: r)
    · rw [tok_one h]
      have := tok_len r
      simp only [List.length_cons]; omega
    · rw [tok_any h]
      have := tok_len (r.drop 2)
      rw [List.length_drop] at this
      show (tok (r.drop 2)).length + 1 ≤ r.length + 1
      omega
termination_by l => l.length
theorem tok_hit : ∀ {i : Nat} {l : List UInt8}, Lib.index l dots = i → tok l = (l.take i).map some ++ none :: tok (l.drop (i + 3))
  | 0, l, h => by
    rcases Lib.index_spec l dots with ⟨h1, _⟩ | ⟨j, h1, _, h2, _⟩
    · omega
    · have : j = 0 := by omega
      subst this
      unfold Lib.occAt at h2
      rw [List.drop_zero] at h2
      rw [tok_any h2]; rfl
  | i + 1, [], h => by cases h
  | i + 1, c :: r, h => by
    unfold Lib.index at h
    split at h
    · omega
    · next hp =>
      have hp' : dots.isPrefixOf (c :: r) = false := Bool.eq_false_iff.2 hp
      split at h
      · omega
      · have hi : Lib.index r dots = i := by omega
        rw [tok_one hp', tok_hit hi]; rfl
/-- The pieces between any texts, put together again. -/
def tokP : List (List UInt8) → List (Option UInt8)
  | [] => []
  | [a] => a.map some
  | a :: b :: r => a.map some ++ none :: tokP (b :: r)
theorem tokP_cons (a : List UInt8) {r : List (List UInt8)} (h : r ≠ []) : tokP (a :: r) = a.map some ++ none :: tokP r := by
  cases r with
  | nil => exact absurd rfl h
  | cons b r => rfl
theorem splitK_ne (k : Nat) (l : List UInt8) : Lib.splitK dots 0 k l ≠ [] := by
  cases k with
  | zero => unfold Lib.splitK; simp
  | succ k => unfold Lib.splitK; split <;> simp
theorem dots_ne : dots ≠ [] := by unfold dots; simp
theorem tok_split : ∀ (k : Nat) (l : List UInt8), Lib.count l dots = k → tok l = tokP (Lib.splitK dots 0 k l)
  | 0, l, h => by
    rcases Lib.index_spec l dots with ⟨h1, _⟩ | ⟨j, h1, _⟩
    · rw [tok_miss h1]; rfl
    · rw [Lib.count_hit dots_ne h1] at h; omega
  | k + 1, l, h => by
    rcases Lib.index_spec l dots with ⟨h1, _⟩ | ⟨j, h1, _⟩
    · rw [Lib.count_miss h1] at h; omega
    · rw [Lib.count_hit dots_ne h1] at h
      have hm : ¬ (Lib.index l dots == -1) = true := fun e => by have := beq_iff_eq.1 e; omega
      have e : (Lib.index l dots).toNat = j := by omega
      unfold Lib.splitK
      rw [if_neg hm, e, tokP_cons _ (splitK_ne _ _), Nat.add_zero, tok_hit h1]
      congr 2
      exact tok_split k _ (by show Lib.count (l.drop (j + dots.length)) dots = k; omega)
/-- A text is made of what stands ahead, and what matches behind. -/
theorem mtB_pre : ∀ (a : List UInt8) (T : List (Option UInt8)) (s : List UInt8), mtB (a.map some ++ T) s = true ↔ a.isPrefixOf s = true ∧ mtB T (s.drop a.length) = true
  | [], T, s => by simp
  | c :: a, T, s => by
    rw [List.map_cons, List.cons_append, mtB_one]
    constructor
    · rintro ⟨x, r, rfl, rfl, h⟩
      obtain ⟨h1, h2⟩ := (mtB_pre a T r).1 h
      exact ⟨by simp [List.isPrefixOf]; simpa using h1, h2⟩
    · rintro ⟨h1, h2⟩
      cases s with
      | nil => simp [List.isPrefixOf] at h1
      | cons x r =>
        simp only [List.isPrefixOf, Bool.and_eq_true, beq_iff_eq] at h1
        exact ⟨x, r, rfl, h1.1.symm, (mtB_pre a T r).2 ⟨h1.2, h2⟩⟩
/-- The pieces behind any text, each at its first place. -/
def grd : List (List UInt8) → List UInt8 → Bool
  | [], _ => false
  | [a], s => Lib.hasSuffix s a
  | a :: b :: r, s => (Lib.cut s a).2.2 && grd (b :: r) (Lib.cut s a).2.1
theorem grd_cons (a : List UInt8) {r : List (List UInt8)} (h : r ≠ []) (s : List UInt8) : grd (a :: r) s = ((Lib.cut s a).2.2 && grd r (Lib.cut s a).2.1) := by
  cases r with
  | nil => exact absurd rfl h
  | cons b r => rfl
theorem mtB_less {T : List (Option UInt8)} {s : List UInt8} {d : Nat} (h : mtB (none :: T) (s.drop d) = true) : mtB (none :: T) s = true := by
  obtain ⟨j, hj, h2⟩ := mtB_any.1 h
  rw [List.length_drop] at hj
  rw [List.drop_drop] at h2
  rcases Nat.lt_or_ge s.length (d + j) with h3 | h3
  · refine mtB_any.2 ⟨s.length, Nat.le_refl _, ?_⟩
    rw [List.drop_length]
    rwa [List.drop_eq_nil_of_le (by omega)] at h2
  · exact mtB_any.2 ⟨d + j, h3, h2⟩
theorem grd_is : ∀ (P : List (List UInt8)), P ≠ [] → ∀ s, mtB (none :: tokP P) s = grd P s
  | [], h, _ => absurd rfl h
  | [a], _, s => by
    rw [Bool.eq_iff_iff, mtB_any]
    show _ ↔ a.isSuffixOf s = true
    rw [List.isSuffixOf_iff_suffix]
    constructor
    · rintro ⟨j, _, h⟩
      have := (mtB_some a _).1 h
      rw [← this]; exact List.drop_suffix _ _
    · rintro ⟨t, rfl⟩
      exact ⟨t.length, by rw [List.length_append]; omega, by rw [List.drop_left]; exact (mtB_some a a).2 rfl⟩
  | a :: b :: r, _, s => by
    have ih := grd_is (b :: r) (by simp)
    rw [grd_cons a (by simp), ← ih]
    show mtB (none :: (a.map some ++ none :: tokP (b :: r))) s = _
    generalize tokP (b :: r) = T
    rcases Lib.index_spec s a with ⟨h1, h2⟩ | ⟨i, h1, h2, h3, h4⟩
    · have e : Lib.cut s a = (s, [], false) := by unfold Lib.cut; rw [h1, if_neg (by omega)]
      rw [e, Bool.false_and]
      cases hb : mtB (none :: (a.map some ++ none :: T)) s
      · rfl
      · obtain ⟨j, hj, h5⟩ := mtB_any.1 hb
        have h6 := ((mtB_pre _ _ _).1 h5).1
        have h7 := h2 j hj
        unfold Lib.occAt at h7
        rw [h6] at h7; cases h7
    · have e : Lib.cut s a = (s.take i, s.drop (i + a.length), true) := by unfold Lib.cut; rw [h1, if_pos (by omega)]; simp
      rw [e, Bool.true_and, Bool.eq_iff_iff]
      constructor
      · intro hb
        obtain ⟨j, hj, h5⟩ := mtB_any.1 hb
        obtain ⟨h6, h7⟩ := (mtB_pre _ _ _).1 h5
        rcases Nat.lt_or_ge j i with h8 | h8
        · have h9 := h4 j h8
          unfold Lib.occAt at h9
          rw [h6] at h9; cases h9
        · rw [List.drop_drop] at h7
          refine mtB_less (d := j - i) ?_
          show mtB (none :: T) ((s.drop (i + a.length)).drop (j - i)) = true
          rw [List.drop_drop, show i + a.length + (j - i) = j + a.length by omega]; exact h7
      · intro hb
        refine mtB_any.2 ⟨i, h2, (mtB_pre _ _ _).2 ⟨h3, ?_⟩⟩
        rw [List.drop_drop]; exact hb
/-- The pieces of a pattern. -/
def pcs (l : List UInt8) : List (List UInt8) := Lib.splitK dots 0 (Lib.count l dots) l
theorem pcs_ne (l : List UInt8) : pcs l ≠ [] := splitK_ne _ _
theorem pcs_tok (l : List UInt8) : tok l = tokP (pcs l) := tok_split _ l rfl
theorem mat_one {p s : List UInt8} (h : (pcs p).length = 1) : mtB (tok p) s = decide (s = p) := by
  have hc : Lib.count p dots = 0 := by
    rcases Nat.eq_zero_or_pos (Lib.count p dots) with h0 | h0
    · exact h0
    · unfold pcs at h
      obtain ⟨k, hk⟩ : ∃ k, Lib.count p dots = k + 1 := ⟨_, (Nat.succ_pred_eq_of_pos h0).symm⟩
      rw [hk] at h
      rcases Lib.index_spec p dots with ⟨h1, _⟩ | ⟨j, h1, _⟩
      · rw [Lib.count_miss h1] at hk; omega
      · have hm : ¬ (Lib.index p dots == -1) = true := fun e => by have := beq_iff_eq.1 e; omega
        unfold Lib.splitK at h
        rw [if_neg hm, List.length_cons] at h
        have := List.length_pos_iff.2 (splitK_ne k (p.drop ((Lib.index p dots).toNat + dots.length)))
        omega
  have e : tok p = p.map some := by rw [pcs_tok]; unfold pcs; rw [hc]; rfl
  rw [e, Bool.eq_iff_iff, mtB_some, decide_eq_true_iff]
theorem mat_more {p s : List UInt8} {a : List UInt8} {r : List (List UInt8)} (h : pcs p = a :: r) (hr : r ≠ []) : mtB (tok p) s = (Lib.hasPrefix s a && grd r (Lib.trimPrefix s a)) := by
  rw [pcs_tok, h, tokP_cons a hr, ← grd_is r hr, Bool.eq_iff_iff, mtB_pre, Bool.and_eq_true]
  unfold Lib.trimPrefix Lib.hasPrefix
  constructor
  · rintro ⟨h1, h2⟩; exact ⟨h1, by rw [if_pos h1]; exact h2⟩
  · rintro ⟨h1, h2⟩; exact ⟨h1, by rw [if_pos h1] at h2; exact h2⟩
theorem wild_is (p : ByteArray) : wildB p = Lib.contains p.data.toList dots := by
  unfold wildB Lib.contains
  generalize p.data.toList = l
  rw [Bool.eq_iff_iff, decide_eq_true_iff]
  rcases Lib.index_spec l dots with ⟨h1, _⟩ | ⟨j, h1, _⟩
  · rw [tok_miss h1, h1]
    constructor
    · intro h
      obtain ⟨x, hx, hn⟩ := List.any_eq_true.1 h
      obtain ⟨y, _, rfl⟩ := List.mem_map.1 hx
      cases hn
    · intro h; omega
  · rw [tok_hit h1, h1]
    constructor
    · intro _; omega
    · intro _; simp
theorem xs_split : ∀ (k : Nat) (l : List UInt8), Lib.count l dots = k → xsOf l = Lib.replaceK dots [120] k l
  | 0, l, h => by
    rcases Lib.index_spec l dots with ⟨h1, _⟩ | ⟨j, h1, _⟩
    · unfold xsOf
      rw [tok_miss h1, List.map_map, show ((fun t : Option UInt8 => t.getD 120) ∘ some) = id from rfl, List.map_id]; rfl
    · rw [Lib.count_hit dots_ne h1] at h; omega
  | k + 1, l, h => by
    rcases Lib.index_spec l dots with ⟨h1, _⟩ | ⟨j, h1, _⟩
    · rw [Lib.count_miss h1] at h; omega
    · rw [Lib.count_hit dots_ne h1] at h
      have ih := xs_split k (l.drop (j + dots.length)) (by omega)
      rw [Lib.replaceK_hit _ _ _ _ j h1, ← ih]
      unfold xsOf
      rw [tok_hit h1, List.map_append, List.map_cons]
      have e : (l.take j).map ((fun t => t.getD 120) ∘ some) = l.take j := by
        rw [show ((fun t : Option UInt8 => t.getD 120) ∘ some) = id from rfl, List.map_id]
      rw [List.map_map, e, List.append_assoc]; rfl
theorem xs_is (l : List UInt8) : xsOf l = Lib.replaceAll l dots [120] := by
  rw [xs_split _ l rfl]
  unfold Lib.replaceAll Lib.replace Lib.replaceNum
  rw [if_neg (show ¬ (dots == [120]) = true by decide), if_pos (Or.inl (by decide))]
theorem xs_len (l : List UInt8) : (xsOf l).length ≤ l.length := by
  unfold xsOf
  rw [List.length_map]
  exact tok_len l
theorem piece_small : ∀ (k : Nat) (l x : List UInt8), x ∈ Lib.splitK dots 0 k l → x.length ≤ l.length
  | 0, l, x, h => by
    unfold Lib.splitK at h
    rw [List.mem_singleton.1 h]; exact Nat.le_refl _
  | k + 1, l, x, h => by
    unfold Lib.splitK at h
    split at h
    · rw [List.mem_singleton.1 h]; exact Nat.le_refl _
    · rcases List.mem_cons.1 h with rfl | h
      · rw [List.length_take]; omega
      · have := piece_small k _ x h
        rw [List.length_drop] at this; omega
end Ve
end Go.Proofs.YtfdinpmpchmifaaGreatDoor

/-
  What is asked of Match, Wild, Check and Some of package pat (their contracts, by name); the closed fact of the statements.
-/
namespace Go.Proofs.YtfdinpmpchmifaaGreatDoor
open Go.RowKit
namespace Ve

/-- What stays so where old memory stays as it is. -/
def StayT (T : World → Prop) : Prop := ∀ W W', T W → Below W.heap.size W W' → T W'
/-- T: what the laid variables give. -/
def MatchC (T : World → Prop) : Prop := ∀ (p s : ByteArray) (w : World), p.size ≤ 100 → s.size ≤ 100 → T w → Calls Tryz.prog 11 #[.string p, .string s] w fun e w' => e = .returned (.bool (ismB p s)) ∧ Below w.heap.size w w'
def WildC (T : World → Prop) : Prop := ∀ (p : ByteArray) (w : World), p.size ≤ 100 → T w → Calls Tryz.prog 9 #[.string p] w fun e w' => e = .returned (.bool (wildB p)) ∧ Below w.heap.size w w'
set_option maxRecDepth 100000 in
theorem pd_1 : ismB ⟨#[97, 47, 46, 46, 46]⟩ ⟨#[97]⟩ = true := by decide
set_option maxRecDepth 100000 in
theorem pd_2 : ismB ⟨#[97, 47, 46, 46, 46, 99]⟩ ⟨#[97, 47, 98, 47, 99]⟩ = true := by decide
set_option maxRecDepth 100000 in
theorem pd_3 : ismB ⟨#[97, 46, 46, 46]⟩ ⟨#[98]⟩ = false := by decide
set_option maxRecDepth 100000 in
theorem pd_4 : wildB ⟨#[97, 46, 46, 46]⟩ = true := by decide
/-- pewholderlaw3.patterned. -/
theorem patterned_any {T : World → Prop} (MC : MatchC T) (WC : WildC T) (KT : StayT T) (w : World) (hT : T w) : Calls Tryz.prog 4 #[] w fun e w' => e = .returned (.bool true) ∧ Below w.heap.size w w' := by
  have H1 := hid (MC ⟨#[97, 47, 46, 46, 46]⟩ ⟨#[97]⟩ w (by decide) (by decide) hT)
  have H2 := hid (fun W (h : Below w.heap.size w W) => MC ⟨#[97, 47, 46, 46, 46, 99]⟩ ⟨#[97, 47, 98, 47, 99]⟩ W (by decide) (by decide) (KT w W hT h))
  have H3 := hid (fun W (h : Below w.heap.size w W) => MC ⟨#[97, 46, 46, 46]⟩ ⟨#[98]⟩ W (by decide) (by decide) (KT w W hT h))
  have H4 := hid (fun W (h : Below w.heap.size w W) => WC ⟨#[97, 46, 46, 46]⟩ W (by decide) (KT w W hT h))
  rw [pd_1] at H1
  rw [pd_2] at H2
  rw [pd_3] at H3
  rw [pd_4] at H4
  clear MC WC KT hT
  go_enter Tryz.func4, Tryz.ntmps4
  go_wp2_with fail
  refine H1.out.mono ?_
  rintro e w1 ⟨rfl, hb⟩
  have HB1 := hid hb
  clear hb
  go_wp2_with fail
  refine (H2.out _ HB1.out).mono ?_
  rintro e w2 ⟨rfl, hb⟩
  have HB2 := hid (HB1.out.trans (hb.mono HB1.out.size))
  clear hb
  go_wp2_with fail
  refine (H3.out _ HB2.out).mono ?_
  rintro e w3 ⟨rfl, hb⟩
  have HB3 := hid (HB2.out.trans (hb.mono HB2.out.size))
  clear hb
  go_wp2_with fail
  refine (H4.out _ HB3.out).mono ?_
  rintro e w4 ⟨rfl, hb⟩
  have HB4 := hid (HB3.out.trans (hb.mono HB3.out.size))
  clear hb
  go_wp2_with fail
  go_ret
  exact ⟨rfl, HB4.out⟩
end Ve
end Go.Proofs.YtfdinpmpchmifaaGreatDoor

/-
  Facts of an index of a loop.
-/
namespace Go.Proofs.YtfdinpmpchmifaaGreatDoor
open Go.RowKit
namespace Ve

theorem ix_lt {i n : Nat} (h : i < n) : (i : Int) < (n : Int) := Int.ofNat_lt.2 h
theorem ix_nlt {i n : Nat} (h : ¬ i < n) : ¬ (i : Int) < (n : Int) := fun e => h (Int.ofNat_lt.1 e)
theorem ix_pos (i : Nat) : (0 : Int) ≤ (i : Int) := Int.natCast_nonneg _
theorem ix_pos1 (i : Nat) : (0 : Int) ≤ (i : Int) + 1 := by omega
theorem ix_lt1 {i n : Nat} (h : i + 1 < n) : (i : Int) + 1 < (n : Int) := by omega
theorem ix_nlt1 {i n : Nat} (h : ¬ i + 1 < n) : ¬ (i : Int) + 1 < (n : Int) := by omega
theorem ix_nat1 (i : Nat) : ((i : Int) + 1).toNat = i + 1 := by omega
theorem ix_w1 {i n : Nat} (h : i < n) (hn : n ≤ 1000000) : wrap64 ((i : Int) + 1) = (i : Int) + 1 := IntWalk.wrap64_in _ (by omega)
theorem ix_k1 {i n : Nat} (h : i < n) (hn : n ≤ 1000000) : IntKind.i64.wrap ((i : Int) + 1) = (i : Int) + 1 := by rw [IntKind.wrap_i64] <;> omega
theorem nx_idx {t n : Nat} (h : t < n) (h2 : n ≤ 1000000) : Value.int .i64 (wrap64 ((t : Int) + 1)) = .int .i64 ((t + 1 : Nat) : Int) := by
  rw [IntWalk.wrap64_in _ (by omega)]; rfl
theorem nx_meas {t n : Nat} (h : t < n) (h2 : n ≤ 1000000) : n - (intOf (Value.int .i64 (wrap64 ((t : Int) + 1)))).toNat < n - (intOf (Value.int .i64 (t : Int))).toNat := by
  rw [IntWalk.wrap64_in _ (by omega)]
  show n - ((t : Int) + 1).toNat < n - ((t : Int)).toNat
  omega
theorem nr_idx (t : Nat) : Value.int .i64 ((t : Int) + 1) = .int .i64 ((t + 1 : Nat) : Int) := rfl
theorem nr_meas {t n : Nat} (h : t < n) : n - (intOf (Value.int .i64 ((t : Int) + 1))).toNat < n - (intOf (Value.int .i64 (t : Int))).toNat := by
  show n - ((t : Int) + 1).toNat < n - ((t : Int)).toNat
  omega
end Ve
end Go.Proofs.YtfdinpmpchmifaaGreatDoor

/-
  Contracts of library functions, laid at this program out of the compiled library, each by one application.
-/
namespace Go.Proofs
open Go.Shelf
def Tryz.lays104_ren : Go.Shelf.Ren := ⟨fun | 104 => 30 | 211 => 53 | 207 => 75 | n => n, fun | 9 => 9 | 4 => 4 | 24 => 49 | 3 => 3 | n => n, fun | n => n⟩
theorem Tryz.lays104 : Go.Proofs.Lays.n104 Tryz.prog Tryz.lays104_ren := {
  mixed := by kernel_rfl
  f104 := Tryz.func30.trans (congrArg some (by kernel_rfl))
  f207 := Tryz.func75.trans (congrArg some (by kernel_rfl))
  f211 := Tryz.func53.trans (congrArg some (by kernel_rfl))
  t3 := Tryz.underlying3
  a3 := Tryz.isAgg3
  z3 := Tryz.sizeOf3
  v3 := Tryz.zeroValue3
  t4 := Tryz.underlying4
  a4 := Tryz.isAgg4
  z4 := Tryz.sizeOf4
  v4 := Tryz.zeroValue4
  t9 := Tryz.underlying9
  a9 := Tryz.isAgg9
  z9 := Tryz.sizeOf9
  v9 := Tryz.zeroValue9
  t24 := Tryz.underlying49
  a24 := Tryz.isAgg49
  z24 := Tryz.sizeOf49
  v24 := Tryz.zeroValue49 }
open Go.RowKit in
theorem Tryz.strings_CutSuffix (s p : ByteArray) (w : World) (hs : s.size ≤ 9223372036854775807) :
    Calls Tryz.prog 30 #[.string s, .string p] w fun e w' => e = .returned (.tuple #[.string ⟨(Lib.trimSuffix s.data.toList p.data.toList).toArray⟩, .bool (Lib.hasSuffix s.data.toList p.data.toList)]) ∧ w' = w := Any.strings_CutSuffix Tryz.lays104 s p w hs
def Tryz.lays100_ren : Go.Shelf.Ren := ⟨fun | 100 => 52 | 207 => 75 | n => n, fun | 9 => 9 | 4 => 4 | 3 => 3 | n => n, fun | n => n⟩
theorem Tryz.lays100 : Go.Proofs.Lays.n100 Tryz.prog Tryz.lays100_ren := {
  mixed := by kernel_rfl
  f100 := Tryz.func52.trans (congrArg some (by kernel_rfl))
  f207 := Tryz.func75.trans (congrArg some (by kernel_rfl))
  t3 := Tryz.underlying3
  a3 := Tryz.isAgg3
  z3 := Tryz.sizeOf3
  v3 := Tryz.zeroValue3
  t4 := Tryz.underlying4
  a4 := Tryz.isAgg4
  z4 := Tryz.sizeOf4
  v4 := Tryz.zeroValue4
  t9 := Tryz.underlying9
  a9 := Tryz.isAgg9
  z9 := Tryz.sizeOf9
  v9 := Tryz.zeroValue9 }
open Go.RowKit Go.Lib in
theorem Tryz.strings_HasSuffix (s p : ByteArray) (w : World) (hs : s.size ≤ 9223372036854775807) :
    Calls Tryz.prog 52 #[.string s, .string p] w fun e w' => e = .returned (.bool (Lib.hasSuffix s.data.toList p.data.toList)) ∧ w' = w := Any.strings_HasSuffix Tryz.lays100 s p w hs
def Tryz.lays155_ren : Go.Shelf.Ren := ⟨fun | 155 => 17 | 154 => 25 | 138 => 39 | 165 => 40 | 143 => 28 | 166 => 41 | 197 => 42 | 169 => 43 | 195 => 63 | 218 => 64 | 240 => 65 | 241 => 66 | 219 => 46 | 260 => 67 | 276 => 83 | 277 => 84 | 217 => 68 | 225 => 69 | 224 => 70 | 267 => 71 | 266 => 85 | 314 => 86 | n => n, fun | 9 => 9 | 3 => 3 | 4 => 4 | 72 => 70 | 0 => 0 | 76 => 72 | 105 => 74 | 21 => 21 | 5 => 5 | 70 => 67 | 20 => 20 | 37 => 68 | 75 => 27 | 127 => 99 | 164 => 51 | 46 => 101 | 119 => 109 | 139 => 112 | 138 => 111 | 146 => 114 | 51 => 113 | 80 => 76 | n => n, fun | 1 => 11 | 3 => 12 | 4 => 13 | n => n⟩
theorem Tryz.lays155 : Go.Proofs.Lays.n155 Tryz.prog Tryz.lays155_ren := {
  mixed := by kernel_rfl
  f138 := Tryz.func39.trans (congrArg some (by kernel_rfl))
  f143 := Tryz.func28.trans (congrArg some (by kernel_rfl))
  f154 := Tryz.func25.trans (congrArg some (by kernel_rfl))
  f155 := Tryz.func17.trans (congrArg some (by kernel_rfl))
  f165 := Tryz.func40.trans (congrArg some (by kernel_rfl))
  f166 := Tryz.func41.trans (congrArg some (by kernel_rfl))
  f169 := Tryz.func43.trans (congrArg some (by kernel_rfl))
  f195 := Tryz.func63.trans (congrArg some (by kernel_rfl))
  f197 := Tryz.func42.trans (congrArg some (by kernel_rfl))
  f217 := Tryz.func68.trans (congrArg some (by kernel_rfl))
  f218 := Tryz.func64.trans (congrArg some (by kernel_rfl))
  f219 := Tryz.func46.trans (congrArg some (by kernel_rfl))
  f224 := Tryz.func70.trans (congrArg some (by kernel_rfl))
  f225 := Tryz.func69.trans (congrArg some (by kernel_rfl))
  f240 := Tryz.func65.trans (congrArg some (by kernel_rfl))
  f241 := Tryz.func66.trans (congrArg some (by kernel_rfl))
  f260 := Tryz.func67.trans (congrArg some (by kernel_rfl))
  f266 := Tryz.func85.trans (congrArg some (by kernel_rfl))
  f267 := Tryz.func71.trans (congrArg some (by kernel_rfl))
  f276 := Tryz.func83.trans (congrArg some (by kernel_rfl))
  f277 := Tryz.func84.trans (congrArg some (by kernel_rfl))
  f314 := Tryz.func86.trans (congrArg some (by kernel_rfl))
  t0 := Tryz.underlying0
  a0 := Tryz.isAgg0
  z0 := Tryz.sizeOf0
  v0 := Tryz.zeroValue0
  t3 := Tryz.underlying3
  a3 := Tryz.isAgg3
  z3 := Tryz.sizeOf3
  v3 := Tryz.zeroValue3
  t4 := Tryz.underlying4
  a4 := Tryz.isAgg4
  z4 := Tryz.sizeOf4
  v4 := Tryz.zeroValue4
  t5 := Tryz.underlying5
  a5 := Tryz.isAgg5
  z5 := Tryz.sizeOf5
  v5 := Tryz.zeroValue5
  t9 := Tryz.underlying9
  a9 := Tryz.isAgg9
  z9 := Tryz.sizeOf9
  v9 := Tryz.zeroValue9
  t20 := Tryz.underlying20
  a20 := Tryz.isAgg20
  z20 := Tryz.sizeOf20
  v20 := Tryz.zeroValue20
  t21 := Tryz.underlying21
  a21 := Tryz.isAgg21
  z21 := Tryz.sizeOf21
  v21 := Tryz.zeroValue21
  t37 := Tryz.underlying68
  a37 := Tryz.isAgg68
  z37 := Tryz.sizeOf68
  v37 := Tryz.zeroValue68
  t46 := Tryz.underlying101
  a46 := Tryz.isAgg101
  z46 := Tryz.sizeOf101
  v46 := Tryz.zeroValue101
  t51 := Tryz.underlying113
  a51 := Tryz.isAgg113
  z51 := Tryz.sizeOf113
  v51 := Tryz.zeroValue113
  t70 := Tryz.underlying67
  a70 := Tryz.isAgg67
  z70 := Tryz.sizeOf67
  v70 := Tryz.zeroValue67
  t72 := Tryz.underlying70
  a72 := Tryz.isAgg70
  z72 := Tryz.sizeOf70
  v72 := Tryz.zeroValue70
  t75 := Tryz.underlying27
  a75 := Tryz.isAgg27
  z75 := Tryz.sizeOf27
  v75 := Tryz.zeroValue27
  t76 := Tryz.underlying72
  a76 := Tryz.isAgg72
  z76 := Tryz.sizeOf72
  v76 := Tryz.zeroValue72
  t105 := Tryz.underlying74
  a105 := Tryz.isAgg74
  z105 := Tryz.sizeOf74
  v105 := Tryz.zeroValue74
  t119 := Tryz.underlying109
  a119 := Tryz.isAgg109
  z119 := Tryz.sizeOf109
  t127 := Tryz.underlying99
  a127 := Tryz.isAgg99
  z127 := Tryz.sizeOf99
  v127 := Tryz.zeroValue99
  t138 := Tryz.underlying111
  a138 := Tryz.isAgg111
  z138 := Tryz.sizeOf111
  v138 := Tryz.zeroValue111
  t139 := Tryz.underlying112
  a139 := Tryz.isAgg112
  z139 := Tryz.sizeOf112
  v139 := Tryz.zeroValue112
  t146 := Tryz.underlying114
  a146 := Tryz.isAgg114
  z146 := Tryz.sizeOf114
  v146 := Tryz.zeroValue114
  t164 := Tryz.underlying51
  a164 := Tryz.isAgg51
  z164 := Tryz.sizeOf51
  v164 := Tryz.zeroValue51
  g1 := by kernel_rfl
  g3 := by kernel_rfl
  g4 := by kernel_rfl }
theorem Tryz.Builder_Extra_155 : Builder.Extra Tryz.prog Tryz.lays155_ren := {
  sizeBuilder := by kernel_rfl
  liesBuilder := by kernel_rfl
  t5 := Tryz.underlying5
  a5 := Tryz.isAgg5
  z5 := Tryz.sizeOf5
  v5 := Tryz.zeroValue5
  infoByte := by kernel_rfl
  cellsByte := by kernel_rfl
  sizeByte := by kernel_rfl
  neB5 := by decide }
open Go.RowKit Go.Lib in
theorem Tryz.strings_ReplaceAll (s old new : ByteArray) (m : Int) (w : World) (hs : s.size < 4294967281) (hm : w.cell? ⟨11, 0, none⟩ = some (.int .i64 m)) (h1 : 1 ≤ old.size) (hlen : s.size + Lib.countB s old * new.size ≤ 140737488355328) :
    Calls Tryz.prog 17 #[.string s, .string old, .string new] w fun e w' =>
      e = .returned (.string ⟨(Lib.replaceAll s.data.toList old.data.toList new.data.toList).toArray⟩) ∧ Below w.heap.size w w' := Any.strings_ReplaceAll Tryz.lays155 Tryz.Builder_Extra_155 s old new m w hs hm h1 hlen
end Go.Proofs

/-
  What Match and Wild of package pat answer for any pattern and any text; nothing old in memory turns.
-/
namespace Go.Proofs.YtfdinpmpchmifaaGreatDoor
open Go.RowKit
namespace Ve

/-- A test of texts, as a function in memory. -/
def TstC (w : World) (f : Value) (P : ByteArray → Bool) : Prop := ∃ K cb, f = .func (.func K) #[] cb ∧ (∀ args w, (callFunc K args).run Tryz.prog w = .ok (.enter K args) w) ∧
  ∀ W s, Below w.heap.size w W → s.size ≤ 100 → Calls Tryz.prog K (#[.string s] ++ cb) W fun e W' => e = .returned (.bool (P s)) ∧ Below W.heap.size W W'
theorem TstC.below {w w' : World} {f : Value} {P : ByteArray → Bool} (h : TstC w f P) (hb : Below w.heap.size w w') : TstC w' f P := by
  obtain ⟨K, cb, e, en, hK⟩ := h
  exact ⟨K, cb, e, en, fun W s hW hs => hK W s (hb.trans (hW.mono hb.size)) hs⟩
theorem enPc1 : ∀ args w, (callFunc 48 args).run Tryz.prog w = .ok (.enter 48 args) w := enters_of Tryz.func48 (by kernel_rfl) rfl
theorem enPc2 : ∀ args w, (callFunc 49 args).run Tryz.prog w = .ok (.enter 49 args) w := enters_of Tryz.func49 (by kernel_rfl) rfl
theorem enMr1 : ∀ args w, (callFunc 31 args).run Tryz.prog w = .ok (.enter 31 args) w := enters_of Tryz.func31 (by kernel_rfl) rfl
theorem bl_split3 (s : ByteArray) : bl (Lib.splitB ⟨#[46, 46, 46]⟩ 0 (Lib.countB s ⟨#[46, 46, 46]⟩) s) = pcs s.data.toList := by
  unfold bl
  rw [Lib.splitB_data]; rfl
/-- strings.Split at any text. -/
theorem split3_any (s : ByteArray) (m : Int) (w : World) (hs : s.size < 4294967281) (hm : w.cell? ⟨11, 0, none⟩ = some (.int .i64 m)) :
    Calls Tryz.prog 47 #[.string s, .string ⟨#[46, 46, 46]⟩] w fun e w' => ∃ X : List ByteArray, e = .returned (.slice (some ⟨w.heap.size, 0, none⟩) X.length X.length) ∧ bl X = pcs s.data.toList ∧
      (∀ j (h : j < X.length), w'.cell? ⟨w.heap.size, j, none⟩ = some (.string X[j])) ∧ Below w.heap.size w w' := by
  refine (Tryz.strings_Split s ⟨#[46, 46, 46]⟩ m w hs hm (by decide)).mono fun e w' ⟨h1, h2⟩ => ?_
  have hlen := Lib.splitB_all ⟨#[46, 46, 46]⟩ (by decide) 0 _ s rfl
  refine ⟨Lib.splitB ⟨#[46, 46, 46]⟩ 0 (Lib.countB s ⟨#[46, 46, 46]⟩) s, ?_, bl_split3 s, ?_, ?_⟩
  · rw [h1, hlen]
  · intro j hj
    rw [h2, World.cell?_alloc_at _ _ _ _ rfl]
    simp [hj]
  · rw [h2]; exact (Below.refl _ _).alloc (Nat.le_refl _) _
theorem pcK1_any (s p : ByteArray) (b : Nat) (W : World) (h0 : W.cell? ⟨b, 0, none⟩ = some (.string p)) :
    Calls Tryz.prog 48 (#[.string s] ++ #[.pointer (some ⟨b, 0, none⟩)]) W fun e W' => e = .returned (.bool (s.toList == p.toList)) ∧ Below W.heap.size W W' := by
  show Calls Tryz.prog 48 #[.string s, .pointer (some ⟨b, 0, none⟩)] W _
  go_enter Tryz.func48, Tryz.ntmps48
  go_wp2_with fail
  go_ret
  exact ⟨rfl, Below.refl _ _⟩
theorem mrK_any (s : ByteArray) (P Q : ByteArray → Bool) (f g : Value) (b c : Nat) (W : World) (hs : s.size ≤ 100) (hf : TstC W f P) (hg : TstC W g Q) (h0 : W.cell? ⟨b, 0, none⟩ = some f) (h1 : W.cell? ⟨c, 0, none⟩ = some g) :
    Calls Tryz.prog 31 (#[.string s] ++ #[.pointer (some ⟨b, 0, none⟩), .pointer (some ⟨c, 0, none⟩)]) W fun e W' => e = .returned (.bool (P s || Q s)) ∧ Below W.heap.size W W' := by
  show Calls Tryz.prog 31 #[.string s, .pointer (some ⟨b, 0, none⟩), .pointer (some ⟨c, 0, none⟩)] W _
  obtain ⟨K, cb, rfl, en, hK⟩ := hf
  obtain ⟨K2, cb2, rfl, en2, hK2⟩ := hg
  have HK := hid (hK W s (Below.refl _ _) hs)
  have HK2 := hid (fun W' (hb : Below W.heap.size W W') => hK2 W' s hb hs)
  have HC2 := hid (fun W' (hb : Below W.heap.size W W') => cell_below hb h1)
  clear hK hK2
  generalize Q s = y at *
  cases hz : P s
  · rw [hz] at HK
    clear hz
    go_enter Tryz.func31, Tryz.ntmps31
    go_wp2_with fail
    refine HK.out.mono ?_
    rintro e w1 ⟨rfl, hb⟩
    have HB := hid hb
    have x1 := HC2.out _ hb
    clear hb
    go_wp2_with fail
    refine (HK2.out _ HB.out).mono ?_
    rintro e w2 ⟨rfl, hb⟩
    have HB2 := hid (HB.out.trans (hb.mono HB.out.size))
    clear hb
    go_wp2_with fail
    go_ret
    exact ⟨rfl, HB2.out⟩
  · rw [hz] at HK
    clear hz
    go_enter Tryz.func31, Tryz.ntmps31
    go_wp2_with fail
    refine HK.out.mono ?_
    rintro e w1 ⟨rfl, hb⟩
    have HB := hid hb
    clear hb
    go_wp2_with fail
    go_ret
    exact ⟨rfl, HB.out⟩
/-- pat.Wild. -/
theorem wild_m (m : Int) : WildC (fun w => w.cell? ⟨11, 0, none⟩ = some (.int .i64 m)) := fun p w hp hm => by
  have HC := hid (Tryz.strings_Contains p ⟨#[46, 46, 46]⟩ m w (by omega) hm)
  have HW := hid (wild_is p)
  clear hm
  go_enter Tryz.func9, Tryz.ntmps9
  go_wp2_with fail
  refine HC.out.mono ?_
  rintro e w1 ⟨rfl, rfl⟩
  go_wp2_with fail
  go_ret
  exact ⟨by rw [HW.out]; rfl, Below.refl _ _⟩
end Ve
end Go.Proofs.YtfdinpmpchmifaaGreatDoor

/-
  What the functions answer that package pat makes of a pattern, and so what Match answers; nothing old in memory turns.
-/
namespace Go.Proofs.YtfdinpmpchmifaaGreatDoor
open Go.RowKit
namespace Ve

theorem cut_le (s a : List UInt8) : (Lib.cut s a).2.1.length ≤ s.length := by
  unfold Lib.cut
  split
  · show (s.drop _).length ≤ _
    rw [List.length_drop]; omega
  · exact Nat.zero_le _
theorem bl_drop {X : List ByteArray} {k : Nat} (h : k < X.length) : bl (X.drop k) = X[k].data.toList :: bl (X.drop (k + 1)) := by
  rw [List.drop_eq_getElem_cons h]; rfl
set_option maxHeartbeats 4000000 in
set_option maxRecDepth 100000 in
theorem pcK2_any (s : ByteArray) (X : List ByteArray) (g b c : Nat) (m : Int) (W : World) (z : Bool) (hs : s.size ≤ 100) (hX : 2 ≤ X.length) (hX9 : X.length ≤ 1000) (hm : W.cell? ⟨11, 0, none⟩ = some (.int .i64 m))
    (h0 : W.cell? ⟨b, 0, none⟩ = some (.slice (some ⟨g, 0, none⟩) X.length X.length)) (h1 : W.cell? ⟨c, 0, none⟩ = some (.int .i64 ((X.length - 1 : Nat) : Int))) (hc : ∀ j (h : j < X.length), W.cell? ⟨g, j, none⟩ = some (.string X[j]))
    (hz : z = (Lib.hasPrefix s.data.toList (X[0]'(by omega)).data.toList && grd (bl (X.drop 1)) (Lib.trimPrefix s.data.toList (X[0]'(by omega)).data.toList))) :
    Calls Tryz.prog 49 (#[.string s] ++ #[.pointer (some ⟨b, 0, none⟩), .pointer (some ⟨c, 0, none⟩)]) W fun e W' => e = .returned (.bool z) ∧ Below W.heap.size W W' := by
  show Calls Tryz.prog 49 #[.string s, .pointer (some ⟨b, 0, none⟩), .pointer (some ⟨c, 0, none⟩)] W _
  have x0 := hc 0 (by omega)
  have HC := hid hc
  have HP := hid (Tryz.strings_CutPrefix s (X[0]'(by omega)) W)
  have HZ := hid hz
  have l0 : (0 : Int) < (X.length : Int) := by omega
  have l1 : (1 : Int) ≤ ((X.length - 1 : Nat) : Int) := by omega
  have l2 : ((X.length - 1 : Nat) : Int) ≤ (X.length : Int) := by omega
  clear hc hz
  go_enter Tryz.func49, Tryz.ntmps49
  go_wp2_with fail
  refine HP.out.mono ?_
  rintro e w1 ⟨rfl, rfl⟩
  have HR0 := hid (show (⟨(Lib.trimPrefix s.data.toList (X[0]'(by omega)).data.toList).toArray⟩ : ByteArray).size ≤ 100 by
    have := Lib.trimPrefix_le s.data.toList (X[0]'(by omega)).data.toList
    rw [len_eq] at this
    show (Lib.trimPrefix s.data.toList (X[0]'(by omega)).data.toList).toArray.size ≤ 100
    rw [List.size_toArray]; omega)
  have HZ0 := hid (show z = (Lib.hasPrefix s.data.toList (X[0]'(by omega)).data.toList && grd (bl (X.drop (0 + 1))) (⟨(Lib.trimPrefix s.data.toList (X[0]'(by omega)).data.toList).toArray⟩ : ByteArray).data.toList) by rw [HZ.out])
  clear HZ HP
  generalize (⟨(Lib.trimPrefix s.data.toList (X[0]'(by omega)).data.toList).toArray⟩ : ByteArray) = R0 at *
  generalize Lib.hasPrefix s.data.toList (X[0]'(by omega)).data.toList = f0 at *
  go_wp2_with fail
  clear x0
  go_loopw [5, 6, 21] (fun rv fv iv wr => ∃ (k : Nat) (R : ByteArray) (fd : Bool), k ≤ X.length - 1 - 1 ∧ iv = .int .i64 k ∧ rv = .string R ∧ fv = .bool fd ∧ R.size ≤ 100 ∧ Hid (z = (fd && grd (bl (X.drop (k + 1))) R.data.toList)) ∧ Hid (Below w1.heap.size w1 wr)) (fun _ _ iv _ => X.length - 1 - 1 - (intOf iv).toNat)
  case atStart => exact ⟨0, R0, f0, Nat.zero_le _, rfl, rfl, rfl, HR0.out, HZ0, hid (Below.refl _ _)⟩
  case round =>
    obtain ⟨k, R, fd, hk, rfl, rfl, rfl, hR, HZK, HB⟩ := hrel
    clear HR0 HZ0
    by_cases hlt : k < X.length - 1 - 1
    · have hkI := ix_lt hlt
      have hk0 := ix_pos k
      have HLT := hid hlt
      have y0 : wr.cell? ⟨g, 1 + k, none⟩ = some (.string (X[k + 1]'(by omega))) := by rw [Nat.add_comm 1 k]; exact cell_below HB.out (HC.out (k + 1) (by omega))
      have HCT := hid (Tryz.strings_Cut R (X[k + 1]'(by omega)) m wr (by omega) (cell_below HB.out hm))
      have HG := hid (show grd (bl (X.drop (k + 1))) R.data.toList = ((Lib.cut R.data.toList (X[k + 1]'(by omega)).data.toList).2.2 && grd (bl (X.drop (k + 1 + 1))) (Lib.cut R.data.toList (X[k + 1]'(by omega)).data.toList).2.1) by
        rw [bl_drop (show k + 1 < X.length by omega)]
        exact grd_cons _ (by intro h; have := congrArg List.length h; rw [bl_len, List.length_drop] at this; simp at this; omega) _)
      have HSZ := hid (show (⟨(Lib.cut R.data.toList (X[k + 1]'(by omega)).data.toList).2.1.toArray⟩ : ByteArray).size ≤ 100 by
        have := cut_le R.data.toList (X[k + 1]'(by omega)).data.toList
        rw [len_eq] at this
        show (Lib.cut R.data.toList (X[k + 1]'(by omega)).data.toList).2.1.toArray.size ≤ 100
        rw [List.size_toArray]; omega)
      generalize X[k + 1]'(by omega) = x at *
      clear hlt
      cases fd
      · go_wp2_with fail
        go_ret
        exact ⟨by rw [HZK.out]; rfl, HB.out⟩
      · go_wp2_with fail
        refine HCT.out.mono ?_
        rintro e w2 ⟨rfl, n2, rfl⟩
        have HB2 := hid (HB.out.trans ((below_drawn wr n2).mono HB.out.size))
        go_wp2_with fail
        go_roundw
        case rel => exact ⟨k + 1, _, _, HLT.out, by first | exact nr_idx k | exact nx_idx HLT.out (by omega : X.length - 1 - 1 ≤ 1000000), rfl, rfl, HSZ.out, hid (by rw [HZK.out, HG.out]; rfl), HB2⟩
        case measure => first | exact nr_meas HLT.out | exact nx_meas HLT.out (by omega : X.length - 1 - 1 ≤ 1000000)
    · have hkI := ix_nlt hlt
      have hke : k = X.length - 1 - 1 := by omega
      have HG := hid (show grd (bl (X.drop (k + 1))) R.data.toList = Lib.hasSuffix R.data.toList (X[X.length - 1]'(by omega)).data.toList by
        have e : bl (X.drop (k + 1)) = [(X[X.length - 1]'(by omega)).data.toList] := by
          have e1 : k + 1 = X.length - 1 := by omega
          rw [e1, bl_drop (show X.length - 1 < X.length by omega), List.drop_eq_nil_of_le (by omega)]; rfl
        rw [e]; rfl)
      have y0 := cell_below HB.out (HC.out (X.length - 1) (by omega))
      have z0 := cell_below HB.out h0
      have z1 := cell_below HB.out h1
      have l3 : (0 : Int) ≤ ((X.length - 1 : Nat) : Int) := by omega
      have l4 : ((X.length - 1 : Nat) : Int) < (X.length : Int) := by omega
      have HH := hid (Tryz.strings_HasSuffix R (X[X.length - 1]'(by omega)) wr (by omega))
      generalize X[X.length - 1]'(by omega) = x at *
      clear hlt hke
      cases fd
      · go_wp2_with fail
        go_ret
        exact ⟨by rw [HZK.out]; rfl, HB.out⟩
      · go_wp2_with fail
        refine HH.out.mono ?_
        rintro e w2 ⟨rfl, rfl⟩
        go_wp2_with fail
        go_ret
        exact ⟨by rw [HZK.out, HG.out]; rfl, HB.out⟩
theorem pcs_many (l : List UInt8) : (pcs l).length ≤ l.length + 1 := by
  have h := Lib.splitB_all ⟨#[46, 46, 46]⟩ (by decide) 0 _ (⟨l.toArray⟩ : ByteArray) rfl
  have h2 := Lib.countB_le ⟨#[46, 46, 46]⟩ (by decide) _ (⟨l.toArray⟩ : ByteArray) (Nat.le_refl _)
  have h3 := bl_split3 (⟨l.toArray⟩ : ByteArray)
  have h4 := congrArg List.length h3
  rw [bl_len, h] at h4
  have h5 : (⟨l.toArray⟩ : ByteArray).size = l.length := by show l.toArray.size = _; simp
  have h6 : (⟨l.toArray⟩ : ByteArray).data.toList = l := rfl
  rw [h6] at h4
  omega
theorem eq_list (s p : ByteArray) : (s.toList == p.toList) = decide (s.data.toList = p.data.toList) := by
  rw [ByteArray.toList_eq, ByteArray.toList_eq, Bool.eq_iff_iff, beq_iff_eq, decide_eq_true_iff]
set_option maxHeartbeats 4000000 in
set_option maxRecDepth 100000 in
/-- pat.pieces. -/
theorem pieces_any (p : ByteArray) (m : Int) (w : World) (hp : p.size ≤ 100) (hm : w.cell? ⟨11, 0, none⟩ = some (.int .i64 m)) :
    Calls Tryz.prog 29 #[.string p] w fun e w' => ∃ f, e = .returned f ∧ TstC w' f (matB p) ∧ Below w.heap.size w w' := by
  have HB0 := hid ((Below.refl w.heap.size w).alloc (Nat.le_refl _) (.cells #[.string p] 9))
  have HSP := hid (split3_any p m (w.alloc (.cells #[.string p] 9)) (by omega) (cell_below HB0.out hm))
  have HM := hid (fun W (h : Below w.heap.size w W) => cell_below h hm)
  have hc0 : (w.alloc (.cells #[.string p] 9)).cell? ⟨w.heap.size, 0, none⟩ = some (.string p) := by simp
  have HCM := hid (pcs_many p.data.toList)
  clear hm
  go_enter Tryz.func29, Tryz.ntmps29
  go_wp2_with fail
  refine HSP.out.mono ?_
  rintro e w1 ⟨X, rfl, hX, hcl, hb⟩
  have HB1 := hid (HB0.out.trans (hb.mono HB0.out.size))
  have x0 := cell_below hb hc0
  have HX := hid hX
  have HCL := hid hcl
  have HL := hid (show X.length = (pcs p.data.toList).length by rw [← hX, bl_len])
  have HL9 := hid (show X.length ≤ 1000 by have h1 := HL.out; have h2 := HCM.out; rw [len_eq] at h2; omega)
  have HLP := hid (show 0 < X.length by rw [HL.out]; exact List.length_pos_iff.2 (pcs_ne _))
  have HW1 := hid (show w1.heap.size > 0 from Nat.lt_of_le_of_lt (Nat.zero_le _) (lt_of_cell x0))
  have hl1 : wrap64 ((X.length : Int) - 1) = ((X.length - 1 : Nat) : Int) := by
    have h1 := HLP.out; have h2 := HL9.out
    rw [IntWalk.wrap64_in _ (by omega)]; omega
  clear hX hcl hb hc0 HB0 HSP HCM
  have HCL1 := hid (show ∀ (j : Nat) (h : j < X.length), w1.cell? ⟨w.heap.size + 1, j, none⟩ = some (.string X[j]) from fun j h => by simpa using HCL.out j h)
  have HBA := hid (HB1.out.alloc HB1.out.size (.cells #[.slice (some ⟨w.heap.size + 1, 0, none⟩) X.length X.length] 22))
  have HBB := hid (HBA.out.alloc HBA.out.size (.cells #[.int .i64 ((X.length - 1 : Nat) : Int)] 3))
  have HNA := hid ((Below.refl w1.heap.size w1).alloc (Nat.le_refl _) (.cells #[.slice (some ⟨w.heap.size + 1, 0, none⟩) X.length X.length] 22))
  have HNB := hid (HNA.out.alloc HNA.out.size (.cells #[.int .i64 ((X.length - 1 : Nat) : Int)] 3))
  clear HCL
  by_cases h1 : X.length = 1
  · have d1 : ((((X.length - 1 : Nat) : Int)) == 0) = true := by rw [h1]; rfl
    have HZ := hid (fun s => mat_one (s := s) (p := p.data.toList) (by rw [← HL.out]; exact h1))
    clear h1
    go_wp2_with fail
    go_ret
    refine ⟨_, rfl, ⟨48, #[.pointer (some ⟨w.heap.size, 0, none⟩)], rfl, enPc1, fun W s hW hs => ?_⟩, HBB.out⟩
    refine (pcK1_any s p w.heap.size W (cell_below hW (cell_below HNB.out x0))).mono fun e W' ⟨he, hb⟩ => ⟨?_, hb⟩
    rw [he, eq_list]
    show _ = Ending.returned (.bool (mtB (tok p.data.toList) s.data.toList))
    rw [HZ.out]
  · have h2 : 2 ≤ X.length := by have := HLP.out; omega
    have d1 : ((((X.length - 1 : Nat) : Int)) == 0) = false := by rw [beq_eq_false_iff_ne]; omega
    have HZ := hid (fun s => mat_more (s := s) (p := p.data.toList) (a := (X[0]'(by omega)).data.toList) (r := bl (X.drop 1)) (by rw [← HX.out]; exact bl_drop (k := 0) (by omega)) (by intro h; have := congrArg List.length h; rw [bl_len, List.length_drop] at this; simp at this; omega))
    have H2 := hid h2
    clear h1
    go_wp2_with fail
    go_ret
    refine ⟨_, rfl, ⟨49, #[.pointer (some ⟨w1.heap.size, 0, none⟩), .pointer (some ⟨w1.heap.size + 1, 0, none⟩)], rfl, enPc2, fun W s hW hs => ?_⟩, HBB.out⟩
    exact pcK2_any s X (w.heap.size + 1) w1.heap.size (w1.heap.size + 1) m W (matB p s) hs H2.out HL9.out (HM.out W (HBB.out.trans (hW.mono HBB.out.size))) (cell_below hW (by simp)) (cell_below hW (by simp)) (fun j h => cell_below hW (cell_below HNB.out (HCL1.out j h))) (HZ.out _)
theorem TstC.call {w : World} {f : Value} {P : ByteArray → Bool} (h : TstC w f P) : ∃ K cb, f = .func (.func K) #[] cb ∧ (∀ args w, (callFunc K args).run Tryz.prog w = .ok (.enter K args) w) ∧ Hid (TstC w (.func (.func K) #[] cb) P) := by
  obtain ⟨K, cb, e, en, hK⟩ := h
  exact ⟨K, cb, e, en, ⟨K, cb, rfl, en, hK⟩⟩
/-- A pattern that may end ahead of its last slash. -/
theorem ism_shut {p s : ByteArray} (h : Lib.hasSuffix p.data.toList slashDots = false) : ismB p s = matB p s := by
  rw [← Lib.hasSuffix_of_drop] at h
  unfold ismB
  have e : (decide (4 ≤ p.size) && decide (p.data.toList.drop (p.size - 4) = slashDots)) = false := by
    rw [← h, len_eq, Bool.eq_iff_iff, Bool.and_eq_true, Bool.and_eq_true, decide_eq_true_iff, decide_eq_true_iff, decide_eq_true_iff, beq_iff_eq]; rfl
  rw [← Bool.and_assoc, e, Bool.false_and, Bool.or_false]
theorem ism_open {p s : ByteArray} (h : Lib.hasSuffix p.data.toList slashDots = true) : ismB p s = (matB p s || matB ⟨(Lib.trimSuffix p.data.toList slashDots).toArray⟩ s) := by
  have ht : Lib.trimSuffix p.data.toList slashDots = p.data.toList.take (p.size - 4) := by
    unfold Lib.trimSuffix
    rw [if_pos h, len_eq]; rfl
  have he : (⟨(Lib.trimSuffix p.data.toList slashDots).toArray⟩ : ByteArray) = p.extract 0 (p.size - 4) := by
    rw [ht, Lib.extract_eq]; simp
  rw [← Lib.hasSuffix_of_drop] at h
  unfold ismB
  have e : (decide (4 ≤ p.size) && decide (p.data.toList.drop (p.size - 4) = slashDots)) = true := by
    rw [← h, len_eq, Bool.eq_iff_iff, Bool.and_eq_true, Bool.and_eq_true, decide_eq_true_iff, decide_eq_true_iff, decide_eq_true_iff, beq_iff_eq]; rfl
  rw [← Bool.and_assoc, e, Bool.true_and, he]
set_option maxHeartbeats 4000000 in
set_option maxRecDepth 100000 in
/-- pat.matcher. -/
theorem matcher_any (p : ByteArray) (m : Int) (w : World) (hp : p.size ≤ 100) (hm : w.cell? ⟨11, 0, none⟩ = some (.int .i64 m)) :
    Calls Tryz.prog 21 #[.string p] w fun e w' => ∃ f, e = .returned f ∧ TstC w' f (ismB p) ∧ Below w.heap.size w w' := by
  have HP := hid (pieces_any p m w hp hm)
  have HM := hid (fun W (h : Below w.heap.size w W) => cell_below h hm)
  have HCS := hid (fun W => Tryz.strings_CutSuffix p ⟨#[47, 46, 46, 46]⟩ W (by omega))
  have HTS := hid (show (⟨(Lib.trimSuffix p.data.toList slashDots).toArray⟩ : ByteArray).size ≤ 100 by
    have := Lib.trimSuffix_le p.data.toList slashDots
    rw [len_eq] at this
    show (Lib.trimSuffix p.data.toList slashDots).toArray.size ≤ 100
    rw [List.size_toArray]; omega)
  clear hm
  cases ho : Lib.hasSuffix p.data.toList slashDots
  · have HI := hid (show ismB p = matB p from funext fun s => ism_shut ho)
    have HO := hid (fun W => show Calls Tryz.prog 30 #[.string p, .string ⟨#[47, 46, 46, 46]⟩] W fun e w' => ∃ h, e = .returned (.tuple #[.string h, .bool false]) ∧ w' = W from (HCS.out W).mono fun e w' ⟨h1, h2⟩ => ⟨⟨(Lib.trimSuffix p.data.toList slashDots).toArray⟩, by
      rw [h1, ← ho]; rfl, h2⟩)
    clear HCS ho
    go_enter Tryz.func21, Tryz.ntmps21
    go_wp2_with fail
    refine HP.out.mono ?_
    rintro e w1 ⟨f, rfl, hf, hb⟩
    obtain ⟨K, cb, rfl, en, HF⟩ := hf.call
    have HB1 := hid hb
    have HN := hid ((Below.refl w1.heap.size w1).alloc (Nat.le_refl _) (.cells #[.func (.func K) #[] cb] 24))
    clear hf hb
    go_wp2_with fail
    refine (HO.out _).mono ?_
    rintro e w2 ⟨h, rfl, rfl⟩
    go_wp2_with fail
    go_ret
    exact ⟨_, rfl, by rw [HI.out]; exact HF.out.below HN.out, HB1.out.trans (HN.out.mono HB1.out.size)⟩
  · have HI := hid (fun s => ism_open (s := s) ho)
    have HO := hid (fun W => show Calls Tryz.prog 30 #[.string p, .string ⟨#[47, 46, 46, 46]⟩] W fun e w' => e = .returned (.tuple #[.string ⟨(Lib.trimSuffix p.data.toList slashDots).toArray⟩, .bool true]) ∧ w' = W from (HCS.out W).mono fun e w' ⟨h1, h2⟩ => ⟨by
      rw [h1, ← ho]; rfl, h2⟩)
    generalize (⟨(Lib.trimSuffix p.data.toList slashDots).toArray⟩ : ByteArray) = h at *
    have HP2 := hid (fun W (hb : Below w.heap.size w W) => pieces_any h m W HTS.out (HM.out W hb))
    clear HCS ho
    go_enter Tryz.func21, Tryz.ntmps21
    go_wp2_with fail
    refine HP.out.mono ?_
    rintro e w1 ⟨f, rfl, hf, hb⟩
    obtain ⟨K, cb, rfl, en, HF⟩ := hf.call
    have HB1 := hid hb
    have HN := hid ((Below.refl w1.heap.size w1).alloc (Nat.le_refl _) (.cells #[.func (.func K) #[] cb] 24))
    have HB2 := hid (HB1.out.trans (HN.out.mono HB1.out.size))
    have HF2 := hid (HF.out.below HN.out)
    have x0 : (w1.alloc (.cells #[.func (.func K) #[] cb] 24)).cell? ⟨w1.heap.size, 0, none⟩ = some (.func (.func K) #[] cb) := by simp
    clear hf hb HF
    go_wp2_with fail
    refine (HO.out _).mono ?_
    rintro e w2 ⟨rfl, rfl⟩
    go_wp2_with fail
    refine (HP2.out _ HB2.out).mono ?_
    rintro e w3 ⟨f, rfl, hf, hb⟩
    obtain ⟨K2, cb2, rfl, en2, HG⟩ := hf.call
    have HB3 := hid (HB2.out.trans (hb.mono HB2.out.size))
    have HF3 := hid (HF2.out.below hb)
    have x1 := cell_below hb x0
    have HM3 := hid ((Below.refl w3.heap.size w3).alloc (Nat.le_refl _) (.cells #[.func (.func K2) #[] cb2] 24))
    clear hf hb x0
    go_wp2_with fail
    go_ret
    refine ⟨_, rfl, ⟨31, #[.pointer (some ⟨w1.heap.size, 0, none⟩), .pointer (some ⟨w3.heap.size, 0, none⟩)], rfl, enMr1, fun W s hW hs => ?_⟩, HB3.out.trans (HM3.out.mono HB3.out.size)⟩
    rw [HI.out]
    exact mrK_any s (matB p) (matB h) _ _ w1.heap.size w3.heap.size W hs ((HF3.out.below HM3.out).below hW) ((HG.out.below HM3.out).below hW) (cell_below hW (cell_below HM3.out x1)) (cell_below hW (by simp))
/-- pat.Match. -/
theorem match_m (m : Int) : MatchC (fun w => w.cell? ⟨11, 0, none⟩ = some (.int .i64 m)) := fun p s w hp hs hm => by
  have HM := hid (matcher_any p m w hp hm)
  clear hm
  go_enter Tryz.func11, Tryz.ntmps11
  go_wp2_with fail
  refine HM.out.mono ?_
  rintro e w1 ⟨f, rfl, ⟨K, cb, rfl, en, hK⟩, hb⟩
  have HB1 := hid hb
  have HK := hid (hK w1 s (Below.refl _ _) hs)
  clear hb hK
  go_wp2_with fail
  refine HK.out.mono ?_
  rintro e w2 ⟨rfl, hb⟩
  have HB2 := hid (HB1.out.trans (hb.mono HB1.out.size))
  clear hb
  go_wp2_with fail
  go_ret
  exact ⟨rfl, HB2.out⟩
end Ve
end Go.Proofs.YtfdinpmpchmifaaGreatDoor
