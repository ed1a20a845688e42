/-
  Patterns, plain: what is wild, and what always matches.
-/
import Derived.Test.YtccnagkfnmffpaaDoorPaP
import Derived.Test.YtccnagkfnmffpaaDoorRefA
namespace Go.Proofs.YtccnagkfnmffpaaDoor
open Go.RowKit
namespace Ve

/-- Does any text stand somewhere? -/
theorem tok_wild : ∀ l : List UInt8, (tok l).any Option.isNone = true ↔ ∃ i, i < l.length ∧ dots.isPrefixOf (l.drop i) = true
  | [] => by rw [tok_nil]; simp
  | c :: r => by
    cases h : dots.isPrefixOf (c :: r)
    · rw [tok_one h]
      simp only [List.any_cons, Option.isNone_some, Bool.false_or]
      rw [tok_wild r]
      constructor
      · rintro ⟨i, hi, hp⟩; exact ⟨i + 1, by simp only [List.length_cons]; omega, hp⟩
      · rintro ⟨i, hi, hp⟩
        cases i with
        | zero => rw [List.drop_zero, h] at hp; cases hp
        | succ i => exact ⟨i, by simp only [List.length_cons] at hi; omega, hp⟩
    · rw [tok_any h]
      simp only [List.any_cons, Option.isNone_none, Bool.true_or, true_iff]
      exact ⟨0, by simp, h⟩
theorem tok_tame : ∀ l : List UInt8, (tok l).any Option.isNone = false → tok l = l.map some
  | [], _ => rfl
  | c :: r, h => by
    cases hp : dots.isPrefixOf (c :: r)
    · rw [tok_one hp] at h ⊢
      simp only [List.any_cons, Option.isNone_some, Bool.false_or] at h
      rw [tok_tame r h]; rfl
    · rw [tok_any hp] at h
      simp at h
theorem mtB_some : ∀ (l s : List UInt8), mtB (l.map some) s = true ↔ s = l
  | [], s => by rw [List.map_nil, mtB_nil, List.isEmpty_iff]
  | c :: l, s => by
    rw [List.map_cons, mtB_one]
    constructor
    · rintro ⟨x, r, rfl, rfl, h⟩
      rw [(mtB_some l r).1 h]
    · rintro rfl
      exact ⟨c, l, rfl, rfl, (mtB_some l l).2 rfl⟩
theorem pre_dots {c : UInt8} {r : List UInt8} (h : c ≠ 46) : dots.isPrefixOf (c :: r) = false := by
  unfold dots
  simp only [List.isPrefixOf]
  rw [show ((46 : UInt8) == c) = false by rw [beq_eq_false_iff_ne]; exact fun e => h e.symm]; rfl
theorem tok_app : ∀ (a b : List UInt8), 46 ∉ a → tok (a ++ b) = a.map some ++ tok b
  | [], b, _ => rfl
  | c :: a, b, h => by
    have h1 : c ≠ 46 := fun e => h (by rw [e]; exact List.mem_cons_self ..)
    rw [List.cons_append, tok_one (pre_dots h1), tok_app a b (fun hm => h (List.mem_cons_of_mem _ hm))]; rfl
theorem tok_dots (b : List UInt8) : tok (dots ++ b) = none :: tok b := tok_any (by unfold dots; simp [List.isPrefixOf])
theorem mtB_app : ∀ (a s : List UInt8) (T : List (Option UInt8)), mtB T s = true → mtB (a.map some ++ T) (a ++ s) = true
  | [], _, _, h => h
  | c :: a, s, T, h => mtB_one.2 ⟨c, a ++ s, rfl, rfl, mtB_app a s T h⟩
theorem mtB_none (T : List (Option UInt8)) (u s : List UInt8) (h : mtB T s = true) : mtB (none :: T) (u ++ s) = true :=
  mtB_any.2 ⟨u.length, by rw [List.length_append]; omega, by rw [List.drop_left]; exact h⟩
/-- What always matches. -/
theorem mat_between {a b u : List UInt8} (ha : 46 ∉ a) (hb : 46 ∉ b) : mtB (tok (a ++ dots ++ b)) (a ++ u ++ b) = true := by
  have h0 := tok_app b [] hb
  rw [List.append_nil, tok_nil, List.append_nil] at h0
  rw [List.append_assoc, List.append_assoc, tok_app a _ ha, tok_dots, h0]
  exact mtB_app _ _ _ (mtB_none _ _ _ ((mtB_some b b).2 rfl))
theorem mat_all (s : List UInt8) : mtB (tok dots) s = true := by
  have := mat_between (a := []) (b := []) (u := s) (by simp) (by simp)
  simpa using this
theorem ism_mat {p s : ByteArray} (h : matB p s = true) : ismB p s = true := by unfold ismB; rw [h]; rfl
theorem ism_tame {p s : ByteArray} (h : wildB p = false) : ismB p s = decide (p = s) := by
  have e1 : matB p s = decide (p = s) := by
    unfold matB
    rw [tok_tame _ h, Bool.eq_iff_iff, mtB_some, decide_eq_true_iff]
    exact ⟨fun h => str_ext h.symm, fun h => by rw [h]⟩
  unfold ismB
  rw [e1]
  cases h4 : (decide (4 ≤ p.size) && (decide (p.data.toList.drop (p.size - 4) = slashDots) && matB (p.extract 0 (p.size - 4)) s))
  · rw [Bool.or_false]
  · rw [Bool.and_eq_true, Bool.and_eq_true] at h4
    have hsz := of_decide_eq_true h4.1
    have hd := of_decide_eq_true h4.2.1
    have hl : p.data.toList.length = p.size := len_eq p
    have hw : wildB p = true := (tok_wild _).2 ⟨p.size - 3, by omega, by
      rw [show p.size - 3 = (p.size - 4) + 1 by omega, ← List.drop_drop, hd]; rfl⟩
    rw [h] at hw; cases hw
end Ve
end Go.Proofs.YtccnagkfnmffpaaDoor
