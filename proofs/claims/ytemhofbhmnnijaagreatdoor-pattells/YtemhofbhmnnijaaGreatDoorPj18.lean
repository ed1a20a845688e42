
import Derived.Test.YtemhofbhmnnijaaGreatDoorPj16
import Derived.Test.YtemhofbhmnnijaaGreatDoorPj17
import Derived.Lib.Replace
namespace Go.Proofs.YtemhofbhmnnijaaGreatDoor
open Go.RowKit
namespace Ve
theorem marked_pos {s : ByteArray} (h : marked s.data.toList = true) : ∃ hp : 0 < s.size, ((s[0].toNat : Int) == 118) = true := by
  unfold marked at h
  rcases Nat.eq_zero_or_pos s.size with h0 | hp
  · have : s.data.toList = [] := List.length_eq_zero_iff.1 (by simpa using h0)
    rw [this] at h; cases h
  · refine ⟨hp, ?_⟩
    rw [List.headD_eq_head?_getD, List.head?_eq_getElem?, List.getElem?_eq_getElem (by simpa using hp)] at h
    simp only [Option.getD_some, beq_iff_eq] at h
    have h2 : s[0] = 118 := h
    rw [h2]; rfl
theorem rest_drop {l : List UInt8} (h : marked l = true) : restOf l = l.drop 1 := by unfold restOf; rw [if_pos h]
theorem ext_drop (s : ByteArray) (k : Nat) : (s.extract k s.size).data.toList = s.data.toList.drop k := by
  rw [extract_list, List.take_of_length_le (by simp)]
theorem owned_cells {w : World} {base : Nat} {e : TypeId} {v : Value} {X : List ByteArray} (h : w.ownsRow base e 1 v X.length (X.map Value.string)) (hX : X ≠ []) : ∃ g cap, v = .slice (some ⟨g, 0, none⟩) X.length cap ∧ base ≤ g ∧ g < w.heap.size ∧ ∀ j (hj : j < X.length), w.cell? ⟨g, j, none⟩ = some (.string X[j]) := by
  obtain ⟨_, ⟨_, hn0⟩ | ⟨g, cap, cur, hv, hg, hblk, hcap, hcm, hcs, hct⟩⟩ := h
  · exact absurd (List.length_eq_zero_iff.1 hn0) hX
  · refine ⟨g, cap, hv, hg, lt_of_blk hblk, fun j hj => ?_⟩
    have : cur[j]? = (X.map Value.string)[j]? := by
      rw [← hct, List.getElem?_take, if_pos (by omega)]; simp
    simp only [World.cell?, hblk]
    simp [this, hj]
end Ve
end Go.Proofs.YtemhofbhmnnijaaGreatDoor


namespace Go.Proofs.YtemhofbhmnnijaaGreatDoor
open Go.RowKit
namespace Ve
theorem tok_miss {l : List UInt8} (h : Lib.index l dots = -1) : tok l = l.map some := by
  refine tok_tame l ?_
  cases hb : (tok l).any Option.isNone
  · rfl
  · obtain ⟨i, hi, hp⟩ := (tok_wild l).1 hb
    rcases Lib.index_spec l dots with ⟨_, h2⟩ | ⟨j, h1, _⟩
    · have := h2 i (by omega)
      unfold Lib.occAt at this
      rw [hp] at this; cases this
    · omega
theorem tok_len : ∀ l : List UInt8, (tok l).length ≤ l.length
  | [] => Nat.le_refl _
  | c :: r => by
    cases h : dots.isPrefixOf (c :: r)
    · rw [tok_one h]
      have := tok_len r
      simp only [List.length_cons]; omega
    · rw [tok_any h]
      have := tok_len (r.drop 2)
      rw [List.length_drop] at this
      show (tok (r.drop 2)).length + 1 ≤ r.length + 1
      omega
termination_by l => l.length
theorem tok_hit : ∀ {i : Nat} {l : List UInt8}, Lib.index l dots = i → tok l = (l.take i).map some ++ none :: tok (l.drop (i + 3))
  | 0, l, h => by
    rcases Lib.index_spec l dots with ⟨h1, _⟩ | ⟨j, h1, _, h2, _⟩
    · omega
    · have : j = 0 := by omega
      subst this
      unfold Lib.occAt at h2
      rw [List.drop_zero] at h2
      rw [tok_any h2]; rfl
  | i + 1, [], h => by cases h
  | i + 1, c :: r, h => by
    unfold Lib.index at h
    split at h
    · omega
    · next hp =>
      have hp' : dots.isPrefixOf (c :: r) = false := Bool.eq_false_iff.2 hp
      split at h
      · omega
      · have hi : Lib.index r dots = i := by omega
        rw [tok_one hp', tok_hit hi]; rfl
def tokP : List (List UInt8) → List (Option UInt8)
  | [] => []
  | [a] => a.map some
  | a :: b :: r => a.map some ++ none :: tokP (b :: r)
theorem tokP_cons (a : List UInt8) {r : List (List UInt8)} (h : r ≠ []) : tokP (a :: r) = a.map some ++ none :: tokP r := by
  cases r with
  | nil => exact absurd rfl h
  | cons b r => rfl
theorem splitK_ne (k : Nat) (l : List UInt8) : Lib.splitK dots 0 k l ≠ [] := by
  cases k with
  | zero => unfold Lib.splitK; simp
  | succ k => unfold Lib.splitK; split <;> simp
theorem dots_ne : dots ≠ [] := by unfold dots; simp
theorem tok_split : ∀ (k : Nat) (l : List UInt8), Lib.count l dots = k → tok l = tokP (Lib.splitK dots 0 k l)
  | 0, l, h => by
    rcases Lib.index_spec l dots with ⟨h1, _⟩ | ⟨j, h1, _⟩
    · rw [tok_miss h1]; rfl
    · rw [Lib.count_hit dots_ne h1] at h; omega
  | k + 1, l, h => by
    rcases Lib.index_spec l dots with ⟨h1, _⟩ | ⟨j, h1, _⟩
    · rw [Lib.count_miss h1] at h; omega
    · rw [Lib.count_hit dots_ne h1] at h
      have hm : ¬ (Lib.index l dots == -1) = true := fun e => by have := beq_iff_eq.1 e; omega
      have e : (Lib.index l dots).toNat = j := by omega
      unfold Lib.splitK
      rw [if_neg hm, e, tokP_cons _ (splitK_ne _ _), Nat.add_zero, tok_hit h1]
      congr 2
      exact tok_split k _ (by show Lib.count (l.drop (j + dots.length)) dots = k; omega)
theorem mtB_pre : ∀ (a : List UInt8) (T : List (Option UInt8)) (s : List UInt8), mtB (a.map some ++ T) s = true ↔ a.isPrefixOf s = true ∧ mtB T (s.drop a.length) = true
  | [], T, s => by simp
  | c :: a, T, s => by
    rw [List.map_cons, List.cons_append, mtB_one]
    constructor
    · rintro ⟨x, r, rfl, rfl, h⟩
      obtain ⟨h1, h2⟩ := (mtB_pre a T r).1 h
      exact ⟨by simp [List.isPrefixOf]; simpa using h1, h2⟩
    · rintro ⟨h1, h2⟩
      cases s with
      | nil => simp [List.isPrefixOf] at h1
      | cons x r =>
        simp only [List.isPrefixOf, Bool.and_eq_true, beq_iff_eq] at h1
        exact ⟨x, r, rfl, h1.1.symm, (mtB_pre a T r).2 ⟨h1.2, h2⟩⟩
def grd : List (List UInt8) → List UInt8 → Bool
  | [], _ => false
  | [a], s => Lib.hasSuffix s a
  | a :: b :: r, s => (Lib.cut s a).2.2 && grd (b :: r) (Lib.cut s a).2.1
theorem grd_cons (a : List UInt8) {r : List (List UInt8)} (h : r ≠ []) (s : List UInt8) : grd (a :: r) s = ((Lib.cut s a).2.2 && grd r (Lib.cut s a).2.1) := by
  cases r with
  | nil => exact absurd rfl h
  | cons b r => rfl
theorem mtB_less {T : List (Option UInt8)} {s : List UInt8} {d : Nat} (h : mtB (none :: T) (s.drop d) = true) : mtB (none :: T) s = true := by
  obtain ⟨j, hj, h2⟩ := mtB_any.1 h
  rw [List.length_drop] at hj
  rw [List.drop_drop] at h2
  rcases Nat.lt_or_ge s.length (d + j) with h3 | h3
  · refine mtB_any.2 ⟨s.length, Nat.le_refl _, ?_⟩
    rw [List.drop_length]
    rwa [List.drop_eq_nil_of_le (by omega)] at h2
  · exact mtB_any.2 ⟨d + j, h3, h2⟩
theorem grd_is : ∀ (P : List (List UInt8)), P ≠ [] → ∀ s, mtB (none :: tokP P) s = grd P s
  | [], h, _ => absurd rfl h
  | [a], _, s => by
    rw [Bool.eq_iff_iff, mtB_any]
    show _ ↔ a.isSuffixOf s = true
    rw [List.isSuffixOf_iff_suffix]
    constructor
    · rintro ⟨j, _, h⟩
      have := (mtB_some a _).1 h
      rw [← this]; exact List.drop_suffix _ _
    · rintro ⟨t, rfl⟩
      exact ⟨t.length, by rw [List.length_append]; omega, by rw [List.drop_left]; exact (mtB_some a a).2 rfl⟩
  | a :: b :: r, _, s => by
    have ih := grd_is (b :: r) (by simp)
    rw [grd_cons a (by simp), ← ih]
    show mtB (none :: (a.map some ++ none :: tokP (b :: r))) s = _
    generalize tokP (b :: r) = T
    rcases Lib.index_spec s a with ⟨h1, h2⟩ | ⟨i, h1, h2, h3, h4⟩
    · have e : Lib.cut s a = (s, [], false) := by unfold Lib.cut; rw [h1, if_neg (by omega)]
      rw [e, Bool.false_and]
      cases hb : mtB (none :: (a.map some ++ none :: T)) s
      · rfl
      · obtain ⟨j, hj, h5⟩ := mtB_any.1 hb
        have h6 := ((mtB_pre _ _ _).1 h5).1
        have h7 := h2 j hj
        unfold Lib.occAt at h7
        rw [h6] at h7; cases h7
    · have e : Lib.cut s a = (s.take i, s.drop (i + a.length), true) := by unfold Lib.cut; rw [h1, if_pos (by omega)]; simp
      rw [e, Bool.true_and, Bool.eq_iff_iff]
      constructor
      · intro hb
        obtain ⟨j, hj, h5⟩ := mtB_any.1 hb
        obtain ⟨h6, h7⟩ := (mtB_pre _ _ _).1 h5
        rcases Nat.lt_or_ge j i with h8 | h8
        · have h9 := h4 j h8
          unfold Lib.occAt at h9
          rw [h6] at h9; cases h9
        · rw [List.drop_drop] at h7
          refine mtB_less (d := j - i) ?_
          show mtB (none :: T) ((s.drop (i + a.length)).drop (j - i)) = true
          rw [List.drop_drop, show i + a.length + (j - i) = j + a.length by omega]; exact h7
      · intro hb
        refine mtB_any.2 ⟨i, h2, (mtB_pre _ _ _).2 ⟨h3, ?_⟩⟩
        rw [List.drop_drop]; exact hb
def pcs (l : List UInt8) : List (List UInt8) := Lib.splitK dots 0 (Lib.count l dots) l
theorem pcs_ne (l : List UInt8) : pcs l ≠ [] := splitK_ne _ _
theorem pcs_tok (l : List UInt8) : tok l = tokP (pcs l) := tok_split _ l rfl
theorem mat_one {p s : List UInt8} (h : (pcs p).length = 1) : mtB (tok p) s = decide (s = p) := by
  have hc : Lib.count p dots = 0 := by
    rcases Nat.eq_zero_or_pos (Lib.count p dots) with h0 | h0
    · exact h0
    · unfold pcs at h
      obtain ⟨k, hk⟩ : ∃ k, Lib.count p dots = k + 1 := ⟨_, (Nat.succ_pred_eq_of_pos h0).symm⟩
      rw [hk] at h
      rcases Lib.index_spec p dots with ⟨h1, _⟩ | ⟨j, h1, _⟩
      · rw [Lib.count_miss h1] at hk; omega
      · have hm : ¬ (Lib.index p dots == -1) = true := fun e => by have := beq_iff_eq.1 e; omega
        unfold Lib.splitK at h
        rw [if_neg hm, List.length_cons] at h
        have := List.length_pos_iff.2 (splitK_ne k (p.drop ((Lib.index p dots).toNat + dots.length)))
        omega
  have e : tok p = p.map some := by rw [pcs_tok]; unfold pcs; rw [hc]; rfl
  rw [e, Bool.eq_iff_iff, mtB_some, decide_eq_true_iff]
theorem mat_more {p s : List UInt8} {a : List UInt8} {r : List (List UInt8)} (h : pcs p = a :: r) (hr : r ≠ []) : mtB (tok p) s = (Lib.hasPrefix s a && grd r (Lib.trimPrefix s a)) := by
  rw [pcs_tok, h, tokP_cons a hr, ← grd_is r hr, Bool.eq_iff_iff, mtB_pre, Bool.and_eq_true]
  unfold Lib.trimPrefix Lib.hasPrefix
  constructor
  · rintro ⟨h1, h2⟩; exact ⟨h1, by rw [if_pos h1]; exact h2⟩
  · rintro ⟨h1, h2⟩; exact ⟨h1, by rw [if_pos h1] at h2; exact h2⟩
theorem wild_is (p : ByteArray) : wildB p = Lib.contains p.data.toList dots := by
  unfold wildB Lib.contains
  generalize p.data.toList = l
  rw [Bool.eq_iff_iff, decide_eq_true_iff]
  rcases Lib.index_spec l dots with ⟨h1, _⟩ | ⟨j, h1, _⟩
  · rw [tok_miss h1, h1]
    constructor
    · intro h
      obtain ⟨x, hx, hn⟩ := List.any_eq_true.1 h
      obtain ⟨y, _, rfl⟩ := List.mem_map.1 hx
      cases hn
    · intro h; omega
  · rw [tok_hit h1, h1]
    constructor
    · intro _; omega
    · intro _; simp
theorem xs_split : ∀ (k : Nat) (l : List UInt8), Lib.count l dots = k → xsOf l = Lib.replaceK dots [120] k l
  | 0, l, h => by
    rcases Lib.index_spec l dots with ⟨h1, _⟩ | ⟨j, h1, _⟩
    · unfold xsOf
      rw [tok_miss h1, List.map_map, show ((fun t : Option UInt8 => t.getD 120) ∘ some) = id from rfl, List.map_id]; rfl
    · rw [Lib.count_hit dots_ne h1] at h; omega
  | k + 1, l, h => by
    rcases Lib.index_spec l dots with ⟨h1, _⟩ | ⟨j, h1, _⟩
    · rw [Lib.count_miss h1] at h; omega
    · rw [Lib.count_hit dots_ne h1] at h
      have ih := xs_split k (l.drop (j + dots.length)) (by omega)
      rw [Lib.replaceK_hit _ _ _ _ j h1, ← ih]
      unfold xsOf
      rw [tok_hit h1, List.map_append, List.map_cons]
      have e : (l.take j).map ((fun t => t.getD 120) ∘ some) = l.take j := by
        rw [show ((fun t : Option UInt8 => t.getD 120) ∘ some) = id from rfl, List.map_id]
      rw [List.map_map, e, List.append_assoc]; rfl
theorem xs_is (l : List UInt8) : xsOf l = Lib.replaceAll l dots [120] := by
  rw [xs_split _ l rfl]
  unfold Lib.replaceAll Lib.replace Lib.replaceNum
  rw [if_neg (show ¬ (dots == [120]) = true by decide), if_pos (Or.inl (by decide))]
theorem xs_len (l : List UInt8) : (xsOf l).length ≤ l.length := by
  unfold xsOf
  rw [List.length_map]
  exact tok_len l
end Ve
end Go.Proofs.YtemhofbhmnnijaaGreatDoor
