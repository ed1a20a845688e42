
import Derived.Test.YtemhofbhmnnijaaGreatDoorPj17
namespace Go.Proofs.YtemhofbhmnnijaaGreatDoor
open Go.RowKit
namespace Ve
def StayT (T : World → Prop) : Prop := ∀ W W', T W → Below W.heap.size W W' → T W'
def MatchC (T : World → Prop) : Prop := ∀ (p s : ByteArray) (w : World), p.size ≤ 100 → s.size ≤ 100 → T w → Calls Tryz.prog 11 #[.string p, .string s] w fun e w' => e = .returned (.bool (ismB p s)) ∧ Below w.heap.size w w'
def WildC (T : World → Prop) : Prop := ∀ (p : ByteArray) (w : World), p.size ≤ 100 → T w → Calls Tryz.prog 9 #[.string p] w fun e w' => e = .returned (.bool (wildB p)) ∧ Below w.heap.size w w'
set_option maxRecDepth 100000 in
theorem pd_1 : ismB ⟨#[97, 47, 46, 46, 46]⟩ ⟨#[97]⟩ = true := by decide
set_option maxRecDepth 100000 in
theorem pd_2 : ismB ⟨#[97, 47, 46, 46, 46, 99]⟩ ⟨#[97, 47, 98, 47, 99]⟩ = true := by decide
set_option maxRecDepth 100000 in
theorem pd_3 : ismB ⟨#[97, 46, 46, 46]⟩ ⟨#[98]⟩ = false := by decide
set_option maxRecDepth 100000 in
theorem pd_4 : wildB ⟨#[97, 46, 46, 46]⟩ = true := by decide
theorem patterned_any {T : World → Prop} (MC : MatchC T) (WC : WildC T) (KT : StayT T) (w : World) (hT : T w) : Calls Tryz.prog 4 #[] w fun e w' => e = .returned (.bool true) ∧ Below w.heap.size w w' := by
  have H1 := hid (MC ⟨#[97, 47, 46, 46, 46]⟩ ⟨#[97]⟩ w (by decide) (by decide) hT)
  have H2 := hid (fun W (h : Below w.heap.size w W) => MC ⟨#[97, 47, 46, 46, 46, 99]⟩ ⟨#[97, 47, 98, 47, 99]⟩ W (by decide) (by decide) (KT w W hT h))
  have H3 := hid (fun W (h : Below w.heap.size w W) => MC ⟨#[97, 46, 46, 46]⟩ ⟨#[98]⟩ W (by decide) (by decide) (KT w W hT h))
  have H4 := hid (fun W (h : Below w.heap.size w W) => WC ⟨#[97, 46, 46, 46]⟩ W (by decide) (KT w W hT h))
  rw [pd_1] at H1
  rw [pd_2] at H2
  rw [pd_3] at H3
  rw [pd_4] at H4
  clear MC WC KT hT
  go_enter Tryz.func4, Tryz.ntmps4
  go_wp2_with fail
  refine H1.out.mono ?_
  rintro e w1 ⟨rfl, hb⟩
  have HB1 := hid hb
  clear hb
  go_wp2_with fail
  refine (H2.out _ HB1.out).mono ?_
  rintro e w2 ⟨rfl, hb⟩
  have HB2 := hid (HB1.out.trans (hb.mono HB1.out.size))
  clear hb
  go_wp2_with fail
  refine (H3.out _ HB2.out).mono ?_
  rintro e w3 ⟨rfl, hb⟩
  have HB3 := hid (HB2.out.trans (hb.mono HB2.out.size))
  clear hb
  go_wp2_with fail
  refine (H4.out _ HB3.out).mono ?_
  rintro e w4 ⟨rfl, hb⟩
  have HB4 := hid (HB3.out.trans (hb.mono HB3.out.size))
  clear hb
  go_wp2_with fail
  go_ret
  exact ⟨rfl, HB4.out⟩
end Ve
end Go.Proofs.YtemhofbhmnnijaaGreatDoor


namespace Go.Proofs.YtemhofbhmnnijaaGreatDoor
open Go.RowKit
namespace Ve
def RowIs (R : List Bool) (row : Nat → Bool) : Prop := ∀ k (h : k < R.length), R[k] = row k
def nxA (R : List Bool) (k : Nat) : List Bool := (List.range R.length).map fun j => decide (j < k) && (R.take (j + 1)).any id
def nxO (R : List Bool) (s : List UInt8) (c : UInt8) (k : Nat) : List Bool := (List.range R.length).map fun j => (decide (0 < j) && decide (j ≤ k)) && (R.getD (j - 1) false && s[j - 1]? == some c)
theorem nxA_len (R : List Bool) (k : Nat) : (nxA R k).length = R.length := by simp [nxA]
theorem nxO_len (R : List Bool) (s : List UInt8) (c : UInt8) (k : Nat) : (nxO R s c k).length = R.length := by simp [nxO]
theorem nxA_zero (R : List Bool) : nxA R 0 = List.replicate R.length false := by
  apply List.ext_getElem
  · simp [nxA]
  · intro i h1 h2; simp [nxA]
theorem nxO_zero (R : List Bool) (s : List UInt8) (c : UInt8) : nxO R s c 0 = List.replicate R.length false := by
  apply List.ext_getElem
  · simp [nxO]
  · intro i h1 h2
    simp only [nxO, List.getElem_map, List.getElem_range, List.getElem_replicate]
    cases i with
    | zero => rfl
    | succ i => rw [decide_eq_false (show ¬ i + 1 ≤ 0 by omega), Bool.and_false, Bool.false_and]
theorem any_take {R : List Bool} {k : Nat} (hk : k < R.length) : (R.take (k + 1)).any id = ((R.take k).any id || R[k]) := by
  rw [List.take_succ_eq_append_getElem hk, List.any_append]; simp
theorem nxA_next {R : List Bool} {k : Nat} : (nxA R k).set k ((R.take (k + 1)).any id) = nxA R (k + 1) := by
  apply List.ext_getElem
  · simp [nxA]
  · intro i h1 h2
    rw [List.getElem_set]
    simp only [nxA, List.getElem_map, List.getElem_range]
    by_cases e : k = i
    · subst e
      rw [if_pos rfl, decide_eq_true (show k < k + 1 by omega), Bool.true_and]
    · rw [if_neg e]
      congr 1
      exact decide_eq_decide.2 ⟨fun h => by omega, fun h => by omega⟩
theorem nxO_yes {R : List Bool} {s : List UInt8} {c : UInt8} {k : Nat} (hk : k + 1 < R.length) (h1 : R[k]'(by omega) = true) (h2 : s[k]? = some c) : (nxO R s c k).set (k + 1) true = nxO R s c (k + 1) := by
  apply List.ext_getElem
  · simp [nxO]
  · intro i g1 g2
    rw [List.getElem_set]
    simp only [nxO, List.getElem_map, List.getElem_range]
    by_cases e : k + 1 = i
    · subst e
      rw [if_pos rfl, Nat.add_sub_cancel, h2, List.getD_eq_getElem?_getD, List.getElem?_eq_getElem (show k < R.length by omega)]
      simp [h1]
    · rw [if_neg e]
      congr 2
      exact decide_eq_decide.2 ⟨fun h => by omega, fun h => by omega⟩
theorem nxO_no {R : List Bool} {s : List UInt8} {c : UInt8} {k : Nat} (hk : k + 1 < R.length) (h : ¬ (R[k]'(by omega) = true ∧ s[k]? = some c)) : nxO R s c k = nxO R s c (k + 1) := by
  apply List.ext_getElem
  · simp [nxO]
  · intro i g1 g2
    simp only [nxO, List.getElem_map, List.getElem_range]
    by_cases e : k + 1 = i
    · subst e
      have hz : (R.getD (k + 1 - 1) false && s[k + 1 - 1]? == some c) = false := by
        rw [Nat.add_sub_cancel, List.getD_eq_getElem?_getD, List.getElem?_eq_getElem (show k < R.length by omega)]
        cases hb : R[k]'(by omega)
        · rfl
        · cases hc : (s[k]? == some c)
          · rfl
          · exact absurd ⟨hb, by simpa using hc⟩ h
      rw [hz, Bool.and_false, Bool.and_false]
    · congr 2
      exact decide_eq_decide.2 ⟨fun h => by omega, fun h => by omega⟩
theorem rowIs_any {R : List Bool} {s : List UInt8} {row : Nat → Bool} (h : RowIs R row) : RowIs (nxA R R.length) (stpR s row none) := fun k hk => by
  rw [nxA_len] at hk
  simp only [nxA, List.getElem_map, List.getElem_range]
  rw [decide_eq_true hk, Bool.true_and, Bool.eq_iff_iff, stpR_any, List.any_eq_true]
  constructor
  · rintro ⟨x, hx, hb⟩
    obtain ⟨j, hj, e⟩ := List.getElem_of_mem hx
    rw [List.length_take] at hj
    rw [List.getElem_take] at e
    refine ⟨j, by omega, ?_⟩
    rw [← h j (by omega), e]; exact hb
  · rintro ⟨j, hj, hb⟩
    refine ⟨R[j]'(by omega), List.mem_iff_getElem.2 ⟨j, by rw [List.length_take]; omega, by rw [List.getElem_take]⟩, ?_⟩
    rw [h j (by omega)]; exact hb
theorem rowIs_one {R : List Bool} {s : List UInt8} {row : Nat → Bool} {c : UInt8} (hl : R.length = s.length + 1) (h : RowIs R row) : RowIs (nxO R s c s.length) (stpR s row (some c)) := fun k hk => by
  rw [nxO_len] at hk
  simp only [nxO, List.getElem_map, List.getElem_range]
  cases k with
  | zero => rfl
  | succ k =>
    rw [decide_eq_true (show 0 < k + 1 by omega), decide_eq_true (show k + 1 ≤ s.length by omega), Nat.add_sub_cancel, List.getD_eq_getElem?_getD, List.getElem?_eq_getElem (show k < R.length by omega)]
    show (true && true && (R[k] && s[k]? == some c)) = (row k && s[k]? == some c)
    rw [h k (by omega)]; rfl
theorem tok_read_any {l : List UInt8} {T : List (Option UInt8)} {i : Nat} (h : tok l = T ++ tok (l.drop i)) (hp : dots.isPrefixOf (l.drop i) = true) : tok l = (T ++ [none]) ++ tok (l.drop (i + 3)) := by
  rw [h, tok_any hp, List.drop_drop, List.append_assoc]; rfl
theorem tok_read_one {l : List UInt8} {T : List (Option UInt8)} {i : Nat} (hi : i < l.length) (h : tok l = T ++ tok (l.drop i)) (hp : dots.isPrefixOf (l.drop i) = false) : tok l = (T ++ [some l[i]]) ++ tok (l.drop (i + 1)) := by
  rw [h, List.drop_eq_getElem_cons hi] at *
  rw [tok_one hp, List.append_assoc]; rfl
theorem rows_snoc (s : List UInt8) (T : List (Option UInt8)) (t : Option UInt8) (row : Nat → Bool) : rowsT s (T ++ [t]) row = stpR s (rowsT s T row) t := by unfold rowsT; rw [List.foldl_append]; rfl
end Ve
end Go.Proofs.YtemhofbhmnnijaaGreatDoor
