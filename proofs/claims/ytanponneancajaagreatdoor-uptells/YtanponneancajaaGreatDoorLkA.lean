/-
  How versions are liked, plain.
-/
import Derived.Test.YtanponneancajaaGreatDoorIxP
import Derived.Test.YtanponneancajaaGreatDoorOrdN
import Derived.Test.YtanponneancajaaGreatDoorVerOA
namespace Go.Proofs.YtanponneancajaaGreatDoor
open Go.RowKit Go.Maps
namespace Ve

/-- How an entry is liked. -/
def rnk (r : Raw) : Nat := if r.2.2.2 then 0 else if 0 < (preOf r.1.2.data.toList).length then 1 else 2
theorem rnk_b {r : Raw} (h : r.2.2.2 = true) : rnk r = 0 := if_pos h
theorem rnk_p {r : Raw} (h : r.2.2.2 = false) (hp : 0 < (preOf r.1.2.data.toList).length) : rnk r = 1 := by unfold rnk; rw [if_neg (by rw [h]; simp), if_pos hp]
theorem rnk_n {r : Raw} (h : r.2.2.2 = false) (hp : ¬ 0 < (preOf r.1.2.data.toList).length) : rnk r = 2 := by unfold rnk; rw [if_neg (by rw [h]; simp), if_neg hp]
theorem rnk_le (r : Raw) : rnk r ≤ 2 := by
  unfold rnk
  split
  · omega
  · split <;> omega
/-- How a version of a path is liked. -/
def rkV (Q : List Raw) (t v : ByteArray) : Nat := match Q.find? (fun r => decide (r.1.1 = t ∧ r.1.2 = v)) with
  | some r => rnk r
  | none => 0
/-- The best of some versions, and how it is liked. -/
def likS (Q : List Raw) (t : ByteArray) (s : ByteArray × Int) (v : ByteArray) : ByteArray × Int := if s.2 ≤ (rkV Q t v : Int) then (v, (rkV Q t v : Int)) else s
def likN (Q : List Raw) (t : ByteArray) (X : List ByteArray) (i : Nat) : ByteArray × Int := (X.take i).foldl (likS Q t) (⟨#[]⟩, -1)
theorem likN_next {Q : List Raw} {t : ByteArray} {X : List ByteArray} {i : Nat} (h : i < X.length) : likN Q t X (i + 1) = likS Q t (likN Q t X i) X[i] := by
  unfold likN
  rw [List.take_succ_eq_append_getElem h, List.foldl_append]; rfl
/-- What it is: liked no less than any, and behind it none is liked so. -/
structure Lik (Q : List Raw) (t : ByteArray) (X : List ByteArray) (i : Nat) (s : ByteArray × Int) : Prop where
  z : i = 0 → s = (⟨#[]⟩, -1)
  p : 0 < i → ∃ j, ∃ hj : j < X.length, j < i ∧ s = (X[j], (rkV Q t X[j] : Int)) ∧ (∀ k (hk : k < X.length), k < i → rkV Q t X[k] ≤ rkV Q t X[j]) ∧ ∀ k (hk : k < X.length), k < i → j < k → rkV Q t X[k] < rkV Q t X[j]
theorem likN_is {Q : List Raw} {t : ByteArray} {X : List ByteArray} : ∀ i, i ≤ X.length → Lik Q t X i (likN Q t X i)
  | 0, _ => ⟨fun _ => rfl, fun h => absurd h (Nat.lt_irrefl _)⟩
  | i + 1, hi => by
    have h : i < X.length := hi
    have ih := likN_is (Q := Q) (t := t) (X := X) i (Nat.le_of_lt h)
    rw [likN_next h]
    refine ⟨fun e => by omega, fun _ => ?_⟩
    unfold likS
    by_cases h0 : i = 0
    · rw [ih.z h0]
      rw [if_pos (show (-1 : Int) ≤ (rkV Q t X[i] : Int) by omega)]
      refine ⟨i, h, by omega, rfl, fun k hk hki => ?_, fun k hk hki hik => by omega⟩
      have : k = i := by omega
      subst this; exact Nat.le_refl _
    · obtain ⟨j, hj, hji, hs, h1, h2⟩ := ih.p (by omega)
      rw [hs]
      by_cases hc : ((rkV Q t X[j] : Nat) : Int) ≤ (rkV Q t X[i] : Int)
      · rw [if_pos hc]
        refine ⟨i, h, by omega, rfl, fun k hk hki => ?_, fun k hk hki hik => by omega⟩
        rcases Nat.lt_or_ge k i with h3 | h3
        · have := h1 k hk h3; omega
        · have : k = i := by omega
          subst this; exact Nat.le_refl _
      · rw [if_neg hc]
        refine ⟨j, hj, by omega, rfl, fun k hk hki => ?_, fun k hk hki hjk => ?_⟩
        · rcases Nat.lt_or_ge k i with h3 | h3
          · exact h1 k hk h3
          · have : k = i := by omega
            subst this; omega
        · rcases Nat.lt_or_ge k i with h3 | h3
          · exact h2 k hk h3 hjk
          · have : k = i := by omega
            subst this; omega
theorem rkV_at {Q : List Raw} (g : Good Q) {r : Raw} (hr : r ∈ Q) : rkV Q r.1.1 r.1.2 = rnk r := by
  unfold rkV
  cases hf : Q.find? (fun x => decide (x.1.1 = r.1.1 ∧ x.1.2 = r.1.2)) with
  | none =>
    have := List.find?_eq_none.1 hf r hr
    simp at this
  | some s =>
    have h1 := List.find?_some hf
    have h2 := List.mem_of_find?_eq_some hf
    have h3 : s.1.1 = r.1.1 ∧ s.1.2 = r.1.2 := by simpa using h1
    rw [g.same h2 hr (Prod.ext h3.1 h3.2)]
/-- Those that are liked most are the best. -/
theorem rnk_best {Q R : List Raw} (g : Good Q) (hR : ∀ r, r ∈ R → r ∈ Q) {r : Raw} (hr : r ∈ R) : r ∈ bestR R ↔ ∀ s, s ∈ R → rnk s ≤ rnk r := by
  have hv : ∀ s, s ∈ R → (isD s = true ↔ (preOf s.1.2.data.toList).length = 0) := fun s hs => by
    unfold isD preB
    rw [decide_eq_true (g.ver s (hR s hs)), Bool.true_and]
    simp
  have k2 : ∀ s, s ∈ R → (rnk s = 2 ↔ isS s = true ∧ isD s = true) := fun s hs => by
    rw [hv s hs]
    unfold isS
    cases hb : s.2.2.2
    · by_cases hp : 0 < (preOf s.1.2.data.toList).length
      · rw [rnk_p hb hp]
        exact ⟨fun h => absurd h (by decide), fun h => absurd h.2 (by omega)⟩
      · rw [rnk_n hb hp]
        exact ⟨fun _ => ⟨rfl, by omega⟩, fun _ => rfl⟩
    · rw [rnk_b hb]
      exact ⟨fun h => absurd h (by decide), fun h => absurd h.1 (by decide)⟩
  have k1 : ∀ s, s ∈ R → (0 < rnk s ↔ isS s = true) := fun s _ => by
    unfold isS
    cases hb : s.2.2.2
    · by_cases hp : 0 < (preOf s.1.2.data.toList).length
      · rw [rnk_p hb hp]; exact ⟨fun _ => rfl, fun _ => by decide⟩
      · rw [rnk_n hb hp]; exact ⟨fun _ => rfl, fun _ => by decide⟩
    · rw [rnk_b hb]; exact ⟨fun h => absurd h (by decide), fun h => absurd h (by decide)⟩
  have k3 := rnk_le
  unfold bestR
  by_cases hd : 0 < ((R.filter isS).filter isD).length
  · rw [if_pos hd]
    obtain ⟨x, hx⟩ := List.exists_mem_of_length_pos hd
    obtain ⟨hx1, hx2⟩ := List.mem_filter.1 hx
    obtain ⟨hx3, hx4⟩ := List.mem_filter.1 hx1
    have hx5 := (k2 x hx3).2 ⟨hx4, hx2⟩
    constructor
    · intro h s hs
      obtain ⟨h1, h2⟩ := List.mem_filter.1 h
      obtain ⟨h3, h4⟩ := List.mem_filter.1 h1
      rw [(k2 r h3).2 ⟨h4, h2⟩]; exact k3 s
    · intro h
      have := h x hx3
      have h2 := (k2 r hr).1 (by have := k3 r; omega)
      exact List.mem_filter.2 ⟨List.mem_filter.2 ⟨hr, h2.1⟩, h2.2⟩
  · rw [if_neg hd]
    have hno : ∀ s, s ∈ R → rnk s ≠ 2 := fun s hs h => hd (List.length_pos_of_mem (List.mem_filter.2 ⟨List.mem_filter.2 ⟨hs, ((k2 s hs).1 h).1⟩, ((k2 s hs).1 h).2⟩))
    by_cases hs2 : 0 < (R.filter isS).length
    · rw [if_pos hs2]
      obtain ⟨x, hx⟩ := List.exists_mem_of_length_pos hs2
      obtain ⟨hx1, hx2⟩ := List.mem_filter.1 hx
      have hx3 := (k1 x hx1).2 hx2
      constructor
      · intro h s hs
        obtain ⟨h1, h2⟩ := List.mem_filter.1 h
        have a1 := (k1 r h1).2 h2
        have a2 := k3 s
        have a3 := hno s hs
        omega
      · intro h
        have := h x hx1
        exact List.mem_filter.2 ⟨hr, (k1 r hr).1 (by omega)⟩
    · rw [if_neg hs2]
      constructor
      · intro _ s hs
        have : ¬ 0 < rnk s := fun h => hs2 (List.length_pos_of_mem (List.mem_filter.2 ⟨hs, (k1 s hs).1 h⟩))
        omega
      · intro _; exact hr
end Ve
end Go.Proofs.YtanponneancajaaGreatDoor
