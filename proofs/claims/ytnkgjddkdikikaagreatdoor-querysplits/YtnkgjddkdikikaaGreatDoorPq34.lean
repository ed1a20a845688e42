/-
  OrdM LkA VerOA OrdD
-/
import Derived.Deep.RegionHeld
import Derived.Laws.AppendOwnNone
import Derived.Test.YtnkgjddkdikikaaGreatDoorPq2
import Derived.Test.YtnkgjddkdikikaaGreatDoorPq10
import Derived.Test.YtnkgjddkdikikaaGreatDoorPq5
import Derived.Test.YtnkgjddkdikikaaGreatDoorPq4
import Derived.Test.YtnkgjddkdikikaaGreatDoorPq7
import Derived.Test.YtnkgjddkdikikaaGreatDoorPq27
import Derived.Test.YtnkgjddkdikikaaGreatDoorPq31
import Derived.Test.YtnkgjddkdikikaaGreatDoorPq32
import Derived.Test.YtnkgjddkdikikaaGreatDoorPq3
import Derived.Test.YtnkgjddkdikikaaGreatDoorPq16
import Derived.Test.YtnkgjddkdikikaaGreatDoorPq20
import Derived.Test.YtnkgjddkdikikaaGreatDoorPq57
import Derived.Test.YtnkgjddkdikikaaGreatDoorPq13
namespace Go.Proofs.YtnkgjddkdikikaaGreatDoor
open Go.RowKit
namespace Ve
theorem bl_get {X : List ByteArray} {j : Nat} (h : j < X.length) : (bl X)[j]'(by rw [bl_len]; exact h) = X[j].data.toList := by simp [bl]
end Ve
end Go.Proofs.YtnkgjddkdikikaaGreatDoor
namespace Go.Proofs.YtnkgjddkdikikaaGreatDoor
open Go.RowKit Go.Maps
namespace Ve
theorem rnk_b {r : Raw} (h : r.2.2.2 = true) : rnk r = 0 := if_pos h
theorem rnk_p {r : Raw} (h : r.2.2.2 = false) (hp : 0 < (preOf r.1.2.data.toList).length) : rnk r = 1 := by unfold rnk; rw [if_neg (by rw [h]; simp), if_pos hp]
theorem rnk_n {r : Raw} (h : r.2.2.2 = false) (hp : ¬ 0 < (preOf r.1.2.data.toList).length) : rnk r = 2 := by unfold rnk; rw [if_neg (by rw [h]; simp), if_neg hp]
theorem rnk_le (r : Raw) : rnk r ≤ 2 := by
  unfold rnk
  split
  · omega
  · split <;> omega
def likS (Q : List Raw) (t : ByteArray) (s : ByteArray × Int) (v : ByteArray) : ByteArray × Int := if s.2 ≤ (rkV Q t v : Int) then (v, (rkV Q t v : Int)) else s
def likN (Q : List Raw) (t : ByteArray) (X : List ByteArray) (i : Nat) : ByteArray × Int := (X.take i).foldl (likS Q t) (⟨#[]⟩, -1)
theorem likN_next {Q : List Raw} {t : ByteArray} {X : List ByteArray} {i : Nat} (h : i < X.length) : likN Q t X (i + 1) = likS Q t (likN Q t X i) X[i] := by
  unfold likN
  rw [List.take_succ_eq_append_getElem h, List.foldl_append]; rfl
theorem likN_is {Q : List Raw} {t : ByteArray} {X : List ByteArray} : ∀ i, i ≤ X.length → Lik Q t X i (likN Q t X i)
  | 0, _ => ⟨fun _ => rfl, fun h => absurd h (Nat.lt_irrefl _)⟩
  | i + 1, hi => by
    have h : i < X.length := hi
    have ih := likN_is (Q := Q) (t := t) (X := X) i (Nat.le_of_lt h)
    rw [likN_next h]
    refine ⟨fun e => by omega, fun _ => ?_⟩
    unfold likS
    by_cases h0 : i = 0
    · rw [ih.z h0]
      rw [if_pos (show (-1 : Int) ≤ (rkV Q t X[i] : Int) by omega)]
      refine ⟨i, h, by omega, rfl, fun k hk hki => ?_, fun k hk hki hik => by omega⟩
      have : k = i := by omega
      subst this; exact Nat.le_refl _
    · obtain ⟨j, hj, hji, hs, h1, h2⟩ := ih.p (by omega)
      rw [hs]
      by_cases hc : ((rkV Q t X[j] : Nat) : Int) ≤ (rkV Q t X[i] : Int)
      · rw [if_pos hc]
        refine ⟨i, h, by omega, rfl, fun k hk hki => ?_, fun k hk hki hik => by omega⟩
        rcases Nat.lt_or_ge k i with h3 | h3
        · have := h1 k hk h3; omega
        · have : k = i := by omega
          subst this; exact Nat.le_refl _
      · rw [if_neg hc]
        refine ⟨j, hj, by omega, rfl, fun k hk hki => ?_, fun k hk hki hjk => ?_⟩
        · rcases Nat.lt_or_ge k i with h3 | h3
          · exact h1 k hk h3
          · have : k = i := by omega
            subst this; omega
        · rcases Nat.lt_or_ge k i with h3 | h3
          · exact h2 k hk h3 hjk
          · have : k = i := by omega
            subst this; omega
theorem rkV_at {Q : List Raw} (g : Good Q) {r : Raw} (hr : r ∈ Q) : rkV Q r.1.1 r.1.2 = rnk r := by
  unfold rkV
  cases hf : Q.find? (fun x => decide (x.1.1 = r.1.1 ∧ x.1.2 = r.1.2)) with
  | none =>
    have := List.find?_eq_none.1 hf r hr
    simp at this
  | some s =>
    have h1 := List.find?_some hf
    have h2 := List.mem_of_find?_eq_some hf
    have h3 : s.1.1 = r.1.1 ∧ s.1.2 = r.1.2 := by simpa using h1
    rw [g.same h2 hr (Prod.ext h3.1 h3.2)]
theorem rnk_best {Q R : List Raw} (g : Good Q) (hR : ∀ r, r ∈ R → r ∈ Q) {r : Raw} (hr : r ∈ R) : r ∈ bestR R ↔ ∀ s, s ∈ R → rnk s ≤ rnk r := by
  have hv : ∀ s, s ∈ R → (isD s = true ↔ (preOf s.1.2.data.toList).length = 0) := fun s hs => by
    unfold isD preB
    rw [decide_eq_true (g.ver s (hR s hs)), Bool.true_and]
    simp
  have k2 : ∀ s, s ∈ R → (rnk s = 2 ↔ isS s = true ∧ isD s = true) := fun s hs => by
    rw [hv s hs]
    unfold isS
    cases hb : s.2.2.2
    · by_cases hp : 0 < (preOf s.1.2.data.toList).length
      · rw [rnk_p hb hp]
        exact ⟨fun h => absurd h (by decide), fun h => absurd h.2 (by omega)⟩
      · rw [rnk_n hb hp]
        exact ⟨fun _ => ⟨rfl, by omega⟩, fun _ => rfl⟩
    · rw [rnk_b hb]
      exact ⟨fun h => absurd h (by decide), fun h => absurd h.1 (by decide)⟩
  have k1 : ∀ s, s ∈ R → (0 < rnk s ↔ isS s = true) := fun s _ => by
    unfold isS
    cases hb : s.2.2.2
    · by_cases hp : 0 < (preOf s.1.2.data.toList).length
      · rw [rnk_p hb hp]; exact ⟨fun _ => rfl, fun _ => by decide⟩
      · rw [rnk_n hb hp]; exact ⟨fun _ => rfl, fun _ => by decide⟩
    · rw [rnk_b hb]; exact ⟨fun h => absurd h (by decide), fun h => absurd h (by decide)⟩
  have k3 := rnk_le
  unfold bestR
  by_cases hd : 0 < ((R.filter isS).filter isD).length
  · rw [if_pos hd]
    obtain ⟨x, hx⟩ := List.exists_mem_of_length_pos hd
    obtain ⟨hx1, hx2⟩ := List.mem_filter.1 hx
    obtain ⟨hx3, hx4⟩ := List.mem_filter.1 hx1
    have hx5 := (k2 x hx3).2 ⟨hx4, hx2⟩
    constructor
    · intro h s hs
      obtain ⟨h1, h2⟩ := List.mem_filter.1 h
      obtain ⟨h3, h4⟩ := List.mem_filter.1 h1
      rw [(k2 r h3).2 ⟨h4, h2⟩]; exact k3 s
    · intro h
      have := h x hx3
      have h2 := (k2 r hr).1 (by have := k3 r; omega)
      exact List.mem_filter.2 ⟨List.mem_filter.2 ⟨hr, h2.1⟩, h2.2⟩
  · rw [if_neg hd]
    have hno : ∀ s, s ∈ R → rnk s ≠ 2 := fun s hs h => hd (List.length_pos_of_mem (List.mem_filter.2 ⟨List.mem_filter.2 ⟨hs, ((k2 s hs).1 h).1⟩, ((k2 s hs).1 h).2⟩))
    by_cases hs2 : 0 < (R.filter isS).length
    · rw [if_pos hs2]
      obtain ⟨x, hx⟩ := List.exists_mem_of_length_pos hs2
      obtain ⟨hx1, hx2⟩ := List.mem_filter.1 hx
      have hx3 := (k1 x hx1).2 hx2
      constructor
      · intro h s hs
        obtain ⟨h1, h2⟩ := List.mem_filter.1 h
        have a1 := (k1 r h1).2 h2
        have a2 := k3 s
        have a3 := hno s hs
        omega
      · intro h
        have := h x hx1
        exact List.mem_filter.2 ⟨hr, (k1 r hr).1 (by omega)⟩
    · rw [if_neg hs2]
      constructor
      · intro _ s hs
        have : ¬ 0 < rnk s := fun h => hs2 (List.length_pos_of_mem (List.mem_filter.2 ⟨hs, (k1 s hs).1 h⟩))
        omega
      · intro _; exact hr
end Ve
end Go.Proofs.YtnkgjddkdikikaaGreatDoor
namespace Go.Proofs.YtnkgjddkdikikaaGreatDoor
open Go.RowKit
namespace Ve
theorem verOf_any (s : ByteArray) (w : World) (hs : s.size < 4294967281) :
    Calls Tryz.prog 39 #[.string s] w fun e w' => (verErr s.data.toList ≠ 0 ∧ e = .returned (.tuple #[.agg #[.int .i64 0, .int .i64 0, .int .i64 0, .slice none 0 0], .int .i64 (verErr s.data.toList : Nat)]) ∨
      verErr s.data.toList = 0 ∧ ∃ sa cap X2, e = .returned (.tuple #[.agg #[.int .i64 (nAt s.data.toList 0), .int .i64 (nAt s.data.toList 1), .int .i64 (nAt s.data.toList 2), .slice sa X2.length cap], .int .i64 0]) ∧ bl X2 = preOf s.data.toList ∧ (X2 = [] ∨ ∃ g, sa = some ⟨g, 0, none⟩ ∧ ∀ j (hj : j < X2.length), w'.cell? ⟨g, j, none⟩ = some (.string X2[j]))) ∧ Below w.heap.size w w' := by
  by_cases hm : marked s.data.toList = false
  · have hv : verErr s.data.toList = 1 := by unfold verErr; rw [if_pos (Or.inl hm)]
    rw [hv]
    exact (verOf_head s w hs hm).mono fun e w' ⟨h1, h2⟩ => ⟨Or.inl ⟨by omega, h1⟩, h2⟩
  · have hm' : marked s.data.toList = true := by simpa using hm
    by_cases h3 : (coreOf s.data.toList).length = 3
    · have hn : ¬ (marked s.data.toList = false ∨ (coreOf s.data.toList).length ≠ 3) := by rintro (h | h); exact hm h; exact h h3
      cases hp : hasPre s.data.toList
      · have hv : verErr s.data.toList = numsErr (coreOf s.data.toList) := by unfold verErr; rw [if_neg hn, hp]; rfl
        rw [hv]
        refine (verOf_A s w hs hm' hp h3).mono fun e w' ⟨h1, h2⟩ => ⟨?_, h2⟩
        by_cases hq : numsErr (coreOf s.data.toList) = 0
        · refine Or.inr ⟨hq, none, 0, [], ?_, ?_, Or.inl rfl⟩
          · rw [h1, hq]; rfl
          · unfold preOf; rw [hp]; rfl
        · refine Or.inl ⟨hq, ?_⟩
          rw [h1]; unfold resA; rw [if_neg hq]
      · have hv : verErr s.data.toList = verB s.data.toList := by rw [verB_eq]; unfold verErr; rw [if_neg hn, hp]; rfl
        rw [hv]
        refine (verOf_B s w hs hm' hp h3).mono fun e w' ⟨h1, h2⟩ => ⟨?_, h2⟩
        rcases h1 with h1 | ⟨h0, g, cap, X2, h1, h4, h5, h6⟩
        · exact Or.inl h1
        · exact Or.inr ⟨h0, _, cap, X2, h1, h4, Or.inr ⟨g, rfl, h6⟩⟩
    · have hv : verErr s.data.toList = 1 := by unfold verErr; rw [if_pos (Or.inr h3)]
      rw [hv]
      cases hp : hasPre s.data.toList
      · exact (verOf_A1 s w hs hm' hp h3).mono fun e w' ⟨h1, h2⟩ => ⟨Or.inl ⟨by omega, h1⟩, h2⟩
      · exact (verOf_B1 s w hs hm' hp h3).mono fun e w' ⟨h1, h2⟩ => ⟨Or.inl ⟨by omega, h1⟩, h2⟩
end Ve
end Go.Proofs.YtnkgjddkdikikaaGreatDoor
namespace Go.Proofs.YtnkgjddkdikikaaGreatDoor
open Go.RowKit
namespace Ve
def GoodV (w w' : World) (e : Ending) (x y z : Int) (X : List ByteArray) : Prop :=
  (∃ sa cap, e = .returned (.tuple #[.agg #[.int .i64 x, .int .i64 y, .int .i64 z, .slice sa X.length cap], .int .i64 0]) ∧ (X = [] ∨ ∃ g, sa = some ⟨g, 0, none⟩ ∧ ∀ j (hj : j < X.length), w'.cell? ⟨g, j, none⟩ = some (.string X[j]))) ∧ Below w.heap.size w w'
theorem verOf_good (s : ByteArray) (w : World) (hs : s.size < 4294967281) (h : verErr s.data.toList = 0) (X : List ByteArray) (hX : bl X = preOf s.data.toList) :
    Calls Tryz.prog 39 #[.string s] w fun e w' => GoodV w w' e (nAt s.data.toList 0) (nAt s.data.toList 1) (nAt s.data.toList 2) X :=
  (verOf_any s w hs).mono fun e w' ⟨h1, hb⟩ => by
    rcases h1 with ⟨h1, _⟩ | ⟨_, sa, cap, X2, e1, e2, e3⟩
    · exact absurd h h1
    · obtain rfl : X2 = X := bl_inj (e2.trans hX.symm)
      exact ⟨⟨sa, cap, e1, e3⟩, hb⟩
end Ve
end Go.Proofs.YtnkgjddkdikikaaGreatDoor
