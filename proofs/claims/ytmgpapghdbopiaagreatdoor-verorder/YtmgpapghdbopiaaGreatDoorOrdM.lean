/-
  What the document's answer makes of a list of versions (SortVers): those that are right, each once, each less than those behind it.
-/
import Derived.Test.YtmgpapghdbopiaaGreatDoorOrdO
import Derived.Test.YtmgpapghdbopiaaGreatDoorVerS
import Derived.Deep.RegionHeld
import Derived.Laws.AppendOwnNone
namespace Go.Proofs.YtmgpapghdbopiaaGreatDoor
open Go.RowKit
namespace Ve

theorem rises_ins {A B : List (List UInt8)} {x : List UInt8} (h : rises (A ++ B)) (ha : ∀ a, a ∈ A → ordV a x < 0) (hb : ∀ b, B.head? = some b → ordV x b < 0) : rises (A ++ x :: B) := by
  unfold rises at *
  rw [List.pairwise_append] at h ⊢
  obtain ⟨h1, h2, h3⟩ := h
  have hB : ∀ b, b ∈ B → ordV x b < 0 := by
    cases B with
    | nil => intro b hb; cases hb
    | cons b r =>
      have hb0 := hb b rfl
      intro c hc
      rcases List.mem_cons.1 hc with e | hc
      · rw [e]; exact hb0
      · exact ordV_trans hb0 ((List.pairwise_cons.1 h2).1 c hc)
  refine ⟨h1, List.pairwise_cons.2 ⟨hB, h2⟩, fun a ha' c hc => ?_⟩
  rcases List.mem_cons.1 hc with e | hc
  · rw [e]; exact ha a ha'
  · exact h3 a ha' c hc
theorem owns_mono {w : World} {b b' : Nat} {e : TypeId} {size : Nat} {v : Value} {n : Nat} {xs : List Value} (h : w.ownsRow b e size v n xs) (hb : b' ≤ b) : w.ownsRow b' e size v n xs := by
  refine ⟨h.1, ?_⟩
  rcases h.2 with h | ⟨g, cap, cur, h1, h2, h3⟩
  · exact Or.inl h
  · exact Or.inr ⟨g, cap, cur, h1, Nat.le_trans hb h2, h3⟩
theorem bl_take (X : List ByteArray) (k : Nat) : bl (X.take k) = (bl X).take k := by simp [bl]
theorem bl_drop (X : List ByteArray) (k : Nat) : bl (X.drop k) = (bl X).drop k := by simp [bl]
theorem bl_get {X : List ByteArray} {j : Nat} (h : j < X.length) : (bl X)[j]'(by rw [bl_len]; exact h) = X[j].data.toList := by simp [bl]
/-- What is held of the texts up to k. -/
def Kept (L : List ByteArray) (k : Nat) (X : List ByteArray) : Prop := rises (bl X) ∧ ∀ t, t ∈ bl X ↔ t ∈ bl (L.take k) ∧ verErr t = 0
theorem kept_no {L : List ByteArray} {k : Nat} {X : List ByteArray} (hk : k < L.length) (h : Kept L k X) (hv : verErr L[k].data.toList ≠ 0) : Kept L (k + 1) X := by
  refine ⟨h.1, fun t => ?_⟩
  rw [h.2 t, bl_take_snoc L k hk, List.mem_append, List.mem_singleton]
  constructor
  · rintro ⟨a, b⟩; exact ⟨Or.inl a, b⟩
  · rintro ⟨a | a, b⟩
    · exact ⟨a, b⟩
    · rw [a] at b; exact absurd b hv
theorem kept_old {L : List ByteArray} {k : Nat} {X : List ByteArray} (hk : k < L.length) (h : Kept L k X) (hm : L[k].data.toList ∈ bl X) : Kept L (k + 1) X := by
  refine ⟨h.1, fun t => ?_⟩
  rw [bl_take_snoc L k hk, List.mem_append, List.mem_singleton]
  constructor
  · intro ht
    exact ⟨Or.inl ((h.2 t).1 ht).1, ((h.2 t).1 ht).2⟩
  · rintro ⟨a | a, b⟩
    · exact (h.2 t).2 ⟨a, b⟩
    · rw [a]; exact hm
theorem kept_new {L : List ByteArray} {k : Nat} {X : List ByteArray} (hk : k < L.length) (h : Kept L k X) (hv : verErr L[k].data.toList = 0) {j : Nat} (hj : j ≤ X.length) (hlt : ∀ t (ht : t < X.length), t < j → ordV X[t].data.toList L[k].data.toList < 0)
    (hge : ∀ (ht : j < X.length), ¬ ordV X[j].data.toList L[k].data.toList < 0 ∧ X[j].data.toList ≠ L[k].data.toList) : Kept L (k + 1) (X.take j ++ L[k] :: X.drop j) := by
  have e : bl (X.take j ++ L[k] :: X.drop j) = (bl X).take j ++ L[k].data.toList :: (bl X).drop j := by simp [bl]
  refine ⟨?_, fun t => ?_⟩
  · rw [e]
    refine rises_ins (by rw [List.take_append_drop]; exact h.1) ?_ ?_
    · intro a ha
      obtain ⟨i, hi, e2⟩ := List.mem_iff_getElem.1 ha
      rw [List.getElem_take] at e2
      simp [bl_len] at hi
      rw [bl_get (by omega)] at e2
      rw [← e2]; exact hlt i (by omega) (by omega)
    · intro b hb
      rw [List.head?_drop] at hb
      obtain ⟨hl, e2⟩ := List.getElem?_eq_some_iff.1 hb
      rw [bl_len] at hl
      rw [bl_get hl] at e2
      obtain ⟨h1, h2⟩ := hge hl
      rw [e2] at h1 h2
      have hbv : verErr b = 0 := ((h.2 b).1 (by rw [← e2]; exact bl_mem (List.getElem_mem hl))).2
      rw [ordV_swap b]
      rcases ordV_range b L[k].data.toList with r | r | r
      · omega
      · exact absurd ((ordV_zero hbv hv).1 r) h2
      · omega
  · rw [e, List.mem_append, List.mem_cons, bl_take_snoc L k hk, List.mem_append, List.mem_singleton]
    have hm := h.2 t
    rw [← List.take_append_drop j (bl X), List.mem_append] at hm
    constructor
    · rintro (a | a | a)
      · exact ⟨Or.inl (hm.1 (Or.inl a)).1, (hm.1 (Or.inl a)).2⟩
      · rw [a]; exact ⟨Or.inr rfl, hv⟩
      · exact ⟨Or.inl (hm.1 (Or.inr a)).1, (hm.1 (Or.inr a)).2⟩
    · rintro ⟨a | a, b⟩
      · rcases hm.2 ⟨a, b⟩ with c | c
        · exact Or.inl c
        · exact Or.inr (Or.inr c)
      · exact Or.inr (Or.inl a)
end Ve
end Go.Proofs.YtmgpapghdbopiaaGreatDoor
