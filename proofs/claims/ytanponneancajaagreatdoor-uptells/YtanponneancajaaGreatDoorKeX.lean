/-
  Right versions, sorted: there is such a row (plain).
-/
import Derived.Test.YtanponneancajaaGreatDoorKpO
namespace Go.Proofs.YtanponneancajaaGreatDoor
open Go.RowKit Go.Maps
namespace Ve

theorem ordV_three {s t : List UInt8} (hs : verErr s = 0) (ht : verErr t = 0) : ordV s t < 0 ∨ s = t ∨ ordV t s < 0 := by
  rcases ordV_range s t with h | h | h
  · exact Or.inl (by omega)
  · exact Or.inr (Or.inl ((ordV_zero hs ht).1 h))
  · exact Or.inr (Or.inr (by rw [ordV_swap s t]; omega))
/-- Right versions, sorted: there is such a row. -/
theorem sorted_ex : ∀ L : List ByteArray, (∀ x, x ∈ L → verErr x.data.toList = 0) → ∃ X : List ByteArray, rises (bl X) ∧ ∀ t, t ∈ bl X ↔ t ∈ bl L
  | [], _ => ⟨[], List.Pairwise.nil, fun t => Iff.rfl⟩
  | x :: L, h => by
    obtain ⟨X, h1, h2⟩ := sorted_ex L fun y hy => h y (List.mem_cons_of_mem _ hy)
    have hx := h x (List.mem_cons_self ..)
    have hv : ∀ y, y ∈ X → verErr y.data.toList = 0 := fun y hy => by
      have := (h2 y.data.toList).1 (List.mem_map.2 ⟨y, hy, rfl⟩)
      obtain ⟨z, hz, e⟩ := List.mem_map.1 this
      rw [← e]; exact h z (List.mem_cons_of_mem _ hz)
    let lo := X.filter fun y => decide (ordV y.data.toList x.data.toList < 0)
    let hi := X.filter fun y => decide (ordV x.data.toList y.data.toList < 0)
    have hr : X.Pairwise fun a b => ordV a.data.toList b.data.toList < 0 := by
      have := h1
      unfold rises bl at this
      exact List.pairwise_map.1 this
    refine ⟨lo ++ (x :: hi), ?_, fun t => ?_⟩
    · unfold rises bl
      rw [List.pairwise_map, List.pairwise_append]
      refine ⟨List.Pairwise.filter _ hr, List.pairwise_cons.2 ⟨fun b hb => of_decide_eq_true (List.mem_filter.1 hb).2, List.Pairwise.filter _ hr⟩, fun a ha b hb => ?_⟩
      have ha2 := of_decide_eq_true (List.mem_filter.1 ha).2
      rcases List.mem_cons.1 hb with rfl | hb
      · exact ha2
      · exact ordV_trans ha2 (of_decide_eq_true (List.mem_filter.1 hb).2)
    · constructor
      · intro ht
        obtain ⟨y, hy, rfl⟩ := List.mem_map.1 ht
        rcases List.mem_append.1 hy with hy | hy
        · exact List.mem_cons_of_mem _ ((h2 _).1 (List.mem_map.2 ⟨y, (List.mem_filter.1 hy).1, rfl⟩))
        · rcases List.mem_cons.1 hy with rfl | hy
          · exact List.mem_cons_self ..
          · exact List.mem_cons_of_mem _ ((h2 _).1 (List.mem_map.2 ⟨y, (List.mem_filter.1 hy).1, rfl⟩))
      · intro ht
        rcases List.mem_cons.1 ht with rfl | ht
        · exact List.mem_map.2 ⟨x, List.mem_append_right _ (List.mem_cons_self ..), rfl⟩
        · obtain ⟨y, hy, rfl⟩ := List.mem_map.1 ((h2 t).2 ht)
          refine List.mem_map.2 ?_
          rcases ordV_three (hv y hy) hx with h3 | h3 | h3
          · exact ⟨y, List.mem_append_left _ (List.mem_filter.2 ⟨hy, decide_eq_true h3⟩), rfl⟩
          · exact ⟨x, List.mem_append_right _ (List.mem_cons_self ..), h3.symm⟩
          · exact ⟨y, List.mem_append_right _ (List.mem_cons_of_mem _ (List.mem_filter.2 ⟨hy, decide_eq_true h3⟩)), rfl⟩
theorem kept_ex {L : List ByteArray} (h : ∀ x, x ∈ L → verErr x.data.toList = 0) : ∃ X, Kept L L.length X := by
  obtain ⟨X, h1, h2⟩ := sorted_ex L h
  refine ⟨X, h1, fun t => ?_⟩
  rw [h2, List.take_length]
  refine ⟨fun ht => ⟨ht, ?_⟩, fun ht => ht.1⟩
  obtain ⟨y, hy, rfl⟩ := List.mem_map.1 ht
  exact h y hy
end Ve
end Go.Proofs.YtanponneancajaaGreatDoor
