/-
  The versions that are kept are the same ones, whoever keeps them.
-/
import Derived.Test.YtanponneancajaaGreatDoorIxP
namespace Go.Proofs.YtanponneancajaaGreatDoor
open Go.RowKit Go.Maps
namespace Ve

theorem pw_ext {α : Type} {r : α → α → Prop} (irr : ∀ a, ¬ r a a) (asy : ∀ a b, r a b → ¬ r b a) : ∀ {E F : List α}, E.Pairwise r → F.Pairwise r → (∀ m, m ∈ E ↔ m ∈ F) → E = F
  | [], [], _, _, _ => rfl
  | [], f :: F, _, _, h => by have := (h f).2 (by simp); cases this
  | e :: E, [], _, _, h => by have := (h e).1 (by simp); cases this
  | e :: E, f :: F, hE, hF, h => by
    obtain ⟨hE1, hE2⟩ := List.pairwise_cons.1 hE
    obtain ⟨hF1, hF2⟩ := List.pairwise_cons.1 hF
    have hef : e = f := by
      rcases List.mem_cons.1 ((h e).1 (by simp)) with a | a
      · exact a
      · rcases List.mem_cons.1 ((h f).2 (by simp)) with b | b
        · exact b.symm
        · exact absurd (hE1 f b) (asy _ _ (hF1 e a))
    subst hef
    have : E = F := pw_ext irr asy hE2 hF2 fun m => by
      constructor
      · intro hm
        rcases List.mem_cons.1 ((h m).1 (List.mem_cons_of_mem _ hm)) with a | a
        · subst a; exact absurd (hE1 m hm) (irr _)
        · exact a
      · intro hm
        rcases List.mem_cons.1 ((h m).2 (List.mem_cons_of_mem _ hm)) with a | a
        · subst a; exact absurd (hF1 m hm) (irr _)
        · exact a
    rw [this]
theorem kept_one {L : List ByteArray} {n : Nat} {X Y : List ByteArray} (hX : Kept L n X) (hY : Kept L n Y) : X = Y := by
  have h : bl X = bl Y := pw_ext (r := fun s t => ordV s t < 0) (fun a h => ordV_irr h h) (fun a b h => ordV_irr h) hX.1 hY.1 fun t => by rw [hX.2, hY.2]
  exact (List.map_inj_right (fun x y e => str_ext e)).1 h
end Ve
end Go.Proofs.YtanponneancajaaGreatDoor
