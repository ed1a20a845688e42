/-
  What graph.Edges answers.
-/
import Derived.Test.YtanponneancajaaGreatDoorGrF
namespace Go.Proofs.YtanponneancajaaGreatDoor
open Go.RowKit Go.Maps
namespace Ve

/-- How long a slice is. -/
def lenV : Value → Nat
  | .slice _ n _ => n
  | _ => 0
/-- How many requirements there are in all. -/
def sumR : List Raw → Nat
  | [] => 0
  | r :: X => lenV r.2.1 + sumR X
theorem sumR_app : ∀ (X Y : List Raw), sumR (X ++ Y) = sumR X + sumR Y
  | [], Y => by simp [sumR]
  | r :: X, Y => by rw [List.cons_append]; show lenV r.2.1 + sumR (X ++ Y) = lenV r.2.1 + sumR X + sumR Y; rw [sumR_app X Y]; omega
theorem sumR_next {X : List Raw} {k : Nat} (hk : k < X.length) : sumR (X.take (k + 1)) = sumR (X.take k) + lenV X[k].2.1 := by
  rw [List.take_succ_eq_append_getElem hk, sumR_app]
  simp [sumR]
theorem sumR_le (B : Nat) : ∀ (X : List Raw), (∀ r, r ∈ X → lenV r.2.1 ≤ B) → sumR X ≤ X.length * B
  | [], _ => by simp [sumR]
  | r :: X, h => by
    have h1 := h r (by simp)
    have h2 := sumR_le B X fun x hx => h x (by simp [hx])
    have h3 : sumR (r :: X) = lenV r.2.1 + sumR X := rfl
    rw [h3, List.length_cons, Nat.succ_mul]
    omega
theorem sumR_take_le (X : List Raw) (k : Nat) (B : Nat) (h : ∀ r, r ∈ X → lenV r.2.1 ≤ B) : sumR (X.take k) ≤ X.length * B := by
  have h1 := sumR_le B (X.take k) fun r hr => h r (List.mem_of_mem_take hr)
  have h2 : (X.take k).length ≤ X.length := by rw [List.length_take]; omega
  exact Nat.le_trans h1 (Nat.mul_le_mul_right B h2)
theorem lenV_ms {w : World} {v : Value} {R : List Bm} (h : MsAt w v R) : lenV v = R.length := by
  obtain ⟨a, c, e, -⟩ := h
  rw [e]; rfl
theorem Ixs.lenR {w : World} {v : Value} {Q : List Raw} {L : List Ent} (I : Ixs w v Q L) (sh : ∀ e, e ∈ L → ShE e) : ∀ r, r ∈ Q → lenV r.2.1 ≤ 1000000 := fun r hr => by
  obtain ⟨k, hk, rfl⟩ := List.getElem_of_mem hr
  have hk' : k < L.length := by rw [← I.ln]; exact hk
  rw [lenV_ms (I.ok k hk hk').rq]
  exact (sh _ (List.getElem_mem hk')).rn
theorem sum_idx {s n : Nat} (h : s + n ≤ 2000000000) : Value.int .i64 (wrap64 ((s : Int) + (n : Int))) = .int .i64 ((s + n : Nat) : Int) := by
  rw [IntWalk.wrap64_in _ (by omega)]; rfl
end Ve
end Go.Proofs.YtanponneancajaaGreatDoor
