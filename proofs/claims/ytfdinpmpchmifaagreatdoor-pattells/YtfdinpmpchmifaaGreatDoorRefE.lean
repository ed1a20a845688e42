/-
  Plain lemmas on errors by their numbers; and what the document's answer says of a text that is no version by its first byte (VerOf).
-/
import Derived.Test.YtfdinpmpchmifaaGreatDoorRefB
import Derived.Test.YtfdinpmpchmifaaGreatDoorVerE
namespace Go.Proofs.YtfdinpmpchmifaaGreatDoor
open Go.RowKit
namespace Ve

/-- The worst of errors, at once. -/
def worst (b : Nat) (cs : List Nat) : Nat := if b = 1 ∨ 1 ∈ cs then 1 else if b = 2 ∨ 2 ∈ cs then 2 else 0
theorem worst_fold {α : Type} (f : α → Nat) (hf : ∀ x, f x = 0 ∨ f x = 1 ∨ f x = 2) : ∀ (ps : List α) (b : Nat), (b = 0 ∨ b = 1 ∨ b = 2) → ps.foldl (fun b p => worse b (f p)) b = worst b (ps.map f) := by
  intro ps
  induction ps with
  | nil =>
    intro b hb
    rcases hb with rfl | rfl | rfl <;> simp [worst]
  | cons p r ih =>
    intro b hb
    rw [List.foldl_cons, ih _ (worse_err hb (hf p))]
    rcases hb with rfl | rfl | rfl <;> rcases hf p with h | h | h <;> simp [worst, worse, h]
theorem numsErr_worst (ps : List (List UInt8)) : numsErr ps = worst 0 (ps.map fun p => (num p).2) := worst_fold _ num_err ps 0 (Or.inl rfl)
theorem preTo_worst (b : Nat) (hb : b = 0 ∨ b = 1 ∨ b = 2) (ps : List (List UInt8)) : preTo b ps = worst b (ps.map part) := worst_fold _ part_err ps b hb

end Ve
end Go.Proofs.YtfdinpmpchmifaaGreatDoor
