/-
  Plain lemmas on errors by their numbers; and what the document's answer says of a text that is no version by its first byte (VerOf).
-/
import Derived.Test.YtmgpapghdbopiaaGreatDoorRefB
import Derived.Test.YtmgpapghdbopiaaGreatDoorVerE
namespace Go.Proofs.YtmgpapghdbopiaaGreatDoor
open Go.RowKit
namespace Ve

/-- The worst of errors, at once. -/
def worst (b : Nat) (cs : List Nat) : Nat := if b = 1 ∨ 1 ∈ cs then 1 else if b = 2 ∨ 2 ∈ cs then 2 else 0
theorem worst_fold {α : Type} (f : α → Nat) (hf : ∀ x, f x = 0 ∨ f x = 1 ∨ f x = 2) : ∀ (ps : List α) (b : Nat), (b = 0 ∨ b = 1 ∨ b = 2) → ps.foldl (fun b p => worse b (f p)) b = worst b (ps.map f) := by
  intro ps
  induction ps with
  | nil =>
    intro b hb
    rcases hb with rfl | rfl | rfl <;> simp [worst]
  | cons p r ih =>
    intro b hb
    rw [List.foldl_cons, ih _ (worse_err hb (hf p))]
    rcases hb with rfl | rfl | rfl <;> rcases hf p with h | h | h <;> simp [worst, worse, h]
theorem numsErr_worst (ps : List (List UInt8)) : numsErr ps = worst 0 (ps.map fun p => (num p).2) := worst_fold _ num_err ps 0 (Or.inl rfl)
theorem preTo_worst (b : Nat) (hb : b = 0 ∨ b = 1 ∨ b = 2) (ps : List (List UInt8)) : preTo b ps = worst b (ps.map part) := worst_fold _ part_err ps b hb

set_option maxRecDepth 100000 in
set_option maxHeartbeats 1000000 in
theorem verOf_head (s : ByteArray) (w : World) (hs : s.size < 4294967281) (h : marked s.data.toList = false) :
    Calls Tryz.prog 7 #[.string s] w fun e w' => e = .returned (.tuple #[.agg #[.int .i64 0, .int .i64 0, .int .i64 0, .slice none 0 0], .int .i64 1]) ∧ Below w.heap.size w w' := by
  have HM := hid h
  clear h
  by_cases h0 : s.size = 0
  · have h0b : ((s.size : Int) == 0) = true := beq_iff_eq.2 (by omega)
    go_enter Tryz.func7, Tryz.ntmps7
    go_wp2_with fail
    exact bodyPost_ret (v := .tuple #[.agg #[.int .i64 0, .int .i64 0, .int .i64 0, .slice none 0 0], .int .i64 1]) (by simp [results, Tryz.results7, go_sem]) rfl ⟨rfl, (Below.refl _ _).alloc (Nat.le_refl _) _⟩
  · have h0b : ((s.size : Int) == 0) = false := beq_eq_false_iff_ne.2 (by omega)
    have hp : 0 < s.size := by omega
    have hv : ((s[0].toNat : Int) == 118) = false := by
      have := HM.out
      unfold marked at this
      rw [List.headD_eq_head?_getD, List.head?_eq_getElem?, List.getElem?_eq_getElem (by simpa using hp)] at this
      simp at this ⊢
      intro e
      apply this
      apply UInt8.toNat_inj.1
      show s[0].toNat = 118
      omega
    go_enter Tryz.func7, Tryz.ntmps7
    go_wp2_with fail
    exact bodyPost_ret (v := .tuple #[.agg #[.int .i64 0, .int .i64 0, .int .i64 0, .slice none 0 0], .int .i64 1]) (by simp [results, Tryz.results7, go_sem]) rfl ⟨rfl, (Below.refl _ _).alloc (Nat.le_refl _) _⟩
end Ve
end Go.Proofs.YtmgpapghdbopiaaGreatDoor
