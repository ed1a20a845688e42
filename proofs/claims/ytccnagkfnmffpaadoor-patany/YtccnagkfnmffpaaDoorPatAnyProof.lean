/-
  The card of pewholderlaw3.PatAny: true for every input; the input reads as it did. Conditions: the row's own cells, which the card ties.
-/
import Derived.Test.YtccnagkfnmffpaaDoorPatAnyLift
import Derived.Test.YtccnagkfnmffpaaDoorCards
import Derived.Test.YtccnagkfnmffpaaDoorTie
import Derived.SevenTiedAt
namespace Go.Proofs.YtccnagkfnmffpaaDoor
open Go.ChangeShapes Go.WideShapes Go.ChangeAt Go.RowKit Go.ChangeMaps Go.Joins

theorem patAny_factI : (Rows.patAnyRow.inPlace == Tryd.pinned.checked.prog.inPlace 3) = true := by kernel_rfl
theorem patAny_factU : (Rows.patAnyRow.unfollowed == Tryd.pinned.checked.prog.unfollowed 3) = true := by kernel_rfl
theorem patAny_factR : (Rows.patAnyRow.recurses == Tryd.pinned.checked.prog.recurses 3) = true := by kernel_rfl
theorem patAny_factN : (Rows.patAnyRow.named == Tryd.pinned.checked.prog.varsNamed 3) = true := by kernel_rfl
theorem patAny_facts : joinedFacts Tryd.pinned.checked.prog 3 Tryd.f3 Rows.patAnySpec Rows.patAnyRow = true := by
  unfold joinedFacts
  rw [patAny_factI, patAny_factU, patAny_factR, patAny_factN]
  kernel_rfl

theorem patAny_row_holds : Rows.PatAnySaid :=
  OpenClaim.holds_of_wide 3 Tryd.f3 rfl rfl rfl rfl rfl rfl rfl ⟨rfl, rfl, rfl, rfl, rfl⟩ rfl rfl rfl rfl rfl (by kernel_rfl) Tryd.func3 patAny_facts
    (of_decide_eq_true (by kernel_rfl)) (by unfold Func.isWrapper; rw [if_neg (of_decide_eq_false (by kernel_rfl))]; exact ⟨rfl, rfl⟩)
    (fun os started H enc _ => Ve.patAny_lifted os started H enc)

theorem patAny_holds : Rows.PatAnyCardSaid :=
  Claim7.holds_tied_plain_at .later [] Rows.patAnyCard.laidKinds true Rows.patAnyCard.stood.harness false
    patAny_row_holds (fun _ h => by cases h) (by kernel_rfl) (fun _ h => by cases h) patAny_row_tie rfl ⟨rfl, rfl⟩ (by kernel_rfl) rfl
    (fun f fn hf hfn => by
      obtain rfl : f = 3 := Option.some.inj ((show Tryd.prog.funcNamed Rows.patAnyRow.func = some 3 by kernel_rfl).symm.trans hf) |>.symm
      obtain rfl : fn = Tryd.f3 := (Option.some.inj (Tryd.func3.symm.trans hfn)).symm
      exact ⟨by kernel_rfl, fun j t ht => Ve.wants2 t (Array.mem_of_getElem? ht)⟩)
    (by kernel_rfl)
#print axioms patAny_holds
end Go.Proofs.YtccnagkfnmffpaaDoor
